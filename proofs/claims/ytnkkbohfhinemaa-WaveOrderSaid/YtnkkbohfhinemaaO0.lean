/- Segments are in order: they do not overlap, are not empty and not too long; loud samples are speech from the first one on. -/
import Derived.Test.YtnkkbohfhinemaaL0
import Derived.Test.YtnkkbohfhinemaaVMem
namespace Go.Proofs.Ytnkkbohfhinemaa

/-- in order from last on, multiples of B, not empty, not longer than X blocks and a part, not behind n -/
def okP (B X n : Int) (last : Int) (p : Int × Int) : Prop := last ≤ p.1 ∧ p.1 < p.2 ∧ p.2 ≤ n ∧ (∃ q : Int, 0 ≤ q ∧ p.1 = q * B) ∧ p.2 - p.1 < (X + 1) * B
def okL (B X n : Int) : Int → List (Int × Int) → Prop
  | _, [] => True
  | last, p :: ps => okP B X n last p ∧ okL B X n p.2 ps
def lastOf (a : Int) : List (Int × Int) → Int
  | [] => a
  | p :: ps => lastOf p.2 ps
theorem lastOf_app (a : Int) (ps qs : List (Int × Int)) : lastOf a (ps ++ qs) = lastOf (lastOf a ps) qs := by
  induction ps generalizing a with
  | nil => rfl
  | cons p ps ih => exact ih p.2
theorem okL_app {B X n a : Int} {ps qs : List (Int × Int)} (h : okL B X n a ps) (k : okL B X n (lastOf a ps) qs) : okL B X n a (ps ++ qs) := by
  induction ps generalizing a with
  | nil => exact k
  | cons p ps ih => exact ⟨h.1, ih h.2 k⟩
theorem okL_at {B X n : Int} : ∀ {ps : List (Int × Int)} {a : Int} {k : Nat} {p : Int × Int}, okL B X n a ps → ps[k]? = some p → okP B X n (lastOf a (ps.take k)) p
  | [], _, _, _, _, hk => by simp at hk
  | q :: ps, a, 0, p, h, hk => by
    simp at hk
    subst hk
    exact h.1
  | q :: ps, a, k + 1, p, h, hk => by
    rw [List.getElem?_cons_succ] at hk
    rw [List.take_succ_cons]
    exact okL_at (a := q.2) h.2 hk
theorem lastOf_snoc {a : Int} {ps : List (Int × Int)} {p : Int × Int} : lastOf a (ps ++ [p]) = p.2 := by rw [lastOf_app]; rfl

/-- the machine's state behind b blocks -/
structure Ord (G : Gt) (n : Int) (b : Int) (m : Ms) (S : List (Int × Int)) : Prop where
  ok : okL G.B G.X n 0 S
  last : lastOf 0 S = m.last * G.B
  l0 : 0 ≤ m.last
  lb : m.last ≤ b
  r0 : 0 ≤ m.run
  sp : m.sp = true → m.last ≤ m.first ∧ m.first + m.run < b ∧ b - m.first < G.X

theorem mul_le_r {a b B : Int} (h : a ≤ b) (hB : 0 ≤ B) : a * B ≤ b * B := Int.mul_le_mul_of_nonneg_right h hB
theorem mul_lt_r {a b B : Int} (h : a < b) (hB : 0 < B) : a * B < b * B := Int.mul_lt_mul_of_pos_right h hB

theorem okP_mk {G : Gt} (hG : G.Ok) {n last f t : Int} (h0 : 0 ≤ f) (h1 : last ≤ f) (h2 : f < t) (h3 : t * G.B ≤ n) (h4 : t - f ≤ G.X) : okP G.B G.X n (last * G.B) (f * G.B, t * G.B) := by
  have hB : (0 : Int) < G.B := by have := hG.b1; omega
  refine ⟨mul_le_r h1 (by omega), mul_lt_r h2 hB, h3, ⟨f, h0, rfl⟩, ?_⟩
  show t * G.B - f * G.B < (G.X + 1) * G.B
  rw [← Int.sub_mul]
  exact mul_lt_r (by omega) hB

theorem Ord.step {G : Gt} (hG : G.Ok) {n b E : Int} {m : Ms} {S : List (Int × Int)} (h : Ord G n b m S) (hb : 0 ≤ b) (hn : (b + 1) * G.B ≤ n) : Ord G n (b + 1) (hearM G b E m) (S ++ hearS G b E m) := by
  obtain ⟨h1, h2, h3, h4, h5, h6⟩ := h
  have g1 := hG.r1
  have g2 := hG.f1
  have g3 := hG.d1
  have g4 := hG.x1
  cases hs : m.sp with
  | false =>
    have e1 : hearS G b E m = [] := by unfold hearS; rw [hs]; rfl
    have e2 : hearM G b E m = awt G b (decide (G.H * G.B ≤ E)) m := by unfold hearM; rw [hs]; rfl
    rw [e1, e2, List.append_nil]
    unfold awt
    split
    · split
      · exact ⟨h1, h2, h3, by dsimp only; omega, Int.le_refl _, fun _ => ⟨by dsimp only; omega, by dsimp only; omega, by dsimp only; omega⟩⟩
      · exact ⟨h1, h2, h3, by dsimp only; omega, by dsimp only; omega, fun e => by dsimp only at e; rw [hs] at e; cases e⟩
    · exact ⟨h1, h2, h3, by dsimp only; omega, Int.le_refl _, fun e => by dsimp only at e; rw [hs] at e; cases e⟩
  | true =>
    obtain ⟨k1, k2, k3⟩ := h6 hs
    generalize hq : decide (E < G.L * G.B) = q
    have hr : 0 ≤ frun q m ∧ frun q m ≤ m.run + 1 := by unfold frun; split <;> omega
    by_cases he : fend G b q m = -1
    · have e1 : hearS G b E m = [] := by unfold hearS; rw [hq, hs, if_pos rfl, if_pos he]
      have e2 : hearM G b E m = ⟨true, frun q m, m.first, m.last⟩ := by unfold hearM; rw [hq, hs, if_pos rfl, if_pos he]
      rw [e1, e2, List.append_nil]
      refine ⟨h1, h2, h3, by dsimp only; omega, hr.1, fun _ => ⟨k1, by dsimp only; omega, ?_⟩⟩
      dsimp only
      unfold fend at he
      split at he
      · omega
      · split at he <;> omega
    · have e1 : hearS G b E m = [(m.first * G.B, fend G b q m * G.B)] := by unfold hearS; rw [hq, hs, if_pos rfl, if_neg he]
      have e2 : hearM G b E m = ⟨false, 0, m.first, fend G b q m⟩ := by unfold hearM; rw [hq, hs, if_pos rfl, if_neg he]
      rw [e1, e2]
      have hf : m.first < fend G b q m ∧ fend G b q m ≤ b + 1 ∧ fend G b q m - m.first ≤ G.X := by
        unfold fend at he ⊢
        split at he
        · rename_i hh
          rw [if_pos hh]
          have : q = true := by
            cases q with
            | true => rfl
            | false => unfold frun at hh; simp at hh; omega
          subst this
          have : frun true m = m.run + 1 := rfl
          omega
        · rename_i hh
          rw [if_neg hh]
          split at he
          · rename_i h7
            rw [if_pos h7]; omega
          · omega
      refine ⟨okL_app h1 ⟨?_, trivial⟩, by rw [lastOf_snoc], by dsimp only; omega, by dsimp only; omega, Int.le_refl _, fun e => by dsimp only at e; cases e⟩
      rw [h2]
      exact okP_mk hG (by omega) k1 hf.1 (Int.le_trans (mul_le_r hf.2.1 (by omega)) hn) hf.2.2
theorem Ord.run {G : Gt} (hG : G.Ok) (xs : List Int) : ∀ b : Nat, b * G.B ≤ xs.length → Ord G xs.length b (runM G xs b) (runS G xs b)
  | 0, _ => ⟨trivial, by show (0 : Int) = 0 * _; omega, Int.le_refl _, Int.le_refl _, Int.le_refl _, fun e => by cases e⟩
  | b + 1, h => by
    have h2 := h
    rw [Nat.add_mul] at h2
    have := (Ord.run hG xs b (by omega)).step (E := eng (blk G xs b)) hG (by omega) (by rw [show (b : Int) + 1 = ((b + 1 : Nat) : Int) from (Int.natCast_succ b).symm, ← Int.natCast_mul]; omega)
    rw [Int.natCast_succ]
    exact this

theorem segs_ok {G : Gt} (hG : G.Ok) (xs : List Int) : okL G.B G.X xs.length 0 (segs G xs ++ lastS G xs) := by
  have hB := hG.b1
  have hd := Nat.div_mul_le_self xs.length G.B
  have hlt := Nat.lt_div_mul_add (show 0 < G.B by omega) (a := xs.length)
  have h := Ord.run hG xs (xs.length / G.B) hd
  refine okL_app h.ok ?_
  unfold lastS
  split
  · rename_i hs
    obtain ⟨k1, k2, k3⟩ := h.sp hs
    have k0 := h.l0
    have kr := h.r0
    refine ⟨?_, trivial⟩
    show okP G.B G.X xs.length (lastOf 0 (runS G xs (xs.length / G.B))) _
    rw [h.last]
    change (runM G xs (xs.length / G.B)).last ≤ (endM G xs).first at k1
    change (endM G xs).first + _ < _ at k2
    change _ - (endM G xs).first < _ at k3
    have hd' : ((xs.length / G.B : Nat) : Int) * (G.B : Int) ≤ xs.length := by rw [← Int.natCast_mul]; omega
    have hlt' : (xs.length : Int) < ((xs.length / G.B : Nat) : Int) * (G.B : Int) + G.B := by rw [← Int.natCast_mul]; omega
    generalize ((xs.length / G.B : Nat) : Int) = q at *
    generalize (endM G xs).first = f at *
    refine ⟨mul_le_r k1 (by omega), ?_, Int.le_refl _, ⟨f, by omega, rfl⟩, ?_⟩
    · have := mul_lt_r (B := (G.B : Int)) (show f < q by omega) (by omega)
      dsimp only; omega
    · have := mul_le_r (B := (G.B : Int)) (show q ≤ f + G.X by omega) (by omega)
      rw [Int.add_mul] at this
      rw [Int.add_mul, Int.one_mul]
      dsimp only; omega
  · trivial

/-- all samples are loud -/
def loudA (H : Int) (xs : List Int) : Bool := xs.all fun x => decide (H ≤ x * x)
theorem loudA_snoc {H : Int} {xs : List Int} {x : Int} : loudA H (xs ++ [x]) = (loudA H xs && decide (H ≤ x * x)) := by unfold loudA; simp
theorem eng_loud {H : Int} {xs : List Int} (h : ∀ x ∈ xs, H ≤ x * x) : H * (xs.length : Int) ≤ eng xs := by
  induction xs with
  | nil => simp [eng]
  | cons x xs ih =>
    have h1 := h x (List.mem_cons.2 (.inl rfl))
    have h2 := ih fun y hy => h y (List.mem_cons.2 (.inr hy))
    have e : eng (x :: xs) = x * x + eng xs := by simp [eng]
    rw [e, List.length_cons, Int.natCast_succ, Int.mul_add]
    omega
theorem blk_len {G : Gt} {xs : List Int} {b : Nat} (h : (b + 1) * G.B ≤ xs.length) : (blk G xs b).length = G.B := by
  unfold blk
  rw [Nat.add_mul, Nat.one_mul] at h
  rw [List.length_take, List.length_drop]
  omega
theorem blk_loud {G : Gt} {xs : List Int} {b : Nat} (h : (b + 1) * G.B ≤ xs.length) (hl : loudA G.H xs = true) : G.H * (G.B : Int) ≤ eng (blk G xs b) := by
  have := eng_loud (H := G.H) (xs := blk G xs b) fun x hx => by
    have h1 : x ∈ xs := List.mem_of_mem_drop (List.mem_of_mem_take hx)
    exact of_decide_eq_true (List.all_eq_true.1 hl x h1)
  rw [blk_len h] at this
  exact this

/-- the state of a loud list: it waits in its first blocks, and then speaks from 0 on, or has spoken -/
def Loud (G : Gt) (b : Int) (m : Ms) (S : List (Int × Int)) : Prop :=
  (b < G.R ∧ m.sp = false ∧ m.run = b ∧ m.last = 0 ∧ S = []) ∨ (G.R ≤ b ∧ m.sp = true ∧ m.first = 0 ∧ S = []) ∨ (G.R ≤ b ∧ ∃ t T, S = (0, t) :: T)
theorem Loud.step {G : Gt} (hG : G.Ok) {b E : Int} {m : Ms} {S : List (Int × Int)} (h : Loud G b m S) (hE : G.H * G.B ≤ E) : Loud G (b + 1) (hearM G b E m) (S ++ hearS G b E m) := by
  have g1 := hG.r1
  have g3 := hG.d1
  rcases h with ⟨h1, h2, h3, h4, rfl⟩ | ⟨h1, h2, h3, rfl⟩ | ⟨h1, t, T, rfl⟩
  · have e1 : hearS G b E m = [] := by unfold hearS; rw [h2]; rfl
    have e2 : hearM G b E m = awt G b true m := by unfold hearM; rw [h2, decide_eq_true hE]; rfl
    rw [e1, e2]
    unfold awt
    rw [if_pos rfl]
    split
    · exact .inr (.inl ⟨by omega, rfl, by dsimp only; omega, rfl⟩)
    · exact .inl ⟨by omega, h2, by dsimp only; omega, h4, rfl⟩
  · generalize hq : decide (E < G.L * G.B) = q
    by_cases he : fend G b q m = -1
    · have e1 : hearS G b E m = [] := by unfold hearS; rw [hq, h2, if_pos rfl, if_pos he]
      have e2 : hearM G b E m = ⟨true, frun q m, m.first, m.last⟩ := by unfold hearM; rw [hq, h2, if_pos rfl, if_pos he]
      rw [e1, e2]
      exact .inr (.inl ⟨by omega, rfl, h3, rfl⟩)
    · have e1 : hearS G b E m = [(m.first * G.B, fend G b q m * G.B)] := by unfold hearS; rw [hq, h2, if_pos rfl, if_neg he]
      rw [e1, h3, Int.zero_mul]
      exact .inr (.inr ⟨by omega, _, [], rfl⟩)
  · exact .inr (.inr ⟨by omega, t, T ++ hearS G b E m, rfl⟩)
theorem Loud.run {G : Gt} (hG : G.Ok) {xs : List Int} (hl : loudA G.H xs = true) : ∀ b : Nat, b * G.B ≤ xs.length → Loud G b (runM G xs b) (runS G xs b)
  | 0, _ => .inl ⟨by have := hG.r1; omega, rfl, rfl, rfl, rfl⟩
  | b + 1, h => by
    have h2 := h
    rw [Nat.add_mul] at h2
    have := (Loud.run hG hl b (by omega)).step hG (blk_loud h hl)
    rw [Int.natCast_succ]
    exact this
theorem segs_loud {G : Gt} (hG : G.Ok) {xs : List Int} (hl : loudA G.H xs = true) (hn : G.R * G.B ≤ xs.length) : ∃ t T, segs G xs ++ lastS G xs = (0, t) :: T := by
  have hB := hG.b1
  have g1 := hG.r1
  have hd := Nat.div_mul_le_self xs.length G.B
  have h := Loud.run hG hl (xs.length / G.B) hd
  have hR : G.R ≤ ((xs.length / G.B : Nat) : Int) := by
    rw [Int.natCast_ediv]
    exact (Int.le_ediv_iff_mul_le (by omega)).2 hn
  rcases h with ⟨h1, _⟩ | ⟨h1, h2, h3, h4⟩ | ⟨h1, t, T, h4⟩
  · omega
  · refine ⟨xs.length, [], ?_⟩
    have e : segs G xs = [] := h4
    have e2 : (endM G xs).sp = true := h2
    have e3 : (endM G xs).first = 0 := h3
    unfold lastS
    rw [e, e2, e3, if_pos rfl, Int.zero_mul]
    rfl
  · have e : segs G xs = (0, t) :: T := h4
    exact ⟨t, T ++ lastS G xs, by rw [e]; rfl⟩
end Go.Proofs.Ytnkkbohfhinemaa
