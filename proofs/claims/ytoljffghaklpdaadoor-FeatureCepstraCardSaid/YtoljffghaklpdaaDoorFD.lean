/- Cosines and transforms: what they are. -/
import Derived.Test.YtoljffghaklpdaaDoorVMem
import Derived.StillTailTactics
import Derived.Laws.CopyOwn
import Derived.Deep.QuietTactic
import Derived.BigQuiet
namespace Go.Proofs.YtoljffghaklpdaaDoor
open Go.RowKit

def cosL : List Int := [16384, 16379, 16364, 16340, 16305, 16261, 16207, 16143, 16069, 15986, 15893, 15791, 15679, 15557, 15426, 15286, 15137, 14978, 14811, 14635, 14449, 14256, 14053, 13842, 13623, 13395, 13160, 12916, 12665, 12406, 12140, 11866, 11585, 11297, 11003, 10702, 10394, 10080, 9760, 9434, 9102, 8765, 8423, 8076, 7723, 7366, 7005, 6639, 6270, 5897, 5520, 5139, 4756, 4370, 3981, 3590, 3196, 2801, 2404, 2006, 1606, 1205, 804, 402, 0]
theorem cosL_len : cosL.length = 65 := by decide
def cosT (j : Nat) : Int := cosL.getD j 0
theorem cosT_bd (j : Nat) : 0 ≤ cosT j ∧ cosT j ≤ 16384 := by
  have h : ∀ x ∈ cosL, (0 : Int) ≤ x ∧ x ≤ 16384 := by decide
  unfold cosT
  rcases Nat.lt_or_ge j cosL.length with hj | hj
  · rw [getD_in hj]; exact h _ (List.getElem_mem hj)
  · rw [getD_out hj]; omega
/-- the extended table -/
def cs (j : Nat) : Int := if j % 256 ≤ 64 then cosT (j % 256) else if j % 256 ≤ 128 then -cosT (128 - j % 256) else if j % 256 ≤ 192 then -cosT (j % 256 - 128) else cosT (256 - j % 256)
theorem cs_bd (j : Nat) : -16384 ≤ cs j ∧ cs j ≤ 16384 := by
  unfold cs
  have h1 := cosT_bd (j % 256)
  have h2 := cosT_bd (128 - j % 256)
  have h3 := cosT_bd (j % 256 - 128)
  have h4 := cosT_bd (256 - j % 256)
  split
  · omega
  · split
    · omega
    · split <;> omega
/-- the sum of f 0, .., f (n - 1) -/
def sm : Nat → (Nat → Int) → Int
  | 0, _ => 0
  | n + 1, f => sm n f + f n
theorem sm_bd {f : Nat → Int} {m : Int} {n : Nat} (h : ∀ i, i < n → -m ≤ f i ∧ f i ≤ m) : -(n * m) ≤ sm n f ∧ sm n f ≤ n * m := by
  induction n with
  | zero => simp [sm]
  | succ n ih =>
    have h1 := ih (fun i hi => h i (by omega))
    have h2 := h n (by omega)
    have e : ((n + 1 : Nat) : Int) * m = n * m + m := by rw [Int.natCast_add, Int.add_mul]; simp
    unfold sm
    omega
/-- element k of the transform -/
def trA (xs : List Int) (n k : Nat) : Int := sm n fun i => xs.getD i 0 * cs ((2 * i + 1) * k * (64 / n))
def trL (xs : List Int) : List Int := tab xs.length (trA xs xs.length)
/-- a length of a transform -/
def lenB (n : Nat) : Bool := decide (0 < n) && decide (64 % n = 0)
theorem lenB_le {n : Nat} (h : lenB n = true) : 1 ≤ n ∧ n ≤ 64 ∧ 64 % n = 0 := by
  unfold lenB at h
  simp only [Bool.and_eq_true, decide_eq_true_eq] at h
  refine ⟨h.1, ?_, h.2⟩
  rcases Nat.lt_or_ge 64 n with h2 | h2
  · have := h.2
    rw [Nat.mod_eq_of_lt h2] at this
    omega
  · exact h2
def trOk (xs : List Int) : Bool := lenB xs.length && allB (-65536) 65536 xs
/-- sum of 2^14 products -/
theorem prod_bd {a b m q : Int} (h1 : -m ≤ a) (h2 : a ≤ m) (h3 : -q ≤ b) (h4 : b ≤ q) : -(m * q) ≤ a * b ∧ a * b ≤ m * q := by
  have hq : 0 ≤ q := by omega
  rcases Int.le_total 0 a with ha | ha
  · have e1 : a * b ≤ a * q := Int.mul_le_mul_of_nonneg_left h4 ha
    have e2 : a * q ≤ m * q := Int.mul_le_mul_of_nonneg_right h2 hq
    have e3 : a * -q ≤ a * b := Int.mul_le_mul_of_nonneg_left h3 ha
    rw [Int.mul_neg] at e3
    omega
  · have e1 : a * b ≤ a * -q := Int.mul_le_mul_of_nonpos_left ha h3
    have e2 : -m * q ≤ a * q := Int.mul_le_mul_of_nonneg_right h1 hq
    have e3 : a * q ≤ a * b := Int.mul_le_mul_of_nonpos_left ha h4
    rw [Int.mul_neg] at e1
    rw [Int.neg_mul] at e2
    omega
/-- what is left after i elements of element k -/
theorem trA_bd {xs : List Int} {n k i : Nat} (h : allB (-65536) 65536 xs = true) (hn : xs.length = n) (hn2 : n ≤ 64) (hi : i ≤ n) : -68719476736 ≤ sm i (fun i => xs.getD i 0 * cs ((2 * i + 1) * k * (64 / n))) ∧ sm i (fun i => xs.getD i 0 * cs ((2 * i + 1) * k * (64 / n))) ≤ 68719476736 := by
  have hb := sm_bd (n := i) (m := 1073741824) (f := fun i => xs.getD i 0 * cs ((2 * i + 1) * k * (64 / n))) (fun j hj => by
    have h1 := allB_get h (j := j) (by omega) rfl
    have h2 := cs_bd ((2 * j + 1) * k * (64 / n))
    exact prod_bd (m := 65536) (q := 16384) h1.1 h1.2 h2.1 h2.2)
  omega
end Go.Proofs.YtoljffghaklpdaaDoor


/- Cosines: the program's own. -/
namespace Go.Proofs.YtoljffghaklpdaaDoor
open Go.RowKit

/-- the table's variable holds the table -/
def Tab (w : World) : Prop := ∀ j, j < 65 → w.cell? ⟨0, j, none⟩ = some (.int .i64 (cosT j))
theorem Tab.below {w w' : World} (h : Tab w) (hb : Below w.heap.size w w') : Tab w' := fun j hj => (hb.cell (World.block_lt_of_cell? _ _ (h j hj))).trans (h j hj)
theorem Tab.drewN {w : World} (h : Tab w) (n : Nat) : Tab (w.drewN n) := h
theorem Tab.alloc {w : World} (h : Tab w) (o : Obj) : Tab (w.alloc o) := h.below ((Below.refl _ _).alloc (Nat.le_refl _) o)

theorem isLength_any (n : Nat) (w : World) : Calls Tryd.prog 61 #[.int .i64 (n : Int)] w fun e w' => e = .returned (.bool (lenB n)) ∧ w = w' := by
  by_cases h0 : 0 < n
  · have hr : (64 : Int).tmod (n : Int) = ((64 % n : Nat) : Int) := by rw [Int.tmod_eq_emod_of_nonneg (by omega)]; rfl
    obtain ⟨r, hr2⟩ : ∃ r, 64 % n = r := ⟨_, rfl⟩
    rw [hr2] at hr
    have hn0 : ¬ (n : Int) = 0 := by omega
    have h0i : (0 : Int) < (n : Int) := by omega
    by_cases hz : r = 0
    · subst hz
      have hv := Lib.hid (show lenB n = true by unfold lenB; rw [hr2, decide_eq_true h0]; rfl)
      clear hr2
      go_enter Tryd.func61, Tryd.ntmps61
      go_wp2
      go_ret
      exact ⟨ret_bool hv.out.symm, rfl⟩
    · have hv := Lib.hid (show lenB n = false by unfold lenB; rw [hr2, decide_eq_false hz, Bool.and_false])
      have hzb : ((r : Int) == 0) = false := by rw [beq_eq_false_iff_ne]; omega
      clear hr2
      go_enter Tryd.func61, Tryd.ntmps61
      go_wp2
      go_ret
      exact ⟨ret_bool hv.out.symm, rfl⟩
  · have hn : n = 0 := by omega
    subst hn
    go_enter Tryd.func61, Tryd.ntmps61
    go_wp2
    go_ret
    exact ⟨rfl, rfl⟩

theorem allUpTo_any (A : Option Addr) (n c : Nat) (xs : List Int) (b : Int) (w : World) (h : Sl .i64 w A n c xs) (hb : 0 ≤ b) (hb2 : b ≤ 4611686018427387904) :
    Calls Tryd.prog 62 #[.slice A n c, .int .i64 b] w fun e w' => e = .returned (.bool (allB (-b) b xs)) ∧ w = w' := by
  go_enter Tryd.func62, Tryd.ntmps62
  go_wp2_with (go_at_call 89; refine (allWithin_any _ _ _ _ _ _ _ h).mono ?_; rintro e w' ⟨rfl, rfl⟩)
  go_ret
  exact ⟨rfl, rfl⟩

set_option maxHeartbeats 800000 in
theorem cosine_any (j : Nat) (w : World) (hT : Tab w) (hj : j ≤ 9223372036854775807) : Calls Tryd.prog 59 #[.int .i64 (j : Int)] w fun e w' => e = .returned (.int .i64 (cs j)) ∧ w = w' := by
  have hm : (j : Int).tmod 256 = ((j % 256 : Nat) : Int) := by rw [Int.tmod_eq_emod_of_nonneg (by omega)]; rfl
  have hcs : cs j = if j % 256 ≤ 64 then cosT (j % 256) else if j % 256 ≤ 128 then -cosT (128 - j % 256) else if j % 256 ≤ 192 then -cosT (j % 256 - 128) else cosT (256 - j % 256) := rfl
  have hlt : j % 256 < 256 := Nat.mod_lt _ (by decide)
  generalize j % 256 = m at *
  by_cases h1 : m ≤ 64
  · rw [if_pos h1] at hcs
    have hv := Lib.hid hcs
    clear hcs
    have hc := hT m (by omega)
    generalize cosT m = v at *
    have d1 : decide ((m : Int) ≤ 64) = true := decide_eq_true (by omega)
    go_enter Tryd.func59, Tryd.ntmps59
    go_wp2
    go_ret
    exact ⟨ret_int hv.out.symm, rfl⟩
  · rw [if_neg h1] at hcs
    have d1 : decide ((m : Int) ≤ 64) = false := decide_eq_false (by omega)
    by_cases h2 : m ≤ 128
    · rw [if_pos h2] at hcs
      have hv := Lib.hid hcs
      clear hcs
      obtain ⟨p, hp⟩ : ∃ p : Nat, 128 - (m : Int) = (p : Int) := ⟨128 - m, by omega⟩
      have hpe : 128 - m = p := by omega
      rw [hpe] at hv
      have hc := hT p (by omega)
      have hb := cosT_bd p
      generalize cosT p = v at *
      have hb1 := hb.1
      have hb2 := hb.2
      have hp64 : p ≤ 64 := by omega
      have d2 : decide ((m : Int) ≤ 128) = true := decide_eq_true (by omega)
      clear hb hpe
      go_enter Tryd.func59, Tryd.ntmps59
      go_wp2
      go_ret
      exact ⟨ret_int hv.out.symm, rfl⟩
    · rw [if_neg h2] at hcs
      have d2 : decide ((m : Int) ≤ 128) = false := decide_eq_false (by omega)
      by_cases h3 : m ≤ 192
      · rw [if_pos h3] at hcs
        have hv := Lib.hid hcs
        clear hcs
        obtain ⟨p, hp⟩ : ∃ p : Nat, (m : Int) - 128 = (p : Int) := ⟨m - 128, by omega⟩
        have hpe : m - 128 = p := by omega
        rw [hpe] at hv
        have hc := hT p (by omega)
        have hb := cosT_bd p
        generalize cosT p = v at *
        have hb1 := hb.1
        have hb2 := hb.2
        have hp64 : p ≤ 64 := by omega
        have d3 : decide ((m : Int) ≤ 192) = true := decide_eq_true (by omega)
        clear hb hpe
        go_enter Tryd.func59, Tryd.ntmps59
        go_wp2
        go_ret
        exact ⟨ret_int hv.out.symm, rfl⟩
      · rw [if_neg h3] at hcs
        have hv := Lib.hid hcs
        clear hcs
        obtain ⟨p, hp⟩ : ∃ p : Nat, 256 - (m : Int) = (p : Int) := ⟨256 - m, by omega⟩
        have hpe : 256 - m = p := by omega
        rw [hpe] at hv
        have hc := hT p (by omega)
        generalize cosT p = v at *
        have hp64 : p ≤ 64 := by omega
        have d3 : decide ((m : Int) ≤ 192) = false := decide_eq_false (by omega)
        clear hpe
        go_enter Tryd.func59, Tryd.ntmps59
        go_wp2
        go_ret
        exact ⟨ret_int hv.out.symm, rfl⟩
end Go.Proofs.YtoljffghaklpdaaDoor


/- Cosines and transforms: the program's weights and its transform. -/
namespace Go.Proofs.YtoljffghaklpdaaDoor
open Go.RowKit

theorem turn_any (i k n : Nat) (w : World) (hT : Tab w) (hi : i ≤ 64) (hk : k ≤ 64) (hn : 1 ≤ n) :
    Calls Tryd.prog 63 #[.int .i64 (i : Int), .int .i64 (k : Int), .int .i64 (n : Int)] w fun e w' => e = .returned (.int .i64 (cs ((2 * i + 1) * k * (64 / n)))) ∧ w' = w := by
  obtain ⟨q, hq⟩ : ∃ q, 64 / n = q := ⟨_, rfl⟩
  have hq2 : q ≤ 64 := by rw [← hq]; exact Nat.div_le_self _ _
  have hd : (64 : Int).tdiv (n : Int) = (q : Int) := by rw [Int.tdiv_eq_ediv_of_nonneg (by omega), ← hq]; exact (Int.natCast_ediv 64 n).symm
  obtain ⟨P, hP⟩ : ∃ P, (2 * i + 1) * k = P := ⟨_, rfl⟩
  have hPi : (2 * (i : Int) + 1) * (k : Int) = (P : Int) := by rw [← hP, Int.natCast_mul]; simp
  have hP2 : P ≤ 129 * 64 := by rw [← hP]; exact Nat.mul_le_mul (by omega) hk
  obtain ⟨M, hM⟩ : ∃ M, P * q = M := ⟨_, rfl⟩
  have hMi : (P : Int) * (q : Int) = (M : Int) := by rw [← hM, Int.natCast_mul]
  have hM2 : M ≤ 129 * 64 * 64 := by rw [← hM]; exact Nat.mul_le_mul hP2 hq2
  have hv := Lib.hid (show cs ((2 * i + 1) * k * (64 / n)) = cs M by rw [hq, hP, hM])
  clear hq hP hM
  have hn0 : ¬ (n : Int) = 0 := by omega
  go_enter Tryd.func63, Tryd.ntmps63
  go_wp2_with (go_at_call 59; refine (cosine_any M _ hT (by omega)).mono ?_; rintro e w' ⟨rfl, rfl⟩)
  go_ret
  exact ⟨ret_int hv.out.symm, rfl⟩

/-- block g is being filled with f: k of n places are done, place k holds v -/
structure FillA (w wr : World) (g : Nat) (t : TypeId) (n k : Nat) (v : Int) (f : Nat → Int) : Prop where
  own : Mk wr g t .i64 (tab k f ++ v :: zs (n - (k + 1)))
  bel : Below w.heap.size w wr
  new : w.heap.size ≤ g
section
variable {w wr : World} {g : Nat} {t : TypeId} {n k : Nat} {v : Int} {f : Nat → Int}
theorem FillA.cell (h : FillA w wr g t n k v f) : wr.cell? ⟨g, k, none⟩ = some (.int .i64 v) := by
  have := h.own.cell (i := k) (by simp [tab_len])
  rw [this]
  simp [List.getD_eq_getElem?_getD, tab_len]
theorem FillA.frozen (h : FillA w wr g t n k v f) (i : Nat) : wr.frozen? ⟨g, i, none⟩ = false := h.own.frozen i
theorem Fill.begin_ (h : Fill w wr g t n k f) (hk : k < n) : FillA w wr g t n k 0 f :=
  ⟨by have h2 := h.own
      rw [show zs (n - k) = 0 :: zs (n - (k + 1)) by rw [show n - k = (n - (k + 1)) + 1 by omega]; rfl] at h2
      exact h2, h.bel, h.new⟩
theorem FillA.set_ (h : FillA w wr g t n k v f) (v' : Int) : FillA w (wr.setCell ⟨g, k, none⟩ (.int .i64 v')) g t n k v' f :=
  ⟨by have h2 := h.own.set_ k v'
      rw [List.set_append_right _ _ (by rw [tab_len]; exact Nat.le_refl _), tab_len, Nat.sub_self, List.set_cons_zero] at h2
      exact h2, h.bel.setCell h.new _, h.new⟩
theorem FillA.end_ (h : FillA w wr g t n k v f) (hv : v = f k) : Fill w wr g t n (k + 1) f :=
  ⟨by have h2 := h.own
      rw [hv, show tab k f ++ f k :: zs (n - (k + 1)) = tab (k + 1) f ++ zs (n - (k + 1)) by rw [tab_succ, List.append_assoc]; rfl] at h2
      exact h2, h.bel, h.new⟩
theorem FillA.drewN (h : FillA w wr g t n k v f) (i : Nat) : FillA w (wr.drewN i) g t n k v f := ⟨h.own, bel_drewN h.bel i, h.new⟩
end

def trF (xs : List Int) (n k : Nat) : Nat → Int := fun i => xs.getD i 0 * cs ((2 * i + 1) * k * (64 / n))

theorem Fill.whole {w wr : World} {g : Nat} {t : TypeId} {n : Nat} {f : Nat → Int} (h : Fill w wr g t n n f) : Mk wr g t .i64 (tab n f) := by
  have := h.own
  rw [Nat.sub_self, show zs 0 = [] from rfl, List.append_nil] at this
  exact this
/-- the call returned a new list that is its own, beside the code 0 -/
def RetM (w : World) (n : Nat) (ys : List Int) (e : Ending) (w' : World) : Prop :=
  ∃ g, e = .returned (.tuple #[.slice (some ⟨g, 0, none⟩) n n, .int .i64 0]) ∧ Mk w' g 3 .i64 ys ∧ Below w.heap.size w w' ∧ w.heap.size ≤ g
/-- the call returned no list, and a code -/
def RetN (w : World) (code : Int) (e : Ending) (w' : World) : Prop := e = .returned (.tuple #[.slice none 0 0, .int .i64 code]) ∧ Below w.heap.size w w'

set_option maxHeartbeats 1600000 in
set_option maxRecDepth 100000 in
theorem Transform_any (A : Option Addr) (n c : Nat) (xs : List Int) (w : World) (h : Sl .i64 w A n c xs) (hT : Tab w) :
    Calls Tryd.prog 20 #[.slice A n c] w fun e w' => (trOk xs = true ∧ RetM w n (trL xs) e w') ∨ (trOk xs = false ∧ RetN w 2 e w') := by
  have hl := Lib.hid h.len
  have hcap := h.cap
  have htop := h.top
  cases hL : lenB n with
  | false =>
    have hk : trOk xs = false := by unfold trOk; rw [hl.out, hL]; rfl
    have hC := Lib.hid hk
    have hL := Lib.hid hL
    clear hk
    go_enter Tryd.func20, Tryd.ntmps20
    go_wp2_with fail
    refine (isLength_any n w).mono ?_
    rintro e w' ⟨rfl, rfl⟩
    rw [hL.out]
    go_wp2
    go_ret2
    exact .inr ⟨hC.out, rfl, Below.refl _ _⟩
  | true =>
    obtain ⟨hn1, hn2, _⟩ := lenB_le hL
    cases hA : allB (-65536) 65536 xs with
    | false =>
      have hk : trOk xs = false := by unfold trOk; rw [hl.out, hL, hA]; rfl
      have hC := Lib.hid hk
      have hL := Lib.hid hL
      have hA := Lib.hid hA
      clear hk
      go_enter Tryd.func20, Tryd.ntmps20
      go_wp2_with fail
      refine (isLength_any n w).mono ?_
      rintro e w' ⟨rfl, rfl⟩
      rw [hL.out]
      go_wp2_with fail
      refine (allUpTo_any _ _ _ _ 65536 _ h (by decide) (by decide)).mono ?_
      rintro e w' ⟨rfl, rfl⟩
      rw [hA.out]
      go_wp2
      go_ret2
      exact .inr ⟨hC.out, rfl, Below.refl _ _⟩
    | true =>
      have hk : trOk xs = true := by unfold trOk; rw [hl.out, hL, hA]; rfl
      have hC := Lib.hid hk
      have hR := Lib.hid (show trL xs = tab n fun k => sm n (trF xs n k) by unfold trL; rw [hl.out]; rfl)
      have hL := Lib.hid hL
      have hbd := Lib.hid (fun k i (hi : i ≤ n) => trA_bd (k := k) hA hl.out hn2 hi)
      have hA := Lib.hid hA
      have hmk := make_int n (by omega)
      clear hk
      go_enter Tryd.func20, Tryd.ntmps20
      go_wp2_with fail
      refine (isLength_any n w).mono ?_
      rintro e w' ⟨rfl, rfl⟩
      rw [hL.out]
      go_wp2_with fail
      refine (allUpTo_any _ _ _ _ 65536 _ h (by decide) (by decide)).mono ?_
      rintro e w' ⟨rfl, rfl⟩
      rw [hA.out]
      go_wp2
      clear hmk
      go_loopw [22] (fun iv wr => ∃ k : Nat, iv = .int .i64 k ∧ k ≤ n ∧ Fill w wr w.heap.size 3 n k fun k => sm n (trF xs n k)) (fun iv _ => n - (intOf iv).toNat)
      case atStart => exact ⟨0, rfl, Nat.zero_le _, Fill.start (Below.refl _ _) rfl⟩
      case round =>
        obtain ⟨k, rfl, hkn, hF⟩ := hrel
        rcases Nat.lt_or_ge k n with hlt | hge
        · have hFA := hF.begin_ hlt
          go_wp2
          go_loopw [27] (fun iv w2 => ∃ i : Nat, iv = .int .i64 i ∧ i ≤ n ∧ FillA w w2 w.heap.size 3 n k (sm i (trF xs n k)) fun k => sm n (trF xs n k)) (fun iv _ => n - (intOf iv).toNat)
          case atStart => exact ⟨0, rfl, Nat.zero_le _, hFA⟩
          case round =>
            obtain ⟨i, rfl, hin, hG⟩ := hrel
            rcases Nat.lt_or_ge i n with hil | hig
            · have hr := h.below hG.bel
              have hTr := hT.below hG.bel
              obtain ⟨ad, x, rfl, hcx, hx⟩ := hr.at_ hil
              have hb1 := hbd.out k i (by omega)
              have hxb := allB_get hA.out (by rw [hl.out]; exact hil) hx.out
              have hcb := cs_bd ((2 * i + 1) * k * (64 / n))
              have hstep := Lib.hid (show sm (i + 1) (trF xs n k) = sm i (trF xs n k) + x * cs ((2 * i + 1) * k * (64 / n)) by show sm i (trF xs n k) + trF xs n k i = _; unfold trF; rw [hx.out])
              have hturn := Lib.hid (fun w9 (h9 : Tab w9) => turn_any i k n w9 h9 (by omega) (by omega) hn1)
              generalize cs ((2 * i + 1) * k * (64 / n)) = cc at *
              have hpb := prod_bd (m := 65536) (q := 16384) hxb.1 hxb.2 hcb.1 hcb.2
              obtain ⟨p, hp⟩ : ∃ p, x * cc = p := ⟨_, rfl⟩
              rw [hp] at hpb
              have e1 : IntKind.i64.wrap (x * cc) = p := by rw [hp]; exact IntWalk.i64_in _ (by omega)
              have hb2 : -68719476736 ≤ sm i (trF xs n k) ∧ sm i (trF xs n k) ≤ 68719476736 := hb1
              generalize hS0 : sm i (trF xs n k) = S at *
              clear hS0
              have e2 : IntKind.i64.wrap (S + p) = S + p := IntWalk.i64_in _ (by omega)
              have hstep' := Lib.hid (show S + p = sm (i + 1) (trF xs n k) by rw [hstep.out, hp])
              clear hb1 hxb hcb hpb hb2 hstep hp
              have hc0 := hG.cell
              have i0 : (0 : Int) ≤ (k : Int) := by omega
              have i1 : (k : Int) < (n : Int) := by omega
              go_wp2
              go_still_tail 13, (by kernel_rfl)
              still_call (hturn.out _ (hTr.drewN 1))
              repeat still_step
              refine wpStill_nil ?_
              change wpList _ _ _ _ _ (_ : World).drew
              have hG2 := hG.drewN 1
              change FillA w (_ : World).drew _ _ _ _ _ _ at hG2
              generalize (_ : World).drew = w3 at *
              have hcf := hG2.frozen k
              have hc3 := hG2.cell
              have hG4 := hG2.set_ (S + p)
              rw [hstep'.out] at hG4
              clear hc0 hcx
              go_wp2
              go_roundw
              case rel => exact ⟨i + 1, by go_num, hil, by rw [← hstep'.out] at hG4 ⊢; exact hG4⟩
              case measure => simp [intOf]; omega
            · have hii : i = n := by omega
              subst hii
              have hF2 := hG.end_ rfl
              go_wp2
              go_roundw
              case rel => exact ⟨k + 1, by go_num, hlt, hF2⟩
              case measure => simp [intOf]; omega
        · have hkn' : k = n := by omega
          subst hkn'
          have hD := hF.whole
          go_wp2
          go_ret2
          exact .inl ⟨hC.out, _, rfl, by rw [hR.out]; exact hD, hF.bel, Nat.le_refl _⟩
end Go.Proofs.YtoljffghaklpdaaDoor


/- Spectra, lists with zeros added, cepstra: the program's. -/
namespace Go.Proofs.YtoljffghaklpdaaDoor
open Go.RowKit

/-- the first k places changed -/
def upd (n k : Nat) (F G : Nat → Int) : List Int := tab n fun j => if j < k then G j else F j
theorem upd_zero (n : Nat) (F G : Nat → Int) : upd n 0 F G = tab n F := tab_congr fun i _ => by simp
theorem upd_all (n : Nat) (F G : Nat → Int) : upd n n F G = tab n G := tab_congr fun i h => by simp [h]
theorem upd_len (n k : Nat) (F G : Nat → Int) : (upd n k F G).length = n := tab_len _ _
theorem upd_set {n k : Nat} (_h : k < n) (F G : Nat → Int) : (upd n k F G).set k (G k) = upd n (k + 1) F G := by
  apply List.ext_getElem
  · rw [List.length_set, upd_len, upd_len]
  · intro i h1 h2
    rw [List.getElem_set]
    rw [upd_len] at h2
    have a1 := tab_getD (f := fun j => if j < k then G j else F j) h2
    have a2 := tab_getD (f := fun j => if j < k + 1 then G j else F j) h2
    rw [getD_in (by rw [tab_len]; exact h2)] at a1 a2
    unfold upd
    rw [a1]
    refine Eq.trans ?_ a2.symm
    by_cases hk : k = i
    · subst hk; simp
    · rw [if_neg hk]
      by_cases hi : i < k
      · simp [hi, show i < k + 1 by omega]
      · simp [hi, show ¬ i < k + 1 by omega]
theorem upd_at {n k : Nat} (h : k < n) (F G : Nat → Int) : (upd n k F G).getD k 0 = F k := by
  unfold upd
  rw [tab_getD h]; simp

def spL (xs : List Int) : List Int := tab xs.length fun k => rnd (trA xs xs.length k) 16384
theorem trA_bd2 {xs : List Int} {n : Nat} (h : trOk xs = true) (hn : xs.length = n) (k : Nat) : -68719476736 ≤ trA xs n k ∧ trA xs n k ≤ 68719476736 := by
  unfold trOk at h
  simp only [Bool.and_eq_true] at h
  have h2 := lenB_le h.1
  exact trA_bd h.2 hn (by omega) (Nat.le_refl _)

set_option maxHeartbeats 800000 in
theorem Spectrum_any (A : Option Addr) (n c : Nat) (xs : List Int) (w : World) (h : Sl .i64 w A n c xs) (hT : Tab w) :
    Calls Tryd.prog 21 #[.slice A n c] w fun e w' => (trOk xs = true ∧ RetM w n (spL xs) e w') ∨ (trOk xs = false ∧ RetN w 2 e w') := by
  have hl := Lib.hid h.len
  have hn := h.cap
  have hn2 := h.top
  go_enter Tryd.func21, Tryd.ntmps21
  go_wp2_with fail
  refine (Transform_any _ _ _ _ _ h hT).mono ?_
  rintro e w2 (⟨hk, g, rfl, hM, hb, hg⟩ | ⟨hk, rfl, hb⟩)
  · have hbd := Lib.hid (fun k => trA_bd2 hk hl.out k)
    have hn3 : n ≤ 64 := by
      unfold trOk at hk
      simp only [Bool.and_eq_true] at hk
      have := lenB_le hk.1
      rw [hl.out] at this
      omega
    have hk := Lib.hid hk
    have hR := Lib.hid (show spL xs = tab n fun k => rnd (trA xs n k) 16384 by unfold spL; rw [hl.out])
    have e0 : trL xs = upd n 0 (trA xs n) fun k => rnd (trA xs n k) 16384 := by unfold trL; rw [hl.out, upd_zero]
    rw [e0] at hM
    clear e0
    go_wp2
    go_loopw [15] (fun iv wr => ∃ k : Nat, iv = .int .i64 k ∧ k ≤ n ∧ Mk wr g 3 .i64 (upd n k (trA xs n) fun k => rnd (trA xs n k) 16384) ∧ Below w.heap.size w wr) (fun iv _ => n - (intOf iv).toNat)
    case atStart => exact ⟨0, rfl, Nat.zero_le _, hM, hb⟩
    case round =>
      obtain ⟨k, rfl, hkn, hM2, hb2⟩ := hrel
      rcases Nat.lt_or_ge k n with hlt | hge
      · have hc := hM2.cell (i := k) (by rw [upd_len]; exact hlt)
        rw [upd_at hlt] at hc
        have hf := hM2.frozen k
        have hb3 := hbd.out k
        have hM3 := hM2.set_ k (rnd (trA xs n k) 16384)
        rw [upd_set hlt (trA xs n) fun k => rnd (trA xs n k) 16384] at hM3
        have hb4 := hb2.setCell (p := ⟨g, k, none⟩) hg (.int .i64 (rnd (trA xs n k) 16384))
        have hM3 := Lib.hid hM3
        have hq := Lib.hid (rfl : rnd (trA xs n k) 16384 = rnd (trA xs n k) 16384)
        generalize trA xs n k = v at *
        go_wp2_with (go_at_call 64; refine (divide_any _ _ _ (by omega) (by omega) (by decide) (by decide)).mono ?_; rintro e w' ⟨rfl, rfl⟩)
        go_roundw
        case rel => exact ⟨k + 1, by go_num, hlt, hM3.out, hb4⟩
        case measure => simp [intOf]; omega
      · have hkn' : k = n := by omega
        subst hkn'
        rw [upd_all] at hM2
        go_wp2
        go_ret2
        exact .inl ⟨hk.out, _, rfl, by rw [hR.out]; exact hM2, hb2, hg⟩
  · have hk := Lib.hid hk
    go_wp2
    go_loopw [15] (fun iv wr => iv = .int .i64 0 ∧ wr = w2) (fun _ _ => 0)
    case atStart => exact ⟨rfl, rfl⟩
    case round =>
      obtain ⟨rfl, rfl⟩ := hrel
      go_wp2
      go_ret2
      exact .inr ⟨hk.out, rfl, hb⟩

/-- the least length of a transform that is at least n -/
def pd (n : Nat) : Nat := if n ≤ 1 then 1 else if n ≤ 2 then 2 else if n ≤ 4 then 4 else if n ≤ 8 then 8 else if n ≤ 16 then 16 else if n ≤ 32 then 32 else 64
theorem pd_bd {n : Nat} (h : n ≤ 64) : n ≤ pd n ∧ 1 ≤ pd n ∧ pd n ≤ 64 := by
  unfold pd
  repeat' split
  all_goals omega
theorem pd_len : ∀ n, n ≤ 64 → lenB (pd n) = true := by decide +kernel
theorem pd_cases {n : Nat} (h : n ≤ 64) : (pd n = 1 ∧ n ≤ 1) ∨ (pd n = 2 ∧ 1 < n ∧ n ≤ 2) ∨ (pd n = 4 ∧ 2 < n ∧ n ≤ 4) ∨ (pd n = 8 ∧ 4 < n ∧ n ≤ 8) ∨ (pd n = 16 ∧ 8 < n ∧ n ≤ 16) ∨ (pd n = 32 ∧ 16 < n ∧ n ≤ 32) ∨ (pd n = 64 ∧ 32 < n) := by
  unfold pd
  repeat' split
  all_goals omega
def isP (L : Nat) : Prop := L = 1 ∨ L = 2 ∨ L = 4 ∨ L = 8 ∨ L = 16 ∨ L = 32 ∨ L = 64
theorem pd_next (n : Nat) (hn : n ≤ 64) (L : Nat) (hL : isP L) (h1 : L ≤ pd n) (h2 : L < n) : 2 * L ≤ pd n ∧ isP (2 * L) := by
  have := pd_cases hn
  unfold isP at *
  omega
theorem pd_end (n : Nat) (hn : n ≤ 64) (L : Nat) (hL : isP L) (h1 : L ≤ pd n) (h2 : n ≤ L) : L = pd n := by
  have := pd_cases hn
  unfold isP at *
  omega

theorem lengthFor_any (n : Nat) (w : World) (hn : n ≤ 64) : Calls Tryd.prog 73 #[.int .i64 (n : Int)] w fun e w' => e = .returned (.int .i64 (pd n)) ∧ w' = w := by
  have h1 := Lib.hid (pd_next n hn)
  have h2 := Lib.hid (pd_end n hn)
  have h3 := pd_bd hn
  go_enter Tryd.func73, Tryd.ntmps73
  go_wp2
  go_loop [3] (fun iv => ∃ L : Nat, iv = .int .i64 L ∧ L ≤ pd n ∧ Hid (isP L) ∧ 1 ≤ L) (fun iv => 64 - (intOf iv).toNat)
  case atStart => exact ⟨1, rfl, h3.2.1, Or.inl rfl, by decide⟩
  case round =>
    obtain ⟨L, rfl, hL, hm, hp⟩ := hrel
    rcases Nat.lt_or_ge L n with hlt | hge
    · have h4 := h1.out L hm.out hL hlt
      have h5 := h4.1
      have h6 := Lib.hid h4.2
      clear h4
      go_wp2
      go_round
      case rel => exact ⟨2 * L, by go_num, h5, h6, by omega⟩
      case measure => simp [intOf]; omega
    · have h4 := Lib.hid (h2.out L hm.out hL hge)
      have hd : decide ((L : Int) < (n : Int)) = false := decide_eq_false (by omega)
      go_wp2
      go_ret
      exact ⟨ret_int (by first | rfl | rw [h4.out]), rfl⟩
end Go.Proofs.YtoljffghaklpdaaDoor


/- Lists with zeros added, cepstra, the inverse transform, the slack: the program's. -/
namespace Go.Proofs.YtoljffghaklpdaaDoor
open Go.RowKit

theorem info_int1 : (Tryd.prog.info? 3).map (·.size) = some 1 := by kernel_rfl
theorem Mk.sl3 {k : IntKind} {w : World} {g : Nat} {t : TypeId} {xs : List Int} (h : Mk w g t k xs) {n m : Nat} (hn : xs.length = n) (hm : m ≤ n) (ht : n ≤ 140737488355328) : Sl k w (some ⟨g, 0, none⟩) m m (xs.take m) :=
  ⟨by rw [List.length_take]; omega, Nat.le_refl _, by omega, fun hp => by
    obtain ⟨ad, e, hc⟩ := ((h.sl hn ht).take hm).cell hp
    exact ⟨ad, e, hc⟩⟩

set_option maxRecDepth 100000 in
theorem extend_any (A : Option Addr) (n c m : Nat) (xs : List Int) (w : World) (h : Sl .i64 w A n c xs) (hn : 0 < n) (hm : n ≤ m) (hm2 : m ≤ 1000000) :
    Calls Tryd.prog 74 #[.slice A n c, .int .i64 (m : Int)] w fun e w' =>
      ∃ g, e = .returned (.slice (some ⟨g, 0, none⟩) m m) ∧ Mk w' g 3 .i64 (xs ++ zs (m - n)) ∧ Below w.heap.size w w' ∧ w.heap.size ≤ g := by
  have hl := Lib.hid h.len
  have hcap := h.cap
  have htop := h.top
  obtain ⟨ad, rfl, _⟩ := h.cell hn
  have hmk := make_int m (by omega) w
  have h1 := h.alloc (.cells (ivs .i64 (zs m)).toArray 3)
  have hM := Mk.new w 3 .i64 (zs m)
  have hb := (Below.refl w.heap.size w).alloc (Nat.le_refl _) (.cells (ivs .i64 (zs m)).toArray 3)
  have hcl := Lib.hid (show (ivs .i64 xs).length = n by rw [ivs_len, hl.out])
  have hc1 := Lib.hid (show (ivs .i64 xs).length = Nat.min n m by rw [hcl.out]; exact (Nat.min_eq_left hm).symm)
  have hc3 := Lib.hid (show 0 + (ivs .i64 xs).length ≤ (ivs .i64 (zs m)).toArray.size by rw [hcl.out]; simp [ivs_len, zs_len]; omega)
  have hnews := Lib.hid h1.news
  have hrow := Lib.hid (show (ivs .i64 xs ++ List.drop (ivs .i64 xs).length (ivs .i64 (zs m))) = ivs .i64 (xs ++ zs (m - n)) by
    rw [hcl.out, ivs_app]
    congr 1
    unfold ivs zs
    rw [← List.map_drop, List.drop_replicate])
  have hR : Mk ((w.alloc (.cells (ivs .i64 (zs m)).toArray 3)).setRow w.heap.size (ivs .i64 (xs ++ zs (m - n))).toArray) w.heap.size 3 .i64 (xs ++ zs (m - n)) := setRow_heap (w.alloc (.cells (ivs .i64 (zs m)).toArray 3)) w.heap.size _ _ 3 (0, 0) hM
  have hb2 : Below w.heap.size w ((w.alloc (.cells (ivs .i64 (zs m)).toArray 3)).setRow w.heap.size (ivs .i64 (xs ++ zs (m - n))).toArray) := below_setRow hb (Nat.le_refl _) _
  go_enter Tryd.func74, Tryd.ntmps74
  go_wp2_with (refine wpList_copy_own rfl (.tmp 8) (.tmp 9) 30 30 rfl 3 Tryd.underlying30 info_int1 w.heap.size 0 m m ad n c rfl rfl (ivs .i64 (zs m)).toArray 3 hM (ivs .i64 xs) hc1.out hnews.out hc3.out (oneCell_ivs _ _) ?_)
  rw [hrow.out]
  generalize (w.alloc (.cells (ivs .i64 (zs m)).toArray 3)).setRow w.heap.size (ivs .i64 (xs ++ zs (m - n))).toArray = w2 at *
  go_ret
  exact ⟨_, rfl, hR, hb2, Nat.le_refl _⟩

def cpOk (xs : List Int) (count : Int) : Bool := okB 1 64 xs.length && (okB 1 (pd xs.length) count && allB (-65536) 65536 xs)
def cpL (xs : List Int) (count : Int) : List Int := (spL (xs ++ zs (pd xs.length - xs.length))).take count.toNat
/-- the call returned a list beside the code 0 -/
def RetS (w : World) (n : Nat) (ys : List Int) (e : Ending) (w' : World) : Prop :=
  ∃ A c, e = .returned (.tuple #[.slice A n c, .int .i64 0]) ∧ Sl .i64 w' A n c ys ∧ Below w.heap.size w w'
theorem allB_app {lo hi : Int} (xs ys : List Int) : allB lo hi (xs ++ ys) = (allB lo hi xs && allB lo hi ys) := by unfold allB; simp
theorem allB_zs {lo hi : Int} (h1 : lo ≤ 0) (h2 : 0 ≤ hi) (n : Nat) : allB lo hi (zs n) = true := by
  unfold allB zs
  rw [List.all_eq_true]
  intro x hx
  rw [List.eq_of_mem_replicate hx]
  exact okB_mk h1 h2
theorem trOk_pad {xs : List Int} (h : xs.length ≤ 64) : trOk (xs ++ zs (pd xs.length - xs.length)) = allB (-65536) 65536 xs := by
  unfold trOk
  have := pd_bd h
  rw [List.length_append, zs_len, show xs.length + (pd xs.length - xs.length) = pd xs.length by omega, pd_len _ h, allB_app, allB_zs (by decide) (by decide)]
  simp

set_option maxHeartbeats 800000 in
theorem Cepstrum_any (A : Option Addr) (n c : Nat) (xs : List Int) (count : Int) (w : World) (h : Sl .i64 w A n c xs) (hT : Tab w) :
    Calls Tryd.prog 36 #[.slice A n c, .int .i64 count] w fun e w' => (cpOk xs count = true ∧ RetS w count.toNat (cpL xs count) e w') ∨ (cpOk xs count = false ∧ RetN w 2 e w') := by
  have hl := Lib.hid h.len
  have hcap := h.cap
  have htop := h.top
  cases hn : okB 1 64 (n : Int) with
  | false =>
    have hk := Lib.hid (show cpOk xs count = false by unfold cpOk; rw [hl.out, hn]; rfl)
    have hn := Lib.hid hn
    go_enter Tryd.func36, Tryd.ntmps36
    go_wp2_with fail
    refine (within_any _ _ _ _).mono ?_
    rintro e w' ⟨rfl, rfl⟩
    rw [hn.out]
    go_wp2
    go_ret2
    exact .inr ⟨hk.out, rfl, Below.refl _ _⟩
  | true =>
    obtain ⟨hn1, hn2⟩ := okB_iff.1 hn
    have hp := pd_bd (n := n) (by omega)
    cases hc : okB 1 (pd n) count with
    | false =>
      have hk := Lib.hid (show cpOk xs count = false by unfold cpOk; rw [hl.out, hn, hc]; rfl)
      have hn := Lib.hid hn
      have hc := Lib.hid hc
      go_enter Tryd.func36, Tryd.ntmps36
      go_wp2_with fail
      refine (within_any _ _ _ _).mono ?_
      rintro e w' ⟨rfl, rfl⟩
      rw [hn.out]
      go_wp2_with fail
      refine (lengthFor_any _ _ (by omega)).mono ?_
      rintro e w' ⟨rfl, rfl⟩
      go_wp2_with fail
      refine (within_any _ _ _ _).mono ?_
      rintro e w' ⟨rfl, rfl⟩
      rw [hc.out]
      go_wp2
      go_ret2
      exact .inr ⟨hk.out, rfl, Below.refl _ _⟩
    | true =>
      obtain ⟨hc1, hc2⟩ := okB_iff.1 hc
      obtain ⟨m, rfl⟩ : ∃ m : Nat, count = (m : Int) := ⟨count.toNat, by omega⟩
      have hk := Lib.hid (show cpOk xs m = allB (-65536) 65536 xs by unfold cpOk; rw [hl.out, hn, hc]; rfl)
      have hL := Lib.hid (show cpL xs m = (spL (xs ++ zs (pd n - n))).take m by unfold cpL; rw [hl.out]; rfl)
      have hto := Lib.hid (trOk_pad (xs := xs) (by rw [hl.out]; omega))
      have hto' := Lib.hid (show trOk (xs ++ zs (pd n - n)) = cpOk xs m by rw [hk.out, ← hto.out, hl.out])
      have hn := Lib.hid hn
      have hc := Lib.hid hc
      go_enter Tryd.func36, Tryd.ntmps36
      go_wp2_with fail
      refine (within_any _ _ _ _).mono ?_
      rintro e w' ⟨rfl, rfl⟩
      rw [hn.out]
      go_wp2_with fail
      refine (lengthFor_any _ _ (by omega)).mono ?_
      rintro e w' ⟨rfl, rfl⟩
      go_wp2_with fail
      refine (within_any _ _ _ _).mono ?_
      rintro e w' ⟨rfl, rfl⟩
      rw [hc.out]
      go_wp2_with fail
      refine (lengthFor_any _ _ (by omega)).mono ?_
      rintro e w' ⟨rfl, rfl⟩
      go_wp2_with fail
      refine (extend_any _ _ _ (pd n) _ _ h (by omega) (by omega) (by omega)).mono ?_
      rintro e w2 ⟨g, rfl, hM, hb, hg⟩
      go_wp2_with fail
      have hlen := Lib.hid (show (xs ++ zs (pd n - n)).length = pd n by rw [List.length_append, zs_len, hl.out]; omega)
      refine (Spectrum_any _ _ _ _ _ (hM.sl hlen.out (by omega)) (hT.below hb)).mono ?_
      rintro e w3 (⟨hk3, g3, rfl, hM3, hb3, hg3⟩ | ⟨hk3, rfl, hb3⟩)
      · have hb4 := hb.trans (hb3.mono hb.size)
        rw [hto'.out] at hk3
        have hk3 := Lib.hid hk3
        have hS := hM3.sl3 (n := pd n) (m := m) (by unfold spL; rw [tab_len, hlen.out]) (by omega) (by omega)
        generalize pd n = P at *
        go_wp2
        go_ret2
        exact .inl ⟨hk3.out, _, _, rfl, by rw [hL.out]; exact hS, hb4⟩
      · have hb4 := hb.trans (hb3.mono hb.size)
        rw [hto'.out] at hk3
        have hk3 := Lib.hid hk3
        go_wp2
        go_ret2
        exact .inr ⟨hk3.out, rfl, hb4⟩
end Go.Proofs.YtoljffghaklpdaaDoor


/- The inverse transform, the slack, the table's elements: the program's. -/
namespace Go.Proofs.YtoljffghaklpdaaDoor
open Go.RowKit

def ivF (ts : List Int) (n i : Nat) : Nat → Int := fun k => if k = 0 then 16384 * ts.getD 0 0 else 2 * ts.getD k 0 * cs ((2 * i + 1) * k * (64 / n))
def ivA (ts : List Int) (n i : Nat) : Int := rnd (sm n (ivF ts n i)) (n * 268435456)
def ivL (ts : List Int) : List Int := tab ts.length (ivA ts ts.length)
def ivOk (ts : List Int) : Bool := lenB ts.length && allB (-1099511627776) 1099511627776 ts
theorem ivF_bd {ts : List Int} {n i k : Nat} (h : allB (-1099511627776) 1099511627776 ts = true) (hn : ts.length = n) (hk : k < n) : -36028797018963968 ≤ ivF ts n i k ∧ ivF ts n i k ≤ 36028797018963968 := by
  unfold ivF
  split
  · have := allB_get h (j := 0) (by omega) rfl
    omega
  · have h1 := allB_get h (j := k) (by omega) rfl
    have h2 := cs_bd ((2 * i + 1) * k * (64 / n))
    exact prod_bd (m := 2199023255552) (q := 16384) (by omega) (by omega) h2.1 h2.2
theorem ivS_bd {ts : List Int} {n i k : Nat} (h : allB (-1099511627776) 1099511627776 ts = true) (hn : ts.length = n) (hn2 : n ≤ 64) (hk : k ≤ n) : -2305843009213693952 ≤ sm k (ivF ts n i) ∧ sm k (ivF ts n i) ≤ 2305843009213693952 := by
  have := sm_bd (f := ivF ts n i) (m := 36028797018963968) (n := k) (fun j hj => ivF_bd h hn (by omega))
  omega

set_option maxHeartbeats 1600000 in
set_option maxRecDepth 100000 in
theorem Inverse_any (A : Option Addr) (n c : Nat) (ts : List Int) (w : World) (h : Sl .i64 w A n c ts) (hT : Tab w) :
    Calls Tryd.prog 29 #[.slice A n c] w fun e w' => (ivOk ts = true ∧ RetM w n (ivL ts) e w') ∨ (ivOk ts = false ∧ RetN w 2 e w') := by
  have hl := Lib.hid h.len
  have hcap := h.cap
  have htop := h.top
  cases hL : lenB n with
  | false =>
    have hk := Lib.hid (show ivOk ts = false by unfold ivOk; rw [hl.out, hL]; rfl)
    have hL := Lib.hid hL
    go_enter Tryd.func29, Tryd.ntmps29
    go_wp2_with fail
    refine (isLength_any n w).mono ?_
    rintro e w' ⟨rfl, rfl⟩
    rw [hL.out]
    go_wp2
    go_ret2
    exact .inr ⟨hk.out, rfl, Below.refl _ _⟩
  | true =>
    obtain ⟨hn1, hn2, _⟩ := lenB_le hL
    cases hA : allB (-1099511627776) 1099511627776 ts with
    | false =>
      have hk := Lib.hid (show ivOk ts = false by unfold ivOk; rw [hl.out, hL, hA]; rfl)
      have hL := Lib.hid hL
      have hA := Lib.hid hA
      go_enter Tryd.func29, Tryd.ntmps29
      go_wp2_with fail
      refine (isLength_any n w).mono ?_
      rintro e w' ⟨rfl, rfl⟩
      rw [hL.out]
      go_wp2_with fail
      refine (allUpTo_any _ _ _ _ 1099511627776 _ h (by decide) (by decide)).mono ?_
      rintro e w' ⟨rfl, rfl⟩
      rw [hA.out]
      go_wp2
      go_ret2
      exact .inr ⟨hk.out, rfl, Below.refl _ _⟩
    | true =>
      have hk := Lib.hid (show ivOk ts = true by unfold ivOk; rw [hl.out, hL, hA]; rfl)
      have hR := Lib.hid (show ivL ts = tab n (ivA ts n) by unfold ivL; rw [hl.out])
      have hbd := Lib.hid (fun i k (hi : k ≤ n) => ivS_bd (i := i) hA hl.out hn2 hi)
      have hL := Lib.hid hL
      have hA := Lib.hid hA
      have hmk := make_int n (by omega)
      go_enter Tryd.func29, Tryd.ntmps29
      go_wp2_with fail
      refine (isLength_any n w).mono ?_
      rintro e w' ⟨rfl, rfl⟩
      rw [hL.out]
      go_wp2_with fail
      refine (allUpTo_any _ _ _ _ 1099511627776 _ h (by decide) (by decide)).mono ?_
      rintro e w' ⟨rfl, rfl⟩
      rw [hA.out]
      go_wp2
      clear hmk
      go_loopw [22] (fun iv wr => ∃ k : Nat, iv = .int .i64 k ∧ k ≤ n ∧ Fill w wr w.heap.size 3 n k (ivA ts n)) (fun iv _ => n - (intOf iv).toNat)
      case atStart => exact ⟨0, rfl, Nat.zero_le _, Fill.start (Below.refl _ _) rfl⟩
      case round =>
        obtain ⟨i, rfl, hin, hF⟩ := hrel
        rcases Nat.lt_or_ge i n with hlt | hge
        · have hr := h.below hF.bel
          have hTr := hT.below hF.bel
          obtain ⟨ad, t0, rfl, hc0, ht0⟩ := hr.at_ (j := 0) (by omega)
          have hb0 := allB_get hA.out (by rw [hl.out]; omega) ht0.out
          have hb01 := hb0.1
          have hb02 := hb0.2
          clear hb0
          have hst := Lib.hid (show sm 1 (ivF ts n i) = 16384 * t0 by show 0 + ivF ts n i 0 = _; rw [Int.zero_add]; unfold ivF; rw [if_pos rfl, ht0.out])
          have hc0' := hc0
          rw [show ad.add 0 = ad from by unfold Addr.add; simp] at hc0'
          go_wp2
          go_loopw [6, 7] (fun sv kv w2 => ∃ k r : Nat, kv = .int .i64 k ∧ sv = .int .i64 (sm k (ivF ts n i)) ∧ 1 ≤ k ∧ k ≤ n ∧ Fill w w2 w.heap.size 3 n i (ivA ts n)) (fun _ kv _ => n - (intOf kv).toNat)
          case atStart => exact ⟨1, 0, rfl, by rw [hst.out], Nat.le_refl _, hn1, hF⟩
          case round =>
            obtain ⟨k, r, rfl, rfl, hk1, hkn, hG⟩ := hrel
            have hb1 := hbd.out i k hkn
            rcases Nat.lt_or_ge k n with hkl | hkg
            · have hr2 := h.below hG.bel
              have hT2 := hT.below hG.bel
              obtain ⟨ad2, x, e2, hcx, hx⟩ := hr2.at_ hkl
              injection e2 with e2
              subst e2
              have hxb := allB_get hA.out (by rw [hl.out]; exact hkl) hx.out
              have hcb := cs_bd ((2 * i + 1) * k * (64 / n))
              have hstep := Lib.hid (show sm (k + 1) (ivF ts n i) = sm k (ivF ts n i) + 2 * x * cs ((2 * i + 1) * k * (64 / n)) by show sm k (ivF ts n i) + ivF ts n i k = _; unfold ivF; rw [if_neg (by omega), hx.out])
              have hb4 := hbd.out i (k + 1) hkl
              rw [hstep.out] at hb4
              have hturn := Lib.hid (fun w9 (h9 : Tab w9) => turn_any i k n w9 h9 (by omega) (by omega) hn1)
              generalize cs ((2 * i + 1) * k * (64 / n)) = cc at *
              have hpb := prod_bd (a := 2 * x) (m := 2199023255552) (q := 16384) (by omega) (by omega) hcb.1 hcb.2
              obtain ⟨p, hp⟩ : ∃ p, 2 * x * cc = p := ⟨_, rfl⟩
              rw [hp] at hpb hb4
              have e0 : IntKind.i64.wrap (2 * x) = 2 * x := IntWalk.i64_in _ (by omega)
              have e1 : IntKind.i64.wrap (2 * x * cc) = p := by rw [hp]; exact IntWalk.i64_in _ (by omega)
              generalize hS0 : sm k (ivF ts n i) = S at *
              clear hS0
              have e3 : IntKind.i64.wrap (S + p) = S + p := IntWalk.i64_in _ (by omega)
              have hstep' := Lib.hid (show S + p = sm (k + 1) (ivF ts n i) by rw [hstep.out, hp])
              clear hb1 hxb hcb hpb hb4 hstep hp hb01 hb02
              have i0 : (0 : Int) ≤ (k : Int) := by omega
              have i1 : (k : Int) < (n : Int) := by omega
              have hkn2 : k ≤ n := by omega
              go_wp2
              go_quiet (first | (go_at_call 63; exact Calls.quiet_of_same (hturn.out _ (hT2.drewN _))))
              have hG2 : Fill w ((_ : World).drewN nq) w.heap.size 3 n i (ivA ts n) := ⟨hG.own, bel_drewN hG.bel nq, hG.new⟩
              go_wp2
              go_roundw
              case rel => exact ⟨k + 1, 0, by go_num, by rw [hstep'.out], by omega, hkl, hG2⟩
              case measure => simp [intOf]; omega
            · have hkn' : k = n := by omega
              subst hkn'
              obtain ⟨y, hcy⟩ := hG.cell hlt
              have hcf := hG.frozen i
              have hF2 := hG.next hlt (v := ivA ts k i) rfl
              have hv := Lib.hid (show rnd (sm k (ivF ts k i)) (k * 268435456) = ivA ts k i from rfl)
              have hF2 := Lib.hid hF2
              generalize sm k (ivF ts k i) = S at *
              have hd1 := hb1.1
              have hd2 := hb1.2
              clear hb1
              go_wp2_with (go_at_call 64; refine (divide_any _ _ _ (by omega) (by omega) (by omega) (by omega)).mono ?_; rintro e w' ⟨rfl, rfl⟩)
              refine ⟨⟨i + 1, by go_num, hlt, ?_⟩, by simp [intOf]; omega⟩
              rw [show (k : Int) * 16384 * 16384 = k * 268435456 by omega, hv.out]
              exact hF2.out
        · have hkn' : i = n := by omega
          subst hkn'
          have hD := hF.whole
          go_wp2
          go_ret2
          exact .inl ⟨hk.out, _, rfl, by rw [hR.out]; exact hD, hF.bel, Nat.le_refl _⟩

def slS (xs : List Int) : Int := sm xs.length fun i => max (xs.getD i 0) (-xs.getD i 0)
def slN (xs : List Int) : Int := (slS xs + 1) / 2
def slOk (xs : List Int) : Bool := decide (xs.length ≤ 64) && allB (-65536) 65536 xs
theorem slS_bd {xs : List Int} {k : Nat} (h : allB (-65536) 65536 xs = true) (hk : k ≤ xs.length) (hl : xs.length ≤ 64) : 0 ≤ sm k (fun i => max (xs.getD i 0) (-xs.getD i 0)) ∧ sm k (fun i => max (xs.getD i 0) (-xs.getD i 0)) ≤ 65536 * k := by
  induction k with
  | zero => simp [sm]
  | succ k ih =>
    have h1 := ih (by omega)
    have h2 := allB_get h (j := k) (by omega) rfl
    show 0 ≤ sm k _ + max (xs.getD k 0) (-xs.getD k 0) ∧ sm k _ + max (xs.getD k 0) (-xs.getD k 0) ≤ _
    omega

theorem Cosine_any (j : Int) (w : World) (hT : Tab w) (hj : j ≤ 9223372036854775807) :
    Calls Tryd.prog 16 #[.int .i64 j] w fun e w' => e = .returned (if j < 0 then .tuple #[.int .i64 0, .int .i64 2] else .tuple #[.int .i64 (cs j.toNat), .int .i64 0]) ∧ w' = w := by
  by_cases h0 : j < 0
  · rw [if_pos h0]
    go_enter Tryd.func16, Tryd.ntmps16
    go_wp2
    go_ret2
    exact ⟨rfl, rfl⟩
  · rw [if_neg h0]
    obtain ⟨m, rfl⟩ : ∃ m : Nat, j = (m : Int) := ⟨j.toNat, by omega⟩
    have hd : decide ((m : Int) < 0) = false := decide_eq_false h0
    go_enter Tryd.func16, Tryd.ntmps16
    go_wp2_with (go_at_call 59; refine (cosine_any m _ hT (by omega)).mono ?_; rintro e w' ⟨rfl, rfl⟩)
    go_ret2
    exact ⟨rfl, rfl⟩

theorem if_max (x : Int) : (if x < -x then -x else x) = max x (-x) := by split <;> omega
set_option maxHeartbeats 800000 in
theorem Slack_any (A : Option Addr) (n c : Nat) (xs : List Int) (w : World) (h : Sl .i64 w A n c xs) :
    Calls Tryd.prog 22 #[.slice A n c] w fun e w' => e = .returned (if slOk xs then .tuple #[.int .i64 (slN xs), .int .i64 0] else .tuple #[.int .i64 0, .int .i64 2]) ∧ w' = w := by
  have hl := Lib.hid h.len
  have hcap := h.cap
  have htop := h.top
  by_cases hn : n ≤ 64
  · have hd : decide (64 < (n : Int)) = false := decide_eq_false (by omega)
    cases hA : allB (-65536) 65536 xs with
    | false =>
      have hk := Lib.hid (show slOk xs = false by unfold slOk; rw [hA, Bool.and_false])
      have hA := Lib.hid hA
      rw [hk.out]
      go_enter Tryd.func22, Tryd.ntmps22
      go_wp2_with fail
      refine (allUpTo_any _ _ _ _ 65536 _ h (by decide) (by decide)).mono ?_
      rintro e w' ⟨rfl, rfl⟩
      rw [hA.out]
      go_wp2
      go_ret2
      exact ⟨rfl, rfl⟩
    | true =>
      have hk := Lib.hid (show slOk xs = true by unfold slOk; rw [hA, hl.out, decide_eq_true hn]; rfl)
      have hbd := Lib.hid (fun k (hk : k ≤ n) => slS_bd (k := k) hA (by rw [hl.out]; exact hk) (by rw [hl.out]; exact hn))
      have hN := Lib.hid (show slN xs = (sm n (fun i => max (xs.getD i 0) (-xs.getD i 0)) + 1) / 2 by unfold slN slS; rw [hl.out])
      have hA := Lib.hid hA
      rw [hk.out]
      go_enter Tryd.func22, Tryd.ntmps22
      go_wp2_with fail
      refine (allUpTo_any _ _ _ _ 65536 _ h (by decide) (by decide)).mono ?_
      rintro e w' ⟨rfl, rfl⟩
      rw [hA.out]
      go_wp2
      go_loop [4, 17] (fun sv iv => ∃ k : Nat, k ≤ n ∧ iv = .int .i64 k ∧ sv = .int .i64 (sm k fun i => max (xs.getD i 0) (-xs.getD i 0))) (fun _ iv => n - (intOf iv).toNat)
      case atStart => exact ⟨0, Nat.zero_le _, rfl, rfl⟩
      case round =>
        obtain ⟨k, hkn, rfl, rfl⟩ := hrel
        have hb := hbd.out k hkn
        have hb1 := hb.1
        have hb2 := hb.2
        rcases Nat.lt_or_ge k n with hlt | hge
        · obtain ⟨ad, x, rfl, hc, hx⟩ := h.at_ hlt
          have hxb := allB_get hA.out (by rw [hl.out]; exact hlt) hx.out
          have hx1 := hxb.1
          have hx2 := hxb.2
          have hs := Lib.hid (show sm (k + 1) (fun i => max (xs.getD i 0) (-xs.getD i 0)) = sm k (fun i => max (xs.getD i 0) (-xs.getD i 0)) + max x (-x) by show sm k _ + max (xs.getD k 0) (-xs.getD k 0) = _; rw [hx.out])
          clear hb hxb
          generalize sm k (fun i => max (xs.getD i 0) (-xs.getD i 0)) = S at *
          have hm := if_max x
          obtain ⟨m, hmm⟩ : ∃ m, max x (-x) = m := ⟨_, rfl⟩
          have hm0 : 0 ≤ m ∧ m ≤ 65536 := by omega
          have hm1 := hm0.1
          have hm2 := hm0.2
          rw [hmm] at hm hs
          clear hm0
          have hmm := Lib.hid hmm
          go_wp2
          go_round
          case rel => exact ⟨k + 1, by omega, by go_num, by rw [hs.out]⟩
          case measure => simp [intOf]; omega
        · have hkn : k = n := by omega
          subst hkn
          clear hb hbd
          have hfin := Lib.hid (show slN xs = (sm k (fun i => max (xs.getD i 0) (-xs.getD i 0)) + 1) / 2 from hN.out)
          clear hN
          generalize sm k (fun i => max (xs.getD i 0) (-xs.getD i 0)) = S at *
          go_wp2_with (go_at_call 65; refine (divideUp_any _ _ _ (by omega) (by omega) (by decide) (by decide)).mono ?_; rintro e w' ⟨rfl, rfl⟩)
          go_ret2
          exact ⟨by rw [hfin.out, show S + 1 = S + 2 - 1 by omega]; rfl, rfl⟩
  · have hd : decide (64 < (n : Int)) = true := decide_eq_true (by omega)
    have hk := Lib.hid (show slOk xs = false by unfold slOk; rw [hl.out, decide_eq_false hn]; rfl)
    rw [hk.out]
    go_enter Tryd.func22, Tryd.ntmps22
    go_wp2
    go_ret2
    exact ⟨rfl, rfl⟩
end Go.Proofs.YtoljffghaklpdaaDoor


/- The document's transforms, slack and lengths. -/
namespace Go.Proofs.YtoljffghaklpdaaDoor
open Go.RowKit

set_option maxHeartbeats 800000 in
theorem RC_any (j : Nat) (w : World) (hT : Tab w) (hj : j ≤ 9223372036854775807) : Calls Tryd.prog 18 #[.int .i64 (j : Int)] w fun e w' => e = .returned (.int .i64 (cs j)) ∧ w = w' := by
  have hm : (j : Int).tmod 256 = ((j % 256 : Nat) : Int) := by rw [Int.tmod_eq_emod_of_nonneg (by omega)]; rfl
  have hcs : cs j = if j % 256 ≤ 64 then cosT (j % 256) else if j % 256 ≤ 128 then -cosT (128 - j % 256) else if j % 256 ≤ 192 then -cosT (j % 256 - 128) else cosT (256 - j % 256) := rfl
  have hlt : j % 256 < 256 := Nat.mod_lt _ (by decide)
  generalize j % 256 = m at *
  by_cases h1 : m ≤ 64
  · rw [if_pos h1] at hcs
    have hv := Lib.hid hcs
    clear hcs
    have hc := hT m (by omega)
    generalize cosT m = v at *
    have d1 : decide ((m : Int) ≤ 64) = true := decide_eq_true (by omega)
    go_enter Tryd.func18, Tryd.ntmps18
    go_wp2
    go_ret
    exact ⟨ret_int hv.out.symm, rfl⟩
  · rw [if_neg h1] at hcs
    have d1 : decide ((m : Int) ≤ 64) = false := decide_eq_false (by omega)
    by_cases h2 : m ≤ 128
    · rw [if_pos h2] at hcs
      have hv := Lib.hid hcs
      clear hcs
      obtain ⟨p, hp⟩ : ∃ p : Nat, 128 - (m : Int) = (p : Int) := ⟨128 - m, by omega⟩
      have hpe : 128 - m = p := by omega
      rw [hpe] at hv
      have hc := hT p (by omega)
      have hb := cosT_bd p
      generalize cosT p = v at *
      have hb1 := hb.1
      have hb2 := hb.2
      have hp64 : p ≤ 64 := by omega
      have d2 : decide ((m : Int) ≤ 128) = true := decide_eq_true (by omega)
      clear hb hpe
      go_enter Tryd.func18, Tryd.ntmps18
      go_wp2
      go_ret
      exact ⟨ret_int hv.out.symm, rfl⟩
    · rw [if_neg h2] at hcs
      have d2 : decide ((m : Int) ≤ 128) = false := decide_eq_false (by omega)
      by_cases h3 : m ≤ 192
      · rw [if_pos h3] at hcs
        have hv := Lib.hid hcs
        clear hcs
        obtain ⟨p, hp⟩ : ∃ p : Nat, (m : Int) - 128 = (p : Int) := ⟨m - 128, by omega⟩
        have hpe : m - 128 = p := by omega
        rw [hpe] at hv
        have hc := hT p (by omega)
        have hb := cosT_bd p
        generalize cosT p = v at *
        have hb1 := hb.1
        have hb2 := hb.2
        have hp64 : p ≤ 64 := by omega
        have d3 : decide ((m : Int) ≤ 192) = true := decide_eq_true (by omega)
        clear hb hpe
        go_enter Tryd.func18, Tryd.ntmps18
        go_wp2
        go_ret
        exact ⟨ret_int hv.out.symm, rfl⟩
      · rw [if_neg h3] at hcs
        have hv := Lib.hid hcs
        clear hcs
        obtain ⟨p, hp⟩ : ∃ p : Nat, 256 - (m : Int) = (p : Int) := ⟨256 - m, by omega⟩
        have hpe : 256 - m = p := by omega
        rw [hpe] at hv
        have hc := hT p (by omega)
        generalize cosT p = v at *
        have hp64 : p ≤ 64 := by omega
        have d3 : decide ((m : Int) ≤ 192) = false := decide_eq_false (by omega)
        clear hpe
        go_enter Tryd.func18, Tryd.ntmps18
        go_wp2
        go_ret
        exact ⟨ret_int hv.out.symm, rfl⟩

theorem turn_letters (i k n : Nat) (hi : i ≤ 64) (hk : k ≤ 64) : ∃ q P M : Nat, (64 : Int).tdiv (n : Int) = (q : Int) ∧ (2 * (i : Int) + 1) * (k : Int) = (P : Int) ∧ (P : Int) * (q : Int) = (M : Int) ∧ q ≤ 64 ∧ P ≤ 8256 ∧ M ≤ 528384 ∧ Hid (cs ((2 * i + 1) * k * (64 / n)) = cs M) := by
  have hq2 : 64 / n ≤ 64 := Nat.div_le_self _ _
  have hP2 : (2 * i + 1) * k ≤ 129 * 64 := Nat.mul_le_mul (by omega) hk
  have hM2 : (2 * i + 1) * k * (64 / n) ≤ 129 * 64 * 64 := Nat.mul_le_mul hP2 hq2
  exact ⟨64 / n, (2 * i + 1) * k, (2 * i + 1) * k * (64 / n), by rw [Int.tdiv_eq_ediv_of_nonneg (by omega)]; exact (Int.natCast_ediv 64 n).symm, by rw [Int.natCast_mul]; simp, by rw [← Int.natCast_mul], hq2, hP2, hM2, rfl⟩

theorem lenB_iff (n : Nat) : lenB n = (n == 1 || n == 2 || n == 4 || n == 8 || n == 16 || n == 32 || n == 64) := by
  rcases Nat.lt_or_ge 64 n with h | h
  · have h1 : lenB n = false := by
      unfold lenB
      rw [Nat.mod_eq_of_lt h]
      simp
    rw [h1]
    have e : ∀ m, m ≤ 64 → (n == m) = false := fun m hm => by rw [beq_eq_false_iff_ne]; omega
    rw [e 1 (by omega), e 2 (by omega), e 4 (by omega), e 8 (by omega), e 16 (by omega), e 32 (by omega), e 64 (by omega)]
    rfl
  · have : ∀ m, m ≤ 64 → lenB m = (m == 1 || m == 2 || m == 4 || m == 8 || m == 16 || m == 32 || m == 64) := by decide +kernel
    exact this n h
theorem RLength_any (n : Nat) (w : World) : Calls Tryd.prog 25 #[.int .i64 (n : Int)] w fun e w' => e = .returned (.bool (lenB n)) ∧ w' = w := by
  have hv := Lib.hid (lenB_iff n)
  have e : ∀ m : Nat, ((n : Int) == (m : Int)) = (n == m) := fun m => by
    by_cases h : n = m
    · subst h; simp
    · rw [beq_eq_false_iff_ne.2 h, beq_eq_false_iff_ne]; omega
  have e1 : ((n : Int) == 1) = (n == 1) := e 1
  have e2 : ((n : Int) == 2) = (n == 2) := e 2
  have e3 : ((n : Int) == 4) = (n == 4) := e 4
  have e4 : ((n : Int) == 8) = (n == 8) := e 8
  have e5 : ((n : Int) == 16) = (n == 16) := e 16
  have e6 : ((n : Int) == 32) = (n == 32) := e 32
  have e7 : ((n : Int) == 64) = (n == 64) := e 64
  clear e
  generalize hb1 : (n == 1) = b1 at *
  generalize hb2 : (n == 2) = b2 at *
  generalize hb3 : (n == 4) = b3 at *
  generalize hb4 : (n == 8) = b4 at *
  generalize hb5 : (n == 16) = b5 at *
  generalize hb6 : (n == 32) = b6 at *
  generalize hb7 : (n == 64) = b7 at *
  clear hb1 hb2 hb3 hb4 hb5 hb6 hb7
  cases b1
  case' false => cases b2
  case' false.false => cases b3
  case' false.false.false => cases b4
  case' false.false.false.false => cases b5
  case' false.false.false.false.false => cases b6
  case' false.false.false.false.false.false => cases b7
  all_goals
    go_enter Tryd.func25, Tryd.ntmps25
    go_wp2
    go_ret
    exact ⟨ret_bool hv.out.symm, rfl⟩

set_option maxHeartbeats 1200000 in
set_option maxRecDepth 100000 in
theorem RTransform_any (A : Option Addr) (n c : Nat) (xs : List Int) (w : World) (h : Sl .i64 w A n c xs) (hT : Tab w) (hk : trOk xs = true) :
    Calls Tryd.prog 27 #[.slice A n c] w fun e w' => ∃ g, e = .returned (.slice (some ⟨g, 0, none⟩) n n) ∧ Mk w' g 3 .i64 (trL xs) ∧ Below w.heap.size w w' ∧ w.heap.size ≤ g := by
  have hl := Lib.hid h.len
  have hcap := h.cap
  have htop := h.top
  have hkk : lenB n = true ∧ allB (-65536) 65536 xs = true := by
    unfold trOk at hk
    simp only [Bool.and_eq_true] at hk
    rw [hl.out] at hk
    exact hk
  obtain ⟨hn1, hn2, _⟩ := lenB_le hkk.1
  have hbd := Lib.hid (fun k i (hi : i ≤ n) => trA_bd (k := k) hkk.2 hl.out hn2 hi)
  have hA := Lib.hid hkk.2
  have hR := Lib.hid (show trL xs = tab n fun k => sm n (trF xs n k) by unfold trL; rw [hl.out]; rfl)
  have hmk := make_int n (by omega)
  clear hk hkk
  go_enter Tryd.func27, Tryd.ntmps27
  go_wp2
  clear hmk
  go_loopw [5] (fun iv wr => ∃ k : Nat, iv = .int .i64 k ∧ k ≤ n ∧ Fill w wr w.heap.size 3 n k fun k => sm n (trF xs n k)) (fun iv _ => n - (intOf iv).toNat)
  case atStart => exact ⟨0, rfl, Nat.zero_le _, Fill.start (Below.refl _ _) rfl⟩
  case round =>
    obtain ⟨k, rfl, hkn, hF⟩ := hrel
    rcases Nat.lt_or_ge k n with hlt | hge
    · have hFA := hF.begin_ hlt
      go_wp2
      go_loopw [6] (fun iv w2 => ∃ i : Nat, iv = .int .i64 i ∧ i ≤ n ∧ FillA w w2 w.heap.size 3 n k (sm i (trF xs n k)) fun k => sm n (trF xs n k)) (fun iv _ => n - (intOf iv).toNat)
      case atStart => exact ⟨0, rfl, Nat.zero_le _, hFA⟩
      case round =>
        obtain ⟨i, rfl, hin, hG⟩ := hrel
        rcases Nat.lt_or_ge i n with hil | hig
        · have hr := h.below hG.bel
          have hTr := hT.below hG.bel
          obtain ⟨ad, x, rfl, hcx, hx⟩ := hr.at_ hil
          have hb1 := hbd.out k i (by omega)
          have hxb := allB_get hA.out (by rw [hl.out]; exact hil) hx.out
          obtain ⟨q, P, M, hq, hP, hM, hq2, hP2, hM2, hcsM⟩ := turn_letters i k n (by omega) (by omega)
          have hcb := cs_bd M
          have hstep := Lib.hid (show sm (i + 1) (trF xs n k) = sm i (trF xs n k) + x * cs M by show sm i (trF xs n k) + trF xs n k i = _; unfold trF; rw [hx.out, hcsM.out])
          have hturn := Lib.hid (fun w9 (h9 : Tab w9) => show Calls Tryd.prog 18 #[.int .i64 (M : Int)] w9 (fun e w' => e = .returned (.int .i64 (cs M)) ∧ w' = w9) from (RC_any M w9 h9 (by omega)).mono fun e w' h9 => ⟨h9.1, h9.2.symm⟩)
          generalize cs M = cc at *
          have hpb := prod_bd (m := 65536) (q := 16384) hxb.1 hxb.2 hcb.1 hcb.2
          obtain ⟨p, hp⟩ : ∃ p, x * cc = p := ⟨_, rfl⟩
          rw [hp] at hpb
          have e1 : IntKind.i64.wrap (x * cc) = p := by rw [hp]; exact IntWalk.i64_in _ (by omega)
          have hb2 : -68719476736 ≤ sm i (trF xs n k) ∧ sm i (trF xs n k) ≤ 68719476736 := hb1
          generalize hS0 : sm i (trF xs n k) = S at *
          clear hS0
          have e2 : IntKind.i64.wrap (S + p) = S + p := IntWalk.i64_in _ (by omega)
          have e3 : IntKind.i64.wrap (2 * (i : Int)) = 2 * (i : Int) := IntWalk.i64_in _ (by omega)
          have e4 : IntKind.i64.wrap (2 * (i : Int) + 1) = 2 * (i : Int) + 1 := IntWalk.i64_in _ (by omega)
          have e5 : IntKind.i64.wrap ((2 * (i : Int) + 1) * (k : Int)) = (P : Int) := by rw [hP]; exact IntWalk.i64_in _ (by omega)
          have e6 : IntKind.i64.wrap ((64 : Int).tdiv (n : Int)) = (q : Int) := by rw [hq]; exact IntWalk.i64_in _ (by omega)
          have e7 : IntKind.i64.wrap ((P : Int) * (q : Int)) = (M : Int) := by rw [hM]; exact IntWalk.i64_in _ (by omega)
          have e8 : IntKind.i64.wrap (P : Int) = (P : Int) := IntWalk.i64_in _ (by omega)
          have e9 : IntKind.i64.wrap (q : Int) = (q : Int) := IntWalk.i64_in _ (by omega)
          have e10 : IntKind.i64.wrap (M : Int) = (M : Int) := IntWalk.i64_in _ (by omega)
          have hn0 : ¬ (n : Int) = 0 := by omega
          have hn0' : ¬ n = 0 := by omega
          have hstep' := Lib.hid (show S + p = sm (i + 1) (trF xs n k) by rw [hstep.out, hp])
          clear hb1 hxb hcb hpb hb2 hstep hp
          have hc0 := hG.cell
          have i0 : (0 : Int) ≤ (k : Int) := by omega
          have i1 : (k : Int) < (n : Int) := by omega
          have i2 : (0 : Int) ≤ (i : Int) := by omega
          have i3 : (i : Int) < (n : Int) := by omega
          go_wp2
          go_still_tail 22, (by kernel_rfl)
          still_call (hturn.out _ (hTr.drewN 1))
          repeat still_step
          refine wpStill_nil ?_
          change wpList _ _ _ _ _ (_ : World).drew
          have hG2 := hG.drewN 1
          change FillA w (_ : World).drew _ _ _ _ _ _ at hG2
          generalize (_ : World).drew = w3 at *
          have hcf := hG2.frozen k
          have hc3 := hG2.cell
          have hG4 := hG2.set_ (S + p)
          rw [hstep'.out] at hG4
          clear hc0 hcx
          go_wp2
          go_roundw
          case rel => exact ⟨i + 1, by go_num, hil, by rw [← hstep'.out] at hG4 ⊢; exact hG4⟩
          case measure => simp [intOf]; omega
        · have hii : i = n := by omega
          subst hii
          have hF2 := hG.end_ rfl
          go_wp2
          go_roundw
          case rel => exact ⟨k + 1, by go_num, hlt, hF2⟩
          case measure => simp [intOf]; omega
    · have hkn' : k = n := by omega
      subst hkn'
      have hD := hF.whole
      go_wp2
      go_ret
      exact ⟨_, rfl, by rw [hR.out]; exact hD, hF.bel, Nat.le_refl _⟩
end Go.Proofs.YtoljffghaklpdaaDoor


/- The document's spectrum, slack and inverse. -/
namespace Go.Proofs.YtoljffghaklpdaaDoor
open Go.RowKit

set_option maxHeartbeats 800000 in
theorem RSpectrum_any (A : Option Addr) (n c : Nat) (xs : List Int) (w : World) (h : Sl .i64 w A n c xs) (hT : Tab w) (hk : trOk xs = true) :
    Calls Tryd.prog 28 #[.slice A n c] w fun e w' => ∃ g, e = .returned (.slice (some ⟨g, 0, none⟩) n n) ∧ Mk w' g 3 .i64 (spL xs) ∧ Below w.heap.size w w' ∧ w.heap.size ≤ g := by
  have hl := Lib.hid h.len
  have hbd := Lib.hid (fun k => trA_bd2 hk hl.out k)
  have hn3 : n ≤ 64 := by
    have hk2 := hk
    unfold trOk at hk2
    simp only [Bool.and_eq_true] at hk2
    have := lenB_le hk2.1
    rw [hl.out] at this
    omega
  have hR := Lib.hid (show spL xs = tab n fun k => rnd (trA xs n k) 16384 by unfold spL; rw [hl.out])
  have hk := Lib.hid hk
  have hmk := make_int n (by omega)
  go_enter Tryd.func28, Tryd.ntmps28
  go_wp2_with fail
  refine (RTransform_any _ _ _ _ _ h hT hk.out).mono ?_
  rintro e w1 ⟨g1, rfl, hM, hb, hg⟩
  have hM : Mk w1 g1 3 .i64 (tab n (trA xs n)) := by
    have e0 : trL xs = tab n (trA xs n) := by unfold trL; rw [hl.out]
    rw [e0] at hM
    exact hM
  go_wp2
  clear hmk
  go_loopw [5] (fun iv wr => ∃ k : Nat, iv = .int .i64 k ∧ k ≤ n ∧ Fill w1 wr w1.heap.size 3 n k fun k => rnd (trA xs n k) 16384) (fun iv _ => n - (intOf iv).toNat)
  case atStart => exact ⟨0, rfl, Nat.zero_le _, Fill.start (Below.refl _ _) rfl⟩
  case round =>
    obtain ⟨k, rfl, hkn, hF⟩ := hrel
    rcases Nat.lt_or_ge k n with hlt | hge
    · have hMr := hM.below hF.bel
      have hc := hMr.cell (i := k) (by rw [tab_len]; exact hlt)
      rw [tab_getD hlt] at hc
      obtain ⟨y, hcy⟩ := hF.cell hlt
      have hcf := hF.frozen k
      have hF2 := Lib.hid (hF.next hlt (v := rnd (trA xs n k) 16384) rfl)
      have hb3 := hbd.out k
      generalize trA xs n k = v at *
      go_wp2_with (go_at_call 66; refine (Round_any _ _ _ (by omega) (by omega) (by decide) (by decide)).mono ?_; rintro e w' ⟨rfl, rfl⟩)
      go_roundw
      case rel => exact ⟨k + 1, by go_num, hlt, hF2.out⟩
      case measure => simp [intOf]; omega
    · have hkn' : k = n := by omega
      subst hkn'
      have hD := hF.whole
      have hbb := hb.trans (hF.bel.mono hb.size)
      have hgg : w.heap.size ≤ w1.heap.size := hb.size
      go_wp2
      go_ret
      exact ⟨_, rfl, by rw [hR.out]; exact hD, hbb, hgg⟩

set_option maxHeartbeats 800000 in
theorem RSlack_any (A : Option Addr) (n c : Nat) (xs : List Int) (w : World) (h : Sl .i64 w A n c xs) (hn : n ≤ 64) (hA : allB (-65536) 65536 xs = true) :
    Calls Tryd.prog 24 #[.slice A n c] w fun e w' => e = .returned (.int .i64 (slN xs)) ∧ ∃ k, w' = w.drewN k := by
  have hl := Lib.hid h.len
  have hcap := h.cap
  have htop := h.top
  have hbd := Lib.hid (fun k (hk : k ≤ n) => slS_bd (k := k) hA (by rw [hl.out]; exact hk) (by rw [hl.out]; exact hn))
  have hN := Lib.hid (show slN xs = (sm n (fun i => max (xs.getD i 0) (-xs.getD i 0)) + 1) / 2 by unfold slN slS; rw [hl.out])
  have hA := Lib.hid hA
  go_enter Tryd.func24, Tryd.ntmps24
  go_wp2
  go_loopw [3, 4] (fun sv iv wr => ∃ k r : Nat, iv = .int .i64 k ∧ k ≤ n ∧ sv = .int .i64 (sm k fun i => max (xs.getD i 0) (-xs.getD i 0)) ∧ wr = w.drewN r) (fun _ iv _ => n - (intOf iv).toNat)
  case atStart => exact ⟨0, 0, rfl, Nat.zero_le _, rfl, rfl⟩
  case round =>
    obtain ⟨k, r, rfl, hkn, rfl, rfl⟩ := hrel
    have hr := h.drewN r
    generalize hw : w.drewN r = w1 at *
    have hw := Lib.hid hw
    have hb := hbd.out k hkn
    have hb1 := hb.1
    have hb2 := hb.2
    clear hb
    rcases Nat.lt_or_ge k n with hlt | hge
    · obtain ⟨ad, x, rfl, hc, hx⟩ := hr.at_ hlt
      have hxb := allB_get hA.out (by rw [hl.out]; exact hlt) hx.out
      have hs := Lib.hid (show sm (k + 1) (fun i => max (xs.getD i 0) (-xs.getD i 0)) = sm k (fun i => max (xs.getD i 0) (-xs.getD i 0)) + max x (-x) by show sm k _ + max (xs.getD k 0) (-xs.getD k 0) = _; rw [hx.out])
      generalize sm k (fun i => max (xs.getD i 0) (-xs.getD i 0)) = S at *
      obtain ⟨m, hmm⟩ : ∃ m, max x (-x) = m := ⟨_, rfl⟩
      have hm0 : 0 ≤ m ∧ m ≤ 65536 := by omega
      have hs' := Lib.hid (show sm (k + 1) (fun i => max (xs.getD i 0) (-xs.getD i 0)) = S + m by rw [hs.out, hmm])
      have hmx := Lib.hid (show (if x < -x then -x else x) = m by split <;> omega)
      have e1 : IntKind.i64.wrap (-x) = -x := IntWalk.i64_in _ (by omega)
      have e2 : IntKind.i64.wrap (S + m) = S + m := IntWalk.i64_in _ (by omega)
      have i0 : (0 : Int) ≤ (k : Int) := by omega
      have i1 : (k : Int) < (n : Int) := by omega
      have e2' := Lib.hid (show wrap64 (S + m) = S + m by unfold wrap64; omega)
      clear hxb hs hm0
      go_wp2
      go_quiet (fail)
      go_wp2
      go_roundw
      case rel => exact ⟨k + 1, r + nq, by go_num, hlt, by rw [hs'.out, hmx.out]; exact congrArg _ e2'.out, by rw [← hw.out]; exact dr_add w r nq⟩
      case measure => simp [intOf]; omega
    · have hkn : k = n := by omega
      subst hkn
      have hfin := Lib.hid (show slN xs = (sm k (fun i => max (xs.getD i 0) (-xs.getD i 0)) + 1) / 2 from hN.out)
      clear hN hbd
      generalize sm k (fun i => max (xs.getD i 0) (-xs.getD i 0)) = S at *
      go_wp2
      go_ret
      exact ⟨ret_int hfin.out.symm, r, hw.out.symm⟩

set_option maxHeartbeats 1600000 in
set_option maxRecDepth 100000 in
theorem RInverse_any (A : Option Addr) (n c : Nat) (ts : List Int) (w : World) (h : Sl .i64 w A n c ts) (hT : Tab w) (hk : ivOk ts = true) :
    Calls Tryd.prog 30 #[.slice A n c] w fun e w' => ∃ g, e = .returned (.slice (some ⟨g, 0, none⟩) n n) ∧ Mk w' g 3 .i64 (ivL ts) ∧ Below w.heap.size w w' ∧ w.heap.size ≤ g := by
  have hl := Lib.hid h.len
  have hcap := h.cap
  have htop := h.top
  have hkk : lenB n = true ∧ allB (-1099511627776) 1099511627776 ts = true := by
    unfold ivOk at hk
    simp only [Bool.and_eq_true] at hk
    rw [hl.out] at hk
    exact hk
  obtain ⟨hn1, hn2, _⟩ := lenB_le hkk.1
  have hA := hkk.2
  clear hk hkk
  have hR := Lib.hid (show ivL ts = tab n (ivA ts n) by unfold ivL; rw [hl.out])
  have hbd := Lib.hid (fun i k (hi : k ≤ n) => ivS_bd (i := i) hA hl.out hn2 hi)
  have hA := Lib.hid hA
  have hmk := make_int n (by omega)
  go_enter Tryd.func30, Tryd.ntmps30
  go_wp2
  clear hmk
  go_loopw [5] (fun iv wr => ∃ k : Nat, iv = .int .i64 k ∧ k ≤ n ∧ Fill w wr w.heap.size 3 n k (ivA ts n)) (fun iv _ => n - (intOf iv).toNat)
  case atStart => exact ⟨0, rfl, Nat.zero_le _, Fill.start (Below.refl _ _) rfl⟩
  case round =>
    obtain ⟨i, rfl, hin, hF⟩ := hrel
    rcases Nat.lt_or_ge i n with hlt | hge
    · have hr := h.below hF.bel
      have hTr := hT.below hF.bel
      obtain ⟨ad, t0, rfl, hc0, ht0⟩ := hr.at_ (j := 0) (by omega)
      have hb0 := allB_get hA.out (by rw [hl.out]; omega) ht0.out
      have hb01 := hb0.1
      have hb02 := hb0.2
      clear hb0
      have hst := Lib.hid (show sm 1 (ivF ts n i) = 16384 * t0 by show 0 + ivF ts n i 0 = _; rw [Int.zero_add]; unfold ivF; rw [if_pos rfl, ht0.out])
      have hc0' := hc0
      rw [show ad.add 0 = ad from by unfold Addr.add; simp] at hc0'
      go_wp2
      go_loopw [6, 7] (fun sv kv w2 => ∃ k r : Nat, kv = .int .i64 k ∧ sv = .int .i64 (sm k (ivF ts n i)) ∧ 1 ≤ k ∧ k ≤ n ∧ Fill w w2 w.heap.size 3 n i (ivA ts n)) (fun _ kv _ => n - (intOf kv).toNat)
      case atStart => exact ⟨1, 0, rfl, by rw [hst.out], Nat.le_refl _, hn1, hF⟩
      case round =>
        obtain ⟨k, r, rfl, rfl, hk1, hkn, hG⟩ := hrel
        have hb1 := hbd.out i k hkn
        rcases Nat.lt_or_ge k n with hkl | hkg
        · have hr2 := h.below hG.bel
          have hT2 := hT.below hG.bel
          obtain ⟨ad2, x, e2, hcx, hx⟩ := hr2.at_ hkl
          injection e2 with e2
          subst e2
          have hxb := allB_get hA.out (by rw [hl.out]; exact hkl) hx.out
          have hcb := cs_bd ((2 * i + 1) * k * (64 / n))
          have hstep := Lib.hid (show sm (k + 1) (ivF ts n i) = sm k (ivF ts n i) + 2 * x * cs ((2 * i + 1) * k * (64 / n)) by show sm k (ivF ts n i) + ivF ts n i k = _; unfold ivF; rw [if_neg (by omega), hx.out])
          have hb4 := hbd.out i (k + 1) hkl
          rw [hstep.out] at hb4
          obtain ⟨qq, P, M, hq, hP, hM, hq2, hP2, hM2, hcsM⟩ := turn_letters i k n (by omega) (by omega)
          rw [hcsM.out] at hstep hcb hb4
          have hturn := Lib.hid (fun w9 (h9 : Tab w9) => show Calls Tryd.prog 18 #[.int .i64 (M : Int)] w9 (fun e w' => e = .returned (.int .i64 (cs M)) ∧ w' = w9) from (RC_any M w9 h9 (by omega)).mono fun e w' h9 => ⟨h9.1, h9.2.symm⟩)
          generalize cs M = cc at *
          have e4 : IntKind.i64.wrap (2 * (i : Int)) = 2 * (i : Int) := IntWalk.i64_in _ (by omega)
          have e5 : IntKind.i64.wrap (2 * (i : Int) + 1) = 2 * (i : Int) + 1 := IntWalk.i64_in _ (by omega)
          have e8 : IntKind.i64.wrap (P : Int) = (P : Int) := IntWalk.i64_in _ (by omega)
          have e9 : IntKind.i64.wrap (qq : Int) = (qq : Int) := IntWalk.i64_in _ (by omega)
          have e10 : IntKind.i64.wrap (M : Int) = (M : Int) := IntWalk.i64_in _ (by omega)
          have hn0 : ¬ (n : Int) = 0 := by omega
          have hn0' : ¬ n = 0 := by omega
          have hpb := prod_bd (a := 2 * x) (m := 2199023255552) (q := 16384) (by omega) (by omega) hcb.1 hcb.2
          obtain ⟨p, hp⟩ : ∃ p, 2 * x * cc = p := ⟨_, rfl⟩
          rw [hp] at hpb hb4
          have e0 : IntKind.i64.wrap (2 * x) = 2 * x := IntWalk.i64_in _ (by omega)
          have e1 : IntKind.i64.wrap (2 * x * cc) = p := by rw [hp]; exact IntWalk.i64_in _ (by omega)
          generalize hS0 : sm k (ivF ts n i) = S at *
          clear hS0
          have e3 : IntKind.i64.wrap (S + p) = S + p := IntWalk.i64_in _ (by omega)
          have hstep' := Lib.hid (show S + p = sm (k + 1) (ivF ts n i) by rw [hstep.out, hp])
          clear hb1 hxb hcb hpb hb4 hstep hp hb01 hb02 hcsM
          have i0 : (0 : Int) ≤ (k : Int) := by omega
          have i1 : (k : Int) < (n : Int) := by omega
          have hkn2 : k ≤ n := by omega
          go_wp2
          go_quiet (first | (go_at_call 18; exact Calls.quiet_of_same (hturn.out _ (hT2.drewN _))))
          have hG2 : Fill w ((_ : World).drewN nq) w.heap.size 3 n i (ivA ts n) := ⟨hG.own, bel_drewN hG.bel nq, hG.new⟩
          go_wp2
          go_roundw
          case rel => exact ⟨k + 1, 0, by go_num, by rw [hstep'.out], by omega, hkl, hG2⟩
          case measure => simp [intOf]; omega
        · have hkn' : k = n := by omega
          subst hkn'
          obtain ⟨y, hcy⟩ := hG.cell hlt
          have hcf := hG.frozen i
          have hF2 := hG.next hlt (v := ivA ts k i) rfl
          have hv := Lib.hid (show rnd (sm k (ivF ts k i)) (k * 268435456) = ivA ts k i from rfl)
          have hF2 := Lib.hid hF2
          generalize sm k (ivF ts k i) = S at *
          have hd1 := hb1.1
          have hd2 := hb1.2
          clear hb1
          go_wp2_with (go_at_call 66; refine (Round_any _ _ _ (by omega) (by omega) (by omega) (by omega)).mono ?_; rintro e w' ⟨rfl, rfl⟩)
          refine ⟨⟨i + 1, by go_num, hlt, ?_⟩, by simp [intOf]; omega⟩
          rw [hv.out]
          exact hF2.out
    · have hkn' : i = n := by omega
      subst hkn'
      have hD := hF.whole
      go_wp2
      go_ret
      exact ⟨_, rfl, by rw [hR.out]; exact hD, hF.bel, Nat.le_refl _⟩

end Go.Proofs.YtoljffghaklpdaaDoor
