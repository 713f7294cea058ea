/- Sums and products of lists of numbers. -/
import Derived.Test.YtbgihlfblmilmaaGreatDoorGL
namespace Go.Proofs.YtbgihlfblmilmaaGreatDoor.Fr
open Go.RowKit Num

/-- a slice of structs of three cells each, which are numbers -/
structure Ls (P : World → Value → Rat → Nat → Prop) (w : World) (A : Option Addr) (n c L : Nat) (qs : List Rat) : Prop where
  len : qs.length = n
  cap : n ≤ c
  top : c ≤ 9223372036854775807
  cell : 0 < n → ∃ ad, A = some ad ∧ ∀ (j : Nat) (q : Rat), qs[j]? = some q → ∃ a b d, w.cell? (ad.add (j * 3)) = some a ∧ w.cell? ⟨(ad.add (j * 3)).block, (ad.add (j * 3)).off + 1, none⟩ = some b ∧ w.cell? ⟨(ad.add (j * 3)).block, (ad.add (j * 3)).off + 2, none⟩ = some d ∧ P w (.agg #[a, b, d]) q L
theorem Ls.below {P : World → Value → Rat → Nat → Prop} (hP : ∀ (w w' : World) (v : Value) (q : Rat) (L : Nat), P w v q L → Below w.heap.size w w' → P w' v q L) {w w' : World} {A : Option Addr} {n c L : Nat} {qs : List Rat} (h : Ls P w A n c L qs) (hb : Below w.heap.size w w') : Ls P w' A n c L qs :=
  ⟨h.len, h.cap, h.top, fun hn => by
    obtain ⟨ad, e, hc⟩ := h.cell hn
    refine ⟨ad, e, fun j x hx => ?_⟩
    obtain ⟨a, b, d, h1, h2, h3, h4⟩ := hc j x hx
    exact ⟨a, b, d, (hb.cell (World.block_lt_of_cell? _ _ h1)).trans h1, (hb.cell (World.block_lt_of_cell? _ _ h2)).trans h2, (hb.cell (World.block_lt_of_cell? _ _ h3)).trans h3, hP _ _ _ _ _ h4 hb⟩⟩
/-- a number of a list of numbers taken apart -/
theorem Ls.rq {w : World} {A : Option Addr} {n c L : Nat} {qs : List Rat} (h : Ls RQ w A n c L qs) {j : Nat} (hj : j < n) :
    ∃ ad s A1 m1 c1 x1 A2 m2 c2 x2 N D, A = some ad ∧ w.cell? (ad.add (j * 3)) = some (.bool s) ∧ w.cell? ⟨(ad.add (j * 3)).block, (ad.add (j * 3)).off + 1, none⟩ = some (.slice A1 m1 c1) ∧ w.cell? ⟨(ad.add (j * 3)).block, (ad.add (j * 3)).off + 2, none⟩ = some (.slice A2 m2 c2) ∧
      Dg .u64 w A1 m1 c1 x1 ∧ Nrm x1 ∧ Hid (vl (bs .u64) x1 = N) ∧ m1 ≤ L ∧ Dg .u64 w A2 m2 c2 x2 ∧ Nrm x2 ∧ Hid (vl (bs .u64) x2 = D) ∧ m2 ≤ L ∧ 0 < D ∧ (s = true → 0 < N) ∧ Hid (fq s N D = qs.getD j 0) := by
  obtain ⟨ad, e, hc⟩ := h.cell (by omega)
  have hl : j < qs.length := by rw [h.len]; exact hj
  obtain ⟨a, b, d, h1, h2, h3, ⟨s, N, D, ⟨_, _, he, ⟨A1, m1, c1, x1, rfl, d1, n1, e1, l1⟩, ⟨A2, m2, c2, x2, rfl, d2, n2, e2, l2⟩⟩, p1, g1, k1⟩⟩ := hc j _ (List.getElem?_eq_getElem hl)
  injection he with he
  simp only [Array.mk.injEq, List.cons.injEq, and_true] at he
  obtain ⟨rfl, rfl, rfl⟩ := he
  exact ⟨ad, s, A1, m1, c1, x1, A2, m2, c2, x2, N, D, e, h1, h2, h3, d1, n1, e1, l1, d2, n2, e2, l2, p1, g1, by show _ = _; rw [k1.out]; simp [List.getD_eq_getElem?_getD, hl]⟩

theorem make_nats (n : Nat) (hn : n ≤ 1000000) (w : World) :
    (Instr.makeSlice 116 (.int .i64 (n : Int)) (.int .i64 (n : Int))).run Tryz.prog w = .ok (.slice (some ⟨w.heap.size, 0, none⟩) n n) (w.alloc (.cells (Array.replicate n (Value.slice none 0 0)) 65)) := by
  obtain ⟨i0, hi, hz0, hz1, hz2⟩ := info_parts (show (Tryz.prog.info? 65).map (fun i => (i.zero, i.size, i.bytes)) = some (some (.slice none 0 0), 1, 24) by kernel_rfl)
  have := run_make (P := Tryz.prog) w 116 65 i0 (.slice none 0 0) Tryz.underlying116 hi hz0 .i64 .i64 n n (by omega) (by omega) (by rw [hz2]; omega) (by omega)
  rw [this, hz1]
  have e : Value.cells (Value.slice none 0 0) = #[Value.slice none 0 0] := rfl
  have e2 : madeCells #[Value.slice none 0 0] n = Array.replicate n (Value.slice none 0 0) := by
    apply Array.ext
    · simp [size_madeCells]
    · intro i h1 h2
      simp [madeCells, Nat.mod_one]
  rw [e, Int.toNat_natCast, Nat.mul_one, e2]

/-- a list of numbers taken apart: signs, numerators, denominators -/
abbrev Tr := Bool × Nat × Nat
def tq (t : Tr) : Rat := fq t.1 t.2.1 t.2.2
structure Lr (w : World) (A : Option Addr) (n c L : Nat) (ts : List Tr) : Prop where
  len : ts.length = n
  cap : n ≤ c
  top : c ≤ 9223372036854775807
  cell : 0 < n → ∃ ad, A = some ad ∧ ∀ (j : Nat) (t : Tr), ts[j]? = some t → ∃ a b d, w.cell? (ad.add (j * 3)) = some a ∧ w.cell? ⟨(ad.add (j * 3)).block, (ad.add (j * 3)).off + 1, none⟩ = some b ∧ w.cell? ⟨(ad.add (j * 3)).block, (ad.add (j * 3)).off + 2, none⟩ = some d ∧ RV w (.agg #[a, b, d]) t.1 t.2.1 t.2.2 L
  den : ∀ t ∈ ts, 0 < t.2.2 ∧ (t.1 = true → 0 < t.2.1)
theorem Ls.lr {w : World} {A : Option Addr} {n c L : Nat} {qs : List Rat} (h : Ls RQ w A n c L qs) : ∃ ts, Lr w A n c L ts ∧ qs = ts.map tq := by
  rcases Nat.eq_zero_or_pos n with h0 | h0
  · subst h0
    exact ⟨[], ⟨rfl, h.cap, h.top, fun hp => absurd hp (by omega), fun t ht => by cases ht⟩, List.eq_nil_of_length_eq_zero h.len⟩
  · obtain ⟨ad, e, hc⟩ := h.cell h0
    have hx : ∀ j : Nat, ∃ t : Tr, ∀ hj : j < qs.length, (∃ a b d, w.cell? (ad.add (j * 3)) = some a ∧ w.cell? ⟨(ad.add (j * 3)).block, (ad.add (j * 3)).off + 1, none⟩ = some b ∧ w.cell? ⟨(ad.add (j * 3)).block, (ad.add (j * 3)).off + 2, none⟩ = some d ∧ RV w (.agg #[a, b, d]) t.1 t.2.1 t.2.2 L) ∧ 0 < t.2.2 ∧ (t.1 = true → 0 < t.2.1) ∧ tq t = qs[j] := by
      intro j
      by_cases hj : j < qs.length
      · obtain ⟨a, b, d, h1, h2, h3, ⟨s, N, D, h4, h5, h6, h7⟩⟩ := hc j _ (List.getElem?_eq_getElem hj)
        exact ⟨(s, N, D), fun _ => ⟨⟨a, b, d, h1, h2, h3, h4⟩, h5, h6, h7.out⟩⟩
      · exact ⟨(false, 0, 1), fun hj' => absurd hj' hj⟩
    refine ⟨(List.range n).map fun j => Classical.choose (hx j), ⟨by simp, h.cap, h.top, fun _ => ⟨ad, e, fun j t ht => ?_⟩, fun t ht => ?_⟩, ?_⟩
    · simp only [List.getElem?_map, Option.map_eq_some_iff] at ht
      obtain ⟨i, hi, rfl⟩ := ht
      have hjn : j < n := by
        rcases Nat.lt_or_ge j n with h9 | h9
        · exact h9
        · rw [List.getElem?_eq_none (by simpa using h9)] at hi; cases hi
      rw [List.getElem?_range hjn] at hi
      injection hi with hi
      subst hi
      exact (Classical.choose_spec (hx j) (by rw [h.len]; exact hjn)).1
    · simp only [List.mem_map, List.mem_range] at ht
      obtain ⟨j, hj, rfl⟩ := ht
      have := Classical.choose_spec (hx j) (by rw [h.len]; exact hj)
      exact ⟨this.2.1, this.2.2.1⟩
    · apply List.ext_getElem
      · simp [h.len]
      · intro j h1 h2
        simp only [List.getElem_map, List.getElem_range]
        exact (Classical.choose_spec (hx j) h1).2.2.2.symm
theorem Lr.below {w w' : World} {A : Option Addr} {n c L : Nat} {ts : List Tr} (h : Lr w A n c L ts) (hb : Below w.heap.size w w') : Lr w' A n c L ts :=
  ⟨h.len, h.cap, h.top, fun hn => by
    obtain ⟨ad, e, hc⟩ := h.cell hn
    refine ⟨ad, e, fun j x hx => ?_⟩
    obtain ⟨a, b, d, h1, h2, h3, h4⟩ := hc j x hx
    exact ⟨a, b, d, (hb.cell (World.block_lt_of_cell? _ _ h1)).trans h1, (hb.cell (World.block_lt_of_cell? _ _ h2)).trans h2, (hb.cell (World.block_lt_of_cell? _ _ h3)).trans h3, h4.below hb⟩, h.den⟩
theorem Lr.at_ {w : World} {A : Option Addr} {n c L : Nat} {ts : List Tr} (h : Lr w A n c L ts) {j : Nat} (hj : j < n) :
    ∃ ad t A1 m1 c1 x1 A2 m2 c2 x2, A = some ad ∧ Hid (ts[j]? = some t) ∧ w.cell? (ad.add (j * 3)) = some (.bool t.1) ∧ w.cell? ⟨(ad.add (j * 3)).block, (ad.add (j * 3)).off + 1, none⟩ = some (.slice A1 m1 c1) ∧ w.cell? ⟨(ad.add (j * 3)).block, (ad.add (j * 3)).off + 2, none⟩ = some (.slice A2 m2 c2) ∧
      Dg .u64 w A1 m1 c1 x1 ∧ Nrm x1 ∧ Hid (vl (bs .u64) x1 = t.2.1) ∧ m1 ≤ L ∧ Dg .u64 w A2 m2 c2 x2 ∧ Nrm x2 ∧ Hid (vl (bs .u64) x2 = t.2.2) ∧ m2 ≤ L ∧ Hid (0 < t.2.2) := by
  obtain ⟨ad, e, hc⟩ := h.cell (by omega)
  have hl : j < ts.length := by rw [h.len]; exact hj
  obtain ⟨a, b, d, h1, h2, h3, ⟨_, _, he, ⟨A1, m1, c1, x1, rfl, d1, n1, e1, l1⟩, ⟨A2, m2, c2, x2, rfl, d2, n2, e2, l2⟩⟩⟩ := hc j _ (List.getElem?_eq_getElem hl)
  injection he with he
  simp only [Array.mk.injEq, List.cons.injEq, and_true] at he
  obtain ⟨rfl, rfl, rfl⟩ := he
  exact ⟨ad, ts[j], A1, m1, c1, x1, A2, m2, c2, x2, e, List.getElem?_eq_getElem hl, h1, h2, h3, d1, n1, e1, l1, d2, n2, e2, l2, (h.den _ (List.getElem_mem hl)).1⟩

theorem mkRat_add_same (a b : Int) {d : Nat} (hd : 0 < d) : mkRat a d + mkRat b d = mkRat (a + b) d := by
  rw [Rat.mkRat_add_mkRat _ _ (by omega) (by omega), Rat.mkRat_eq_iff (Nat.mul_ne_zero (by omega) (by omega)) (by omega), ← Int.add_mul, Int.natCast_mul, Int.mul_assoc]
theorem mkRat_scale {s : Bool} {N D d : Nat} (hD : 0 < D) (hd : 0 < d) (hdvd : D ∣ d) : fq s N D = mkRat (if s then -((N * (d / D) : Nat) : Int) else ((N * (d / D) : Nat) : Int)) d := by
  unfold fq
  rw [Rat.mkRat_eq_iff (by omega) (by omega)]
  obtain ⟨k, rfl⟩ := hdvd
  rw [Nat.mul_div_cancel_left _ hD]
  cases s
  · simp [Int.natCast_mul, Int.mul_comm, Int.mul_left_comm]
  · simp only [if_true, Int.natCast_mul, Int.neg_mul]
    congr 1
    simp [Int.mul_comm, Int.mul_left_comm]
theorem lcm_fold_dvd {l : List Nat} {S x : Nat} (h : x ∈ l) : x ∣ l.foldl (fun a b => a.lcm b) S := by
  have h1 : ∀ (l : List Nat) (S y : Nat), y ∣ S → y ∣ l.foldl (fun a b => a.lcm b) S := by
    intro l
    induction l with
    | nil => intro S y hy; exact hy
    | cons a l ih => intro S y hy; exact ih _ _ (Nat.dvd_trans hy (Nat.dvd_lcm_left S a))
  induction l generalizing S with
  | nil => cases h
  | cons a l ih =>
    rcases List.mem_cons.1 h with rfl | h
    · exact h1 l _ _ (Nat.dvd_lcm_right S x)
    · exact ih h
theorem lcm_fold_pos {l : List Nat} {S : Nat} (hS : 0 < S) (h : ∀ x ∈ l, 0 < x) : 0 < l.foldl (fun a b => a.lcm b) S := by
  induction l generalizing S with
  | nil => exact hS
  | cons a l ih => exact ih (Nat.lcm_pos hS (h a (by simp))) (fun x hx => h x (by simp [hx]))

theorem set_snoc {n k : Nat} (vals : List Value) (v : Value) (h : vals.length = k) (hk : k < n) : (vals ++ List.replicate (n - k) (Value.slice none 0 0)).toArray.setIfInBounds k v = ((vals ++ [v]) ++ List.replicate (n - (k + 1)) (Value.slice none 0 0)).toArray := by
  rw [List.setIfInBounds_toArray]
  congr 1
  rw [List.set_append_right _ _ (by omega), h, Nat.sub_self, show n - k = (n - (k + 1)) + 1 by omega, List.replicate_succ, List.set_cons_zero]
  simp
/-- numbers are not in a block of slices -/
theorem NVs.setb {w : World} {L g : Nat} {t : TypeId} {cs : Array Value} {vals : List Value} {xs : List Nat} (h : NVs w L vals xs) (hB : Blk w g t cs) (hc : ∀ (i : Nat) (v : Value), cs[i]? = some v → ∃ a b d, v = .slice a b d) (i : Nat) (u : Value) : NVs (w.setCell ⟨g, i, none⟩ u) L vals xs :=
  ⟨h.1, fun j v x h1 h2 => by
    obtain ⟨A, m, c, us, e, hD, h3, h4, h5⟩ := h.2 j v x h1 h2
    refine ⟨A, m, c, us, e, hD.farp (fun hp ad he hg => ?_) i u, h3, h4, h5⟩
    obtain ⟨ad', y, e2, hcy, _⟩ := hD.at_ hp
    rw [he] at e2
    injection e2 with e2
    subst e2
    rw [show ad.add 0 = ad from rfl] at hcy
    unfold Blk at hB
    rw [← hg] at hB
    simp only [World.cell?, hB] at hcy
    split at hcy
    · cases hcy
    · obtain ⟨a, b, d, hv⟩ := hc _ _ hcy
      cases hv⟩

/-- a number in memory of the call's own, in a block of digits -/
def OV (w : World) (v : Value) (x L : Nat) : Prop := ∃ g c cur, v = .slice (some ⟨g, 0, none⟩) (tl cur) c ∧ Mk w g 82 .u64 cur ∧ Hid (cur.length = c) ∧ Okd (bs .u64) cur ∧ Hid (vl (bs .u64) cur = x) ∧ tl cur ≤ L ∧ c ≤ 9223372036854775807
theorem OV.nv {w : World} {v : Value} {x L : Nat} (h : OV w v x L) : NV .u64 w v x L := by
  obtain ⟨g, c, cur, rfl, h1, h2, h3, h4, h5, h6⟩ := h
  exact NV.mk (h1.dg64 h2.out h6 h3).tr (nrm_tr _) (show _ = _ by rw [vl_tr]; exact h4.out) h5
theorem OV.below {w w' : World} {v : Value} {x L : Nat} (h : OV w v x L) (hb : Below w.heap.size w w') : OV w' v x L := by
  obtain ⟨g, c, cur, e, h1, h2⟩ := h
  exact ⟨g, c, cur, e, h1.below hb h1.lt, h2⟩
theorem OV.kept {w w' : World} {v u : Value} {x L base n : Nat} {xs : List Value} (h : OV w v x L) (hu : w.ownsRow base 65 1 u n xs) (hg : w.grownBy w' u.ownBlock) : OV w' v x L := by
  obtain ⟨g, c, cur, e, h1, h2⟩ := h
  refine ⟨g, c, cur, e, h1.grown hg ?_, h2⟩
  intro he
  rcases hu.2 with ⟨rfl, _⟩ | ⟨g2, cap, cu, rfl, _, hgg, _⟩
  · simp [Value.ownBlock] at he
  · simp [Value.ownBlock] at he
    subst he
    obtain ⟨cs, h3, _⟩ := h1
    rw [hgg] at h3
    simp at h3
theorem OV.le {w : World} {v : Value} {x L L' : Nat} (h : OV w v x L) (hl : L ≤ L') : OV w v x L' := by
  obtain ⟨g, c, cur, e, h1, h2, h3, h4, h5, h6⟩ := h
  exact ⟨g, c, cur, e, h1, h2, h3, h4, by omega, h6⟩
/-- an integer slice keeps its digits where only another block grows -/
theorem Dg.grown {k : IntKind} {w w' : World} {A : Option Addr} {n c : Nat} {xs : List Nat} {row : Option Nat} (h : Dg k w A n c xs) (hg : w.grownBy w' row) (hne : 0 < n → ∀ ad, A = some ad → some ad.block ≠ row) : Dg k w' A n c xs :=
  ⟨h.len, h.cap, h.top, h.ok, fun hn => by
    obtain ⟨ad, e, hc⟩ := h.cell hn
    refine ⟨ad, e, fun j x hx => ?_⟩
    have h0 := hc j x hx
    have hb := hg.block (ad.add j).block (World.block_lt_of_cell? _ _ h0) (by rw [show (ad.add j).block = ad.block by unfold Addr.add; split <;> rfl]; exact hne hn ad e)
    rw [← h0]
    simp only [World.cell?, hb]⟩
/-- a number in memory of the call's own, or in memory that is older than block b -/
def OW (b : Nat) (w : World) (v : Value) (x L : Nat) : Prop := OV w v x L ∨ ∃ A n c us, v = .slice A n c ∧ Dg .u64 w A n c us ∧ Nrm us ∧ Hid (vl (bs .u64) us = x) ∧ n ≤ L ∧ Hid (0 < n → ∀ ad, A = some ad → ad.block < b)
theorem OW.nv {b : Nat} {w : World} {v : Value} {x L : Nat} (h : OW b w v x L) : NV .u64 w v x L := by
  rcases h with h | ⟨A, n, c, us, rfl, h1, h2, h3, h4, _⟩
  · exact h.nv
  · exact NV.mk h1 h2 h3 h4
theorem OW.below {b : Nat} {w w' : World} {v : Value} {x L : Nat} (h : OW b w v x L) (hb : Below w.heap.size w w') : OW b w' v x L := by
  rcases h with h | ⟨A, n, c, us, rfl, h1, h2⟩
  · exact .inl (h.below hb)
  · exact .inr ⟨A, n, c, us, rfl, h1.below hb, h2⟩
theorem OW.kept {w w' : World} {v u : Value} {x L base n : Nat} {xs : List Value} (h : OW base w v x L) (hu : w.ownsRow base 65 1 u n xs) (hg : w.grownBy w' u.ownBlock) : OW base w' v x L := by
  rcases h with h | ⟨A, m, c, us, rfl, h1, h2, h3, h4, h5⟩
  · exact .inl (h.kept hu hg)
  · refine .inr ⟨A, m, c, us, rfl, h1.grown hg (fun hp ad he hc => ?_), h2, h3, h4, h5⟩
    have hlt := h5.out hp ad he
    have := (hu.lt ad.block (by rw [hc])).1
    omega
theorem OW.le {b : Nat} {w : World} {v : Value} {x L L' : Nat} (h : OW b w v x L) (hl : L ≤ L') : OW b w v x L' := by
  rcases h with h | ⟨A, n, c, us, rfl, h1, h2, h3, h4, h5⟩
  · exact .inl (h.le hl)
  · exact .inr ⟨A, n, c, us, rfl, h1, h2, h3, by omega, h5⟩
def OVs (b : Nat) (w : World) (L : Nat) (vals : List Value) (xs : List Nat) : Prop := vals.length = xs.length ∧ ∀ (j : Nat) (v : Value) (x : Nat), vals[j]? = some v → xs[j]? = some x → OW b w v x L
theorem OVs.nvs {b : Nat} {w : World} {L : Nat} {vals : List Value} {xs : List Nat} (h : OVs b w L vals xs) : NVs w L vals xs := ⟨h.1, fun j v x h1 h2 => (h.2 j v x h1 h2).nv⟩
theorem OVs.nil (b : Nat) (w : World) (L : Nat) : OVs b w L [] [] := ⟨rfl, fun j v x h => by simp at h⟩
theorem OVs.below {b : Nat} {w w' : World} {L : Nat} {vals : List Value} {xs : List Nat} (h : OVs b w L vals xs) (hb : Below w.heap.size w w') : OVs b w' L vals xs := ⟨h.1, fun j v x h1 h2 => (h.2 j v x h1 h2).below hb⟩
theorem OVs.kept {w w' : World} {L base n : Nat} {vals : List Value} {xs : List Nat} {u : Value} {us : List Value} (h : OVs base w L vals xs) (hu : w.ownsRow base 65 1 u n us) (hg : w.grownBy w' u.ownBlock) : OVs base w' L vals xs := ⟨h.1, fun j v x h1 h2 => (h.2 j v x h1 h2).kept hu hg⟩
theorem OVs.snoc {b : Nat} {w : World} {L : Nat} {vals : List Value} {xs : List Nat} {v : Value} {x : Nat} (h : OVs b w L vals xs) (hv : OW b w v x L) : OVs b w L (vals ++ [v]) (xs ++ [x]) :=
  ⟨by simp [h.1], fun j u y h1 h2 => by
    rcases Nat.lt_or_ge j vals.length with hj | hj
    · rw [List.getElem?_append_left hj] at h1
      rw [List.getElem?_append_left (by rw [← h.1]; exact hj)] at h2
      exact h.2 j u y h1 h2
    · rw [List.getElem?_append_right hj] at h1
      rw [List.getElem?_append_right (by rw [← h.1]; exact hj)] at h2
      have hj0 : j - vals.length = 0 := by
        rcases Nat.eq_zero_or_pos (j - vals.length) with h0 | h0
        · exact h0
        · rw [List.getElem?_eq_none (by simp; omega)] at h1; cases h1
      rw [hj0] at h1
      rw [show j - xs.length = 0 by rw [← h.1]; exact hj0] at h2
      simp at h1 h2
      subst h1 h2
      exact hv⟩
theorem own_below {w w' : World} {base n : Nat} {e : TypeId} {v : Value} {xs : List Value} (h : w.ownsRow base e 1 v n xs) (hb : Below w.heap.size w w') : w'.ownsRow base e 1 v n xs :=
  h.kept (row := none) ⟨hb.os, hb.tape, hb.output, hb.size, fun k hk _ => hb.block k hk⟩ (by cases v.ownBlock <;> simp)
theorem mul64_own (A A' : Option Addr) (n c n' c' : Nat) (xs ys : List Nat) (w : World) (h : Dg .u64 w A n c xs) (h' : Dg .u64 w A' n' c' ys) (hn : n ≤ 400000) (hn' : n' ≤ 400000) :
    Calls Tryz.prog 112 #[.slice A n c, .slice A' n' c'] w fun e w' => ∃ g c2 cur, e = .returned (.slice (some ⟨g, 0, none⟩) (tl cur) c2) ∧ OV w' (.slice (some ⟨g, 0, none⟩) (tl cur) c2) (vl (bs .u64) xs * vl (bs .u64) ys) (n + n') ∧ Below w.heap.size w w' := by
  refine (mul_ok 900000 (Nat.le_refl _) A A' n c n' c' xs ys w h h' (by omega)).mono ?_
  rintro e w' ⟨g, c1, cur, rfl, hM, hl, ho, hv, hc, hg, hb⟩
  exact ⟨g, c1, cur, rfl, ⟨g, c1, cur, rfl, hM, hl, ho, hv, tl_of_lt hv.out (by rw [Nat.pow_add]; exact Nat.mul_lt_mul'' h.nvl h'.nvl), by omega⟩, hb⟩
theorem foldl_snoc_add (l : List Nat) (x : Nat) : (l ++ [x]).foldl (fun a b => a + b) 0 = l.foldl (fun a b => a + b) 0 + x := by simp

set_option maxHeartbeats 12800000 in
set_option maxRecDepth 100000 in
theorem total_raw (A : Option Addr) (n c L : Nat) (ts : List Tr) (w : World) (h : Lr w A n c L ts) (hL : (n + 1) * (L + 2) ≤ 100000) :
    Calls Tryz.prog 92 #[.slice A n c] w (RetQQ w ((ts.map tq).foldl (· + ·) 0) ((n + 1) * (L + 2))) := by
  have hn : n ≤ 100000 := by
    have : (n + 1) * 1 ≤ (n + 1) * (L + 2) := Nat.mul_le_mul_left _ (by omega)
    omega
  have hLn : (n + 1) * (L + 2) = n * (L + 1) + n + L + 2 := by rw [Nat.add_mul, Nat.mul_add n L 2, Nat.mul_add n L 1]; omega
  have hmk := make_nats n (by omega)
  have hc1 := h.cap
  have hc2 := h.top
  have hlen := Lib.hid h.len
  have B1 := Blk.new w 67 #[.bool false, .slice none 0 0, .slice none 0 0]
  have hw0 := (Below.refl w.heap.size w).alloc (Nat.le_refl _) (.cells #[.bool false, .slice none 0 0, .slice none 0 0] 67)
  have h1 := h.below hw0
  have hgl := B1.lt
  go_enter Tryz.func92, Tryz.ntmps92
  go_wp2
  have ew1 : (w.alloc (.cells #[.bool false, .slice none 0 0, .slice none 0 0] 67)).heap.size = w.heap.size + 1 := by simp
  generalize w.alloc (.cells #[.bool false, .slice none 0 0, .slice none 0 0] 67) = w1 at *
  have hw1 := hw0.alloc hw0.size (.cells (Array.replicate n (Value.slice none 0 0)) 65)
  have G1 := Blk.new w1 65 (Array.replicate n (Value.slice none 0 0))
  rw [ew1] at G1
  have B2 := B1.alloc (.cells (Array.replicate n (Value.slice none 0 0)) 65)
  have hw11 := (Below.refl w1.heap.size w1).alloc (Nat.le_refl _) (.cells (Array.replicate n (Value.slice none 0 0)) 65)
  go_loopw [21] (fun iv wr => ∃ (k : Nat) (vals : List Value), iv = .int .i64 k ∧ k ≤ n ∧ Blk wr (w.heap.size + 1) 65 (vals ++ List.replicate (n - k) (Value.slice none 0 0)).toArray ∧ NVs wr L vals ((ts.map fun t => t.2.2).take k) ∧ Below w1.heap.size w1 wr) (fun iv _ => n - (intOf iv).toNat)
  case atStart => exact ⟨0, [], rfl, Nat.zero_le _, by simpa using G1, NVs.nil _ _, hw11⟩
  case round =>
    clear G1 hw11
    obtain ⟨k, vals, rfl, hkn, hG, hNV, hb⟩ := hrel
    by_cases hlt : k < n
    · obtain ⟨ad, t, A1, m1, c1', x1, A2, m2, c2', x2, rfl, ht, k0, k1, k2, d1, n1, e1, l1, d2, n2, e2, l2, p1⟩ := (h1.below hb).at_ hlt
      have hvl := Lib.hid (show vals.length = k by rw [hNV.1, List.length_take, List.length_map, hlen.out]; omega)
      have hGA := hG.alloc (.cells #[.bool t.1, .slice A1 m1 c1', .slice A2 m2 c2'] 67)
      have hcc := hGA.cell k
      rw [show (vals ++ List.replicate (n - k) (Value.slice none 0 0)).toArray[k]? = some (Value.slice none 0 0) by
        simp only [List.getElem?_toArray]
        rw [List.getElem?_append_right (by rw [hvl.out]; exact Nat.le_refl _), hvl.out, Nat.sub_self, List.getElem?_replicate, if_pos (by omega)]] at hcc
      have hcf := hGA.frozen k
      have hbA := hb.alloc hb.size (.cells #[.bool t.1, .slice A1 m1 c1', .slice A2 m2 c2'] 67)
      have hNA := hNV.below ((Below.refl wr.heap.size wr).alloc (Nat.le_refl _) (.cells #[.bool t.1, .slice A1 m1 c1', .slice A2 m2 c2'] 67))
      have dA := d2.alloc (.cells #[.bool t.1, .slice A1 m1 c1', .slice A2 m2 c2'] 67)
      have hset := Lib.hid (set_snoc vals (Value.slice A2 m2 c2') hvl.out hlt)
      have htk := Lib.hid (show (ts.map fun t => t.2.2).take (k + 1) = (ts.map fun t => t.2.2).take k ++ [t.2.2] by
        rw [List.take_add_one, List.getElem?_map, ht.out]; rfl)
      have hsl := Lib.hid (show ∀ (i : Nat) (v : Value), (vals ++ List.replicate (n - k) (Value.slice none 0 0)).toArray[i]? = some v → ∃ a b d, v = .slice a b d from fun i v hv => by
        simp only [List.getElem?_toArray] at hv
        have hm := List.mem_of_getElem? hv
        rcases List.mem_append.1 hm with hm | hm
        · obtain ⟨i2, hi2, rfl⟩ := List.getElem_of_mem hm
          obtain ⟨a, b, d, _, e, _⟩ := hNV.2 i2 _ _ (List.getElem?_eq_getElem hi2) (List.getElem?_eq_getElem (by rw [← hNV.1]; exact hi2))
          exact ⟨a, b, d, e⟩
        · exact ⟨_, _, _, (List.mem_replicate.1 hm).2⟩)
      go_wp2
      go_roundw
      case rel =>
        have hgs := hGA.set_ k (.slice A2 m2 c2')
        rw [hset.out] at hgs
        refine ⟨k + 1, vals ++ [.slice A2 m2 c2'], by go_num, hlt, hgs, ?_, hbA.setCell (by rw [ew1]; exact Nat.le_refl _) _⟩
        rw [htk.out]
        exact NVs.setb (NVs.snoc hNA ⟨_, _, _, _, rfl, dA, n2, e2, l2⟩) hGA hsl.out k _
      case measure => simp [intOf]; omega
    · obtain rfl : k = n := by omega
      rw [Nat.sub_self, List.replicate_zero, List.append_nil] at hG
      rw [List.take_of_length_le (by rw [List.length_map, hlen.out]; exact Nat.le_refl _)] at hNV
      have hvl : vals.length = k := by rw [hNV.1, List.length_map, hlen.out]
      have hNs := Ns.of_blk hG hNV (by omega)
      rw [hvl] at hNs
      have hone := Dg.lit_one64 wr 82
      have hbo := (Below.refl wr.heap.size wr).alloc (Nat.le_refl _) (.cells #[.int .u64 1] 82)
      have hNs2 := hNs.below hbo
      have hb2 := hb.trans (hbo.mono hb.size)
      have hden := Lib.hid h.den
      clear hG hNV hNs
      go_wp2_with fail
      refine (one64_any _).mono ?_
      rintro e w2 ⟨rfl, rfl⟩
      go_wp2_with fail
      refine (fold_lcm _ _ _ _ _ _ _ L _ _ hone nrm_lit1 1 (vl_lit1 _) hNs2 (by decide) (fun x hx => by
        obtain ⟨t, ht, rfl⟩ := List.mem_map.1 hx
        exact (hden.out t ht).1) (by omega) (by omega)).mono ?_
      rintro e w3 ⟨A3, m3, c3, us3, rfl, hD3, hN3, hv3, hm3, hb3⟩
      obtain ⟨dl, hdl⟩ : ∃ dl, (ts.map fun t => t.2.2).foldl (fun a b => a.lcm b) 1 = dl := ⟨_, rfl⟩
      have hdl0 : 0 < dl := by rw [← hdl]; exact lcm_fold_pos (by decide) (fun x hx => by
        obtain ⟨t, ht, rfl⟩ := List.mem_map.1 hx
        exact (hden.out t ht).1)
      have hdvd := Lib.hid (fun (t : Tr) (ht : t ∈ ts) => show t.2.2 ∣ dl from by rw [← hdl]; exact lcm_fold_dvd (List.mem_map.2 ⟨t, ht, rfl⟩))
      rw [hdl] at hv3
      have hb3' := hb2.trans (hb3.mono hb2.size)
      clear hdl hone hbo hNs2 hb2 hb3 hb
      have hst := info_parts (show (Tryz.prog.info? 65).map (fun i => (i.zero, i.size, i.bytes)) = some (some (.slice none 0 0), 1, 24) by kernel_rfl)
      obtain ⟨i0, hi, hz0, hz1, hz2⟩ := hst
      obtain ⟨E, hE⟩ : ∃ E, E = L + (m3 + 1) := ⟨_, rfl⟩
      have hEb : E + k ≤ (k + 1) * (L + 2) := by omega
      go_wp2
      go_loopw [7, 8, 37] (fun gv lv iv wr => ∃ (j : Nat) (gs ls : List Nat) (gvals lvals : List Value), iv = .int .i64 j ∧ j ≤ k ∧ wr.ownsRow w3.heap.size 65 1 gv gs.length gvals ∧ OVs w3.heap.size wr E gvals gs ∧ wr.ownsRow w3.heap.size 65 1 lv ls.length lvals ∧ OVs w3.heap.size wr E lvals ls ∧ gs.length + ls.length ≤ j ∧
        Hid (((ts.take j).map tq).foldl (· + ·) 0 = mkRat (((gs.foldl (fun a b => a + b) 0 : Nat) : Int) - ((ls.foldl (fun a b => a + b) 0 : Nat) : Int)) dl) ∧ Hid (Apart gv lv) ∧ Below w3.heap.size w3 wr) (fun _ _ iv _ => k - (intOf iv).toNat)
      case atStart => exact ⟨0, [], [], [], [], rfl, Nat.zero_le _, World.ownsRow_nil _ _ _ _, OVs.nil _ _ _, World.ownsRow_nil _ _ _ _, OVs.nil _ _ _, by simp, by show (0 : Rat) = _; simp [Rat.zero_mkRat], .inl rfl, Below.refl _ _⟩
      case round =>
        obtain ⟨j, gs, ls, gvals, lvals, rfl, hjk, hog, hng, hol, hnl, hgl2, hval, hdis, hb⟩ := hrel
        have hbw1 := hb3'.trans (hb.mono hb3'.size)
        by_cases hlt : j < k
        · obtain ⟨ad, t, A1, m1, c1', x1, A2, m2, c2', x2, rfl, ht, k0, k1, k2, d1, n1, e1, l1, d2, n2, e2, l2, p1⟩ := (h1.below hbw1).at_ hlt
          have d1o := Lib.hid (show 0 < m1 → ∀ ad, A1 = some ad → ad.block < w1.heap.size from fun hp ad9 he9 => by
            obtain ⟨ad', t', A1', m1', c1'', x1', A2', m2', c2'', x2', e', _, _, k1', _, d1', _⟩ := h1.at_ hlt
            injection e' with e'
            subst e'
            have k1'' := (hbw1.cell (World.block_lt_of_cell? _ _ k1')).trans k1'
            rw [k1] at k1''
            injection k1'' with k1''
            injection k1'' with a b c
            subst a b c
            exact d1'.blt hp ad9 he9)
          have hsz13 := Lib.hid (show w1.heap.size ≤ w3.heap.size from hb3'.size)
          obtain ⟨s, N, D⟩ := t
          have e1 : Hid (vl (bs .u64) x1 = N) := e1
          have e2 : Hid (vl (bs .u64) x2 = D) := e2
          have p1 : Hid (0 < D) := p1
          have k0 : wr.cell? (ad.add (j * 3)) = some (.bool s) := k0
          have hdv := Lib.hid (hdvd.out (s, N, D) (List.mem_of_getElem? ht.out))
          have hdv : Hid (D ∣ dl) := hdv
          have hT := Lib.hid (show (ts.take (j + 1)).map tq = (ts.take j).map tq ++ [tq (s, N, D)] by
            rw [List.take_add_one, ht.out, List.map_append]; rfl)
          have hbR := (Below.refl wr.heap.size wr).alloc (Nat.le_refl _) (.cells #[.bool s, .slice A1 m1 c1', .slice A2 m2 c2'] 67)
          have R := Blk.new wr 67 #[.bool s, .slice A1 m1 c1', .slice A2 m2 c2']
          have hDd := (hD3.below hb).below hbR
          have d1R := d1.below hbR
          have d2R := d2.below hbR
          have hm3b : m3 ≤ 200000 := by omega
          go_wp2_with fail
          have hold := Lib.hid (fun (hp : 0 < m1) (ad : Addr) (he : A1 = some ad) => Nat.lt_of_lt_of_le (d1o.out hp ad he) hsz13.out)
          refine (cmp64_any _ _ _ _ _ _ _ _ _ d2R hDd n2 hN3 D dl e2 hv3).mono ?_
          rintro e wc ⟨nd, rfl, rfl⟩
          have hbR4 := bel_drewN hbR nd
          have R4 := R.drewN nd
          have d14 := d1R.drewN nd
          have d24 := d2R.drewN nd
          have hDd4 := hDd.drewN nd
          generalize (wr.alloc (.cells #[.bool s, .slice A1 m1 c1', .slice A2 m2 c2'] 67)).drewN nd = w4 at *
          have hog5 := own_below hog hbR4
          have hol5 := own_below hol hbR4
          have hng5 := hng.below hbR4
          have hnl5 := hnl.below hbR4
          have hb5' := hb.trans (hbR4.mono hb.size)
          have r0 := R4.cell 0
          have r2 := R4.cell 2
          clear hog hol hng hnl hDd d1R d2R R hbR hbR4 d1 d2 k0 k1 k2 ht
          by_cases hDe : D = dl
          · have hne : (ord D dl != 0) = false := by rw [ord_eq hDe]; rfl
            have hE1 := Lib.hid (show vl (bs .u64) x1 = N * (dl / D) by rw [e1.out, hDe, Nat.div_self hdl0, Nat.mul_one])
            have hO6 : OW w3.heap.size w4 (.slice A1 m1 c1') (N * (dl / D)) E := .inr ⟨_, _, _, _, rfl, d14, n1, hE1, by omega, hold⟩
            clear hDe
            cases s with
            | false =>
              have HV := Lib.hid (show ((ts.take (j + 1)).map tq).foldl (· + ·) 0 = mkRat (((gs ++ [N * (dl / D)]).foldl (fun a b => a + b) 0 : Nat) - ((ls.foldl (fun a b => a + b) 0 : Nat) : Int)) dl by rw [hT.out, List.foldl_append, hval.out]; show _ + tq (false, N, D) = _; unfold tq; rw [mkRat_scale p1.out hdl0 hdv.out, mkRat_add_same _ _ hdl0, foldl_snoc_add]; congr 1; simp only [Bool.false_eq_true, if_false, Int.natCast_add]; omega)
              have hbA := (Below.refl w4.heap.size w4).alloc (Nat.le_refl _) (.cells #[.slice A1 m1 c1'] 65)
              have hb6A := hb5'.alloc hb5'.size (.cells #[.slice A1 m1 c1'] 65)
              have hog6 := own_below hog5 hbA
              have hol6 := own_below hol5 hbA
              have hng6 := hng5.below hbA
              have hnl6 := hnl5.below hbA
              have hNV6 := hO6.below hbA
              have hsz6 : w3.heap.size ≤ w4.heap.size := hb5'.size
              clear hog5 hol5 hng5 hnl5
              go_wp2_with (at_builtin; refine wpList_append_two rfl _ _ 116 rfl w3.heap.size 65 i0 (.slice none 0 0) 24 Tryz.underlying116 hi hz0 hz1 hz2 rfl _ _ _ rfl hog6 ⟨w4.heap.size, 0, none⟩ 1 [_] rfl rfl (cell_one_new _ _ _) ?c2 ?c3 ?c4 ?c5 ?_)
              case c2 => intro u hu; simp at hu; subst hu; rfl
              case c3 => unfold maxLen; omega
              case c4 => omega
              case c5 => simp; omega
              intro v' w7 hown7 hgr7 hblk7
              have hap := Lib.hid (Apart.next (v' := v') (hdis.out) hol6 (by simpa using hblk7))
              have hoth7 := Apart.kept (hdis.out) hol6 hgr7
              have hb7 := hb6A.grown hgr7 hb6A.size (fun k hk => (hog6.lt k hk).1)
              have hng7 := hng6.kept hog6 hgr7
              have hnl7 := hnl6.kept hog6 hgr7
              have hNV7 := hNV6.kept hog6 hgr7
              clear hog6 hol6 hng6 hnl6 hNV6 hgr7 hblk7
              go_wp2
              go_roundw
              case rel => exact ⟨j + 1, gs ++ [N * (dl / D)], ls, gvals ++ [.slice A1 m1 c1'], lvals, by go_num, hlt, by rw [List.length_append]; exact hown7, OVs.snoc hng7 hNV7, hoth7, hnl7, by rw [List.length_append]; simp only [List.length_cons, List.length_nil]; omega, HV.out, hap, hb7⟩
              case measure => simp [intOf]; omega
            | true =>
              have HV := Lib.hid (show ((ts.take (j + 1)).map tq).foldl (· + ·) 0 = mkRat (((gs.foldl (fun a b => a + b) 0 : Nat) : Int) - ((ls ++ [N * (dl / D)]).foldl (fun a b => a + b) 0 : Nat)) dl by rw [hT.out, List.foldl_append, hval.out]; show _ + tq (true, N, D) = _; unfold tq; rw [mkRat_scale p1.out hdl0 hdv.out, mkRat_add_same _ _ hdl0, foldl_snoc_add]; congr 1; simp only [if_true, Int.natCast_add]; omega)
              have hbA := (Below.refl w4.heap.size w4).alloc (Nat.le_refl _) (.cells #[.slice A1 m1 c1'] 65)
              have hb6A := hb5'.alloc hb5'.size (.cells #[.slice A1 m1 c1'] 65)
              have hog6 := own_below hog5 hbA
              have hol6 := own_below hol5 hbA
              have hng6 := hng5.below hbA
              have hnl6 := hnl5.below hbA
              have hNV6 := hO6.below hbA
              have hsz6 : w3.heap.size ≤ w4.heap.size := hb5'.size
              clear hog5 hol5 hng5 hnl5
              go_wp2_with (at_builtin; refine wpList_append_two rfl _ _ 116 rfl w3.heap.size 65 i0 (.slice none 0 0) 24 Tryz.underlying116 hi hz0 hz1 hz2 rfl _ _ _ rfl hol6 ⟨w4.heap.size, 0, none⟩ 1 [_] rfl rfl (cell_one_new _ _ _) ?c2 ?c3 ?c4 ?c5 ?_)
              case c2 => intro u hu; simp at hu; subst hu; rfl
              case c3 => unfold maxLen; omega
              case c4 => omega
              case c5 => simp; omega
              intro v' w7 hown7 hgr7 hblk7
              have hap := Lib.hid (Apart.next (v' := v') (hdis.out.symm) hog6 (by simpa using hblk7))
              have hoth7 := Apart.kept (hdis.out.symm) hog6 hgr7
              have hb7 := hb6A.grown hgr7 hb6A.size (fun k hk => (hol6.lt k hk).1)
              have hng7 := hng6.kept hol6 hgr7
              have hnl7 := hnl6.kept hol6 hgr7
              have hNV7 := hNV6.kept hol6 hgr7
              clear hog6 hol6 hng6 hnl6 hNV6 hgr7 hblk7
              go_wp2
              go_roundw
              case rel => exact ⟨j + 1, gs, ls ++ [N * (dl / D)], gvals, lvals ++ [.slice A1 m1 c1'], by go_num, hlt, hoth7, hng7, by rw [List.length_append]; exact hown7, OVs.snoc hnl7 hNV7, by rw [List.length_append]; simp only [List.length_cons, List.length_nil]; omega, HV.out, hap.symm, hb7⟩
              case measure => simp [intOf]; omega
          · have hne : (ord D dl != 0) = true := by rcases Nat.lt_or_ge D dl with h9 | h9 <;> (first | (rw [ord_lt h9]; rfl) | (rw [ord_gt (by omega)]; rfl))
            clear hDe
            go_wp2_with fail
            refine (divide64_any _ _ _ _ _ _ _ _ _ hDd4 d24 hN3 n2 dl D hv3 e2 (by omega) p1.out).mono ?_
            rintro e w5 ⟨_, _, rfl, ⟨A4, m4, c4, us4, rfl, hD4, hN4, hv4, hm4⟩, ⟨A5, m5, c5, us5, rfl, _, _, _, _⟩, hb5, _⟩
            go_wp2_with fail
            refine (mul64_own _ _ _ _ _ _ _ _ w5 (d14.below hb5) hD4 (by omega) (by omega)).mono ?_
            rintro e w6 ⟨g6, c6, cur6, rfl, hO6, hb6⟩
            rw [e1.out, hv4.out] at hO6
            have hO6 : OW w3.heap.size w6 (.slice (some ⟨g6, 0, none⟩) (tl cur6) c6) (N * (dl / D)) E := .inl (hO6.le (show m1 + m4 ≤ E by omega))
            have R6 := (R4.below hb5).below hb6
            have r0 := R6.cell 0
            have hog5 := own_below (own_below hog5 hb5) hb6
            have hol5 := own_below (own_below hol5 hb5) hb6
            have hng5 := (hng5.below hb5).below hb6
            have hnl5 := (hnl5.below hb5).below hb6
            have hb5' := (hb5'.trans (hb5.mono hb5'.size)).trans (hb6.mono (Nat.le_trans hb5'.size hb5.size))
            clear hb5 hb6
            cases s with
            | false =>
              have HV := Lib.hid (show ((ts.take (j + 1)).map tq).foldl (· + ·) 0 = mkRat (((gs ++ [N * (dl / D)]).foldl (fun a b => a + b) 0 : Nat) - ((ls.foldl (fun a b => a + b) 0 : Nat) : Int)) dl by rw [hT.out, List.foldl_append, hval.out]; show _ + tq (false, N, D) = _; unfold tq; rw [mkRat_scale p1.out hdl0 hdv.out, mkRat_add_same _ _ hdl0, foldl_snoc_add]; congr 1; simp only [Bool.false_eq_true, if_false, Int.natCast_add]; omega)
              have hbA := (Below.refl w6.heap.size w6).alloc (Nat.le_refl _) (.cells #[.slice (some ⟨g6, 0, none⟩) (tl cur6) c6] 65)
              have hb6A := hb5'.alloc hb5'.size (.cells #[.slice (some ⟨g6, 0, none⟩) (tl cur6) c6] 65)
              have hog6 := own_below hog5 hbA
              have hol6 := own_below hol5 hbA
              have hng6 := hng5.below hbA
              have hnl6 := hnl5.below hbA
              have hNV6 := hO6.below hbA
              have hsz6 : w3.heap.size ≤ w6.heap.size := hb5'.size
              clear hog5 hol5 hng5 hnl5
              go_wp2_with (at_builtin; refine wpList_append_two rfl _ _ 116 rfl w3.heap.size 65 i0 (.slice none 0 0) 24 Tryz.underlying116 hi hz0 hz1 hz2 rfl _ _ _ rfl hog6 ⟨w6.heap.size, 0, none⟩ 1 [_] rfl rfl (cell_one_new _ _ _) ?c2 ?c3 ?c4 ?c5 ?_)
              case c2 => intro u hu; simp at hu; subst hu; rfl
              case c3 => unfold maxLen; omega
              case c4 => omega
              case c5 => simp; omega
              intro v' w7 hown7 hgr7 hblk7
              have hap := Lib.hid (Apart.next (v' := v') (hdis.out) hol6 (by simpa using hblk7))
              have hoth7 := Apart.kept (hdis.out) hol6 hgr7
              have hb7 := hb6A.grown hgr7 hb6A.size (fun k hk => (hog6.lt k hk).1)
              have hng7 := hng6.kept hog6 hgr7
              have hnl7 := hnl6.kept hog6 hgr7
              have hNV7 := hNV6.kept hog6 hgr7
              clear hog6 hol6 hng6 hnl6 hNV6 hgr7 hblk7
              go_wp2
              go_roundw
              case rel => exact ⟨j + 1, gs ++ [N * (dl / D)], ls, gvals ++ [.slice (some ⟨g6, 0, none⟩) (tl cur6) c6], lvals, by go_num, hlt, by rw [List.length_append]; exact hown7, OVs.snoc hng7 hNV7, hoth7, hnl7, by rw [List.length_append]; simp only [List.length_cons, List.length_nil]; omega, HV.out, hap, hb7⟩
              case measure => simp [intOf]; omega
            | true =>
              have HV := Lib.hid (show ((ts.take (j + 1)).map tq).foldl (· + ·) 0 = mkRat (((gs.foldl (fun a b => a + b) 0 : Nat) : Int) - ((ls ++ [N * (dl / D)]).foldl (fun a b => a + b) 0 : Nat)) dl by rw [hT.out, List.foldl_append, hval.out]; show _ + tq (true, N, D) = _; unfold tq; rw [mkRat_scale p1.out hdl0 hdv.out, mkRat_add_same _ _ hdl0, foldl_snoc_add]; congr 1; simp only [if_true, Int.natCast_add]; omega)
              have hbA := (Below.refl w6.heap.size w6).alloc (Nat.le_refl _) (.cells #[.slice (some ⟨g6, 0, none⟩) (tl cur6) c6] 65)
              have hb6A := hb5'.alloc hb5'.size (.cells #[.slice (some ⟨g6, 0, none⟩) (tl cur6) c6] 65)
              have hog6 := own_below hog5 hbA
              have hol6 := own_below hol5 hbA
              have hng6 := hng5.below hbA
              have hnl6 := hnl5.below hbA
              have hNV6 := hO6.below hbA
              have hsz6 : w3.heap.size ≤ w6.heap.size := hb5'.size
              clear hog5 hol5 hng5 hnl5
              go_wp2_with (at_builtin; refine wpList_append_two rfl _ _ 116 rfl w3.heap.size 65 i0 (.slice none 0 0) 24 Tryz.underlying116 hi hz0 hz1 hz2 rfl _ _ _ rfl hol6 ⟨w6.heap.size, 0, none⟩ 1 [_] rfl rfl (cell_one_new _ _ _) ?c2 ?c3 ?c4 ?c5 ?_)
              case c2 => intro u hu; simp at hu; subst hu; rfl
              case c3 => unfold maxLen; omega
              case c4 => omega
              case c5 => simp; omega
              intro v' w7 hown7 hgr7 hblk7
              have hap := Lib.hid (Apart.next (v' := v') (hdis.out.symm) hog6 (by simpa using hblk7))
              have hoth7 := Apart.kept (hdis.out.symm) hog6 hgr7
              have hb7 := hb6A.grown hgr7 hb6A.size (fun k hk => (hol6.lt k hk).1)
              have hng7 := hng6.kept hol6 hgr7
              have hnl7 := hnl6.kept hol6 hgr7
              have hNV7 := hNV6.kept hol6 hgr7
              clear hog6 hol6 hng6 hnl6 hNV6 hgr7 hblk7
              go_wp2
              go_roundw
              case rel => exact ⟨j + 1, gs, ls ++ [N * (dl / D)], gvals, lvals ++ [.slice (some ⟨g6, 0, none⟩) (tl cur6) c6], by go_num, hlt, hoth7, hng7, by rw [List.length_append]; exact hown7, OVs.snoc hnl7 hNV7, by rw [List.length_append]; simp only [List.length_cons, List.length_nil]; omega, HV.out, hap.symm, hb7⟩
              case measure => simp [intOf]; omega
        · obtain rfl : j = k := by omega
          obtain ⟨A7, c7, rfl, hNg⟩ := Ns.of_own hog hng.nvs
          obtain ⟨A8, c8, rfl, hNl⟩ := Ns.of_own hol hnl.nvs
          have hval' := hval.out
          rw [List.take_of_length_le (by rw [hlen.out]; exact Nat.le_refl _)] at hval'
          have hval := Lib.hid hval'
          clear hval'
          have hD3' := hD3.below hb
          have hB1 := B1.below hbw1
          have hbb := hw0.trans (hbw1.mono hw0.size)
          clear hog hol hng hnl hb hbw1
          generalize hGn : gs.foldl (fun a b => a + b) 0 = Gn at *
          generalize hLs : ls.foldl (fun a b => a + b) 0 = Lsum at *
          go_wp2_with fail
          refine (fold_add _ _ _ _ _ _ _ E _ _ (Dg.nil .u64 _) Nrm.nil 0 rfl hNg (Nat.zero_le _) (by omega)).mono ?_
          rintro e w5 ⟨A5, m5, c5, us5, rfl, hD5, hN5, hv5, hm5, hb5⟩
          rw [hGn] at hv5
          go_wp2_with fail
          refine (fold_add _ _ _ _ _ _ _ E _ _ (Dg.nil .u64 _) Nrm.nil 0 rfl (hNl.below hb5) (Nat.zero_le _) (by omega)).mono ?_
          rintro e w6 ⟨A6, m6, c6, us6, rfl, hD6, hN6, hv6, hm6, hb6⟩
          rw [hLs] at hv6
          have hb6' := (hbb.trans (hb5.mono hbb.size)).trans (hb6.mono (Nat.le_trans hbb.size hb5.size))
          have hB6 := (hB1.below hb5).below hb6
          have hD36 := (hD3'.below hb5).below hb6
          have hD56 := hD5.below hb6
          clear hD5 hD3' hB1 hNg hNl hbb hb5 hb6 hGn hLs
          go_wp2_with fail
          refine (cmp64_any _ _ _ _ _ _ _ _ _ hD56 hD6 hN5 hN6 Gn Lsum hv5 hv6).mono ?_
          rintro e w7 ⟨nd, rfl, rfl⟩
          have hb7 := bel_drewN hb6' nd
          have hB7 := hB6.drewN nd
          by_cases hlo : Gn < Lsum
          · have ho := ord_neg hlo
            have hHlo := Lib.hid hlo
            clear hlo
            go_wp2_with fail
            refine (sub_any _ _ _ _ _ _ _ _ _ (hD6.drewN nd) (hD56.drewN nd) (by omega) (by have := len_le_of one_lt_bs64 hD6.ok hN5 (by rw [hv5.out, hv6.out]; exact Nat.le_of_lt hHlo.out); rw [hD56.len, hD6.len] at this; exact this) (by rw [hv5.out, hv6.out]; exact Nat.le_of_lt hHlo.out)).mono ?_
            rintro e w8 ⟨A8, m8, c8, us8, rfl, hD8, hN8, hv8, hm8, hb8, _⟩
            have C2 := hB7.below hb8
            have hb8' := hb7.trans (hb8.mono hb7.size)
            have r0 := C2.cell 0
            have r1 := C2.cell 1
            have r2 := C2.cell 2
            have f0 := C2.frozen 0
            have f1 := C2.frozen 1
            have f2 := C2.frozen 2
            have hv8' := hv8.out
            rw [hv6.out, hv5.out] at hv8'
            have nvA := nv_set3 (NV.mk hD8 hN8 hv8' (show m8 ≤ (j + 1) * (L + 2) by omega)) C2
            have nvB := nv_set3 (NV.mk ((hD36.drewN nd).below hb8) hN3 hv3 (show m3 ≤ (j + 1) * (L + 2) by omega)) C2
            go_wp2
            exact ret_rat rfl rfl (((C2.set_ 0 _).set_ 1 _).set_ 2 _) rfl ⟨_, rfl, ⟨true, Lsum - Gn, dl, ⟨_, _, rfl, nvA _ _ _, nvB _ _ _⟩, hdl0, fun _ => by have := hHlo.out; omega, show _ = _ by rw [hval.out]; unfold fq; congr 1; simp only [if_true]; have := hHlo.out; omega⟩, bel_set3 hb8' (Nat.le_refl _) _ _ _⟩
          · have ho := ord_nn (Nat.le_of_not_lt hlo)
            have hHlo := Lib.hid (Nat.le_of_not_lt hlo)
            clear hlo
            go_wp2_with fail
            refine (sub_any _ _ _ _ _ _ _ _ _ (hD56.drewN nd) (hD6.drewN nd) (by omega) (by have := len_le_of one_lt_bs64 hD56.ok hN6 (by rw [hv5.out, hv6.out]; exact hHlo.out); rw [hD56.len, hD6.len] at this; exact this) (by rw [hv5.out, hv6.out]; exact hHlo.out)).mono ?_
            rintro e w8 ⟨A8, m8, c8, us8, rfl, hD8, hN8, hv8, hm8, hb8, _⟩
            have C2 := hB7.below hb8
            have hb8' := hb7.trans (hb8.mono hb7.size)
            have r0 := C2.cell 0
            have r1 := C2.cell 1
            have r2 := C2.cell 2
            have f0 := C2.frozen 0
            have f1 := C2.frozen 1
            have f2 := C2.frozen 2
            have hv8' := hv8.out
            rw [hv6.out, hv5.out] at hv8'
            have nvA := nv_set3 (NV.mk hD8 hN8 hv8' (show m8 ≤ (j + 1) * (L + 2) by omega)) C2
            have nvB := nv_set3 (NV.mk ((hD36.drewN nd).below hb8) hN3 hv3 (show m3 ≤ (j + 1) * (L + 2) by omega)) C2
            go_wp2
            exact ret_rat rfl rfl (((C2.set_ 0 _).set_ 1 _).set_ 2 _) rfl ⟨_, rfl, ⟨false, Gn - Lsum, dl, ⟨_, _, rfl, nvA _ _ _, nvB _ _ _⟩, hdl0, fun h9 => absurd h9 (by simp), show _ = _ by rw [hval.out]; unfold fq; congr 1; simp only [Bool.false_eq_true, if_false]; have := hHlo.out; omega⟩, bel_set3 hb8' (Nat.le_refl _) _ _ _⟩
end Go.Proofs.YtbgihlfblmilmaaGreatDoor.Fr
