/- Lists of numbers, loaded. -/
import Derived.Test.YtbgihlfblmilmaaGreatDoorGS
namespace Go.Proofs.YtbgihlfblmilmaaGreatDoor.Fr
open Go.RowKit Num

/-- cells that are no integers -/
def Noi (cs : Array Value) : Prop := ∀ (i : Nat) (v : Value), cs[i]? = some v → ∀ (k : IntKind) (x : Int), v ≠ .int k x
theorem Noi.set {cs : Array Value} (h : Noi cs) (i : Nat) {u : Value} (hu : ∀ (k : IntKind) (x : Int), u ≠ .int k x) : Noi (cs.setIfInBounds i u) := by
  intro j v hv
  rw [Array.getElem?_setIfInBounds] at hv
  split at hv
  · split at hv
    · injection hv with hv; rw [← hv]; exact hu
    · cases hv
  · exact h j v hv
theorem nv_setb {k : IntKind} {w : World} {v : Value} {x L : Nat} (h : NV k w v x L) {g : Nat} {t : TypeId} {cs : Array Value} (hB : Blk w g t cs) (hc : Noi cs) (i : Nat) (u : Value) : NV k (w.setCell ⟨g, i, none⟩ u) v x L := by
  obtain ⟨A, m, c, us, e, hD, h3, h4, h5⟩ := h
  refine ⟨A, m, c, us, e, hD.farp (fun hp ad he hg => ?_) i u, h3, h4, h5⟩
  obtain ⟨ad', y, e2, hcy, _⟩ := hD.at_ hp
  rw [he] at e2
  injection e2 with e2
  subst e2
  rw [show ad.add 0 = ad from rfl] at hcy
  unfold Blk at hB
  rw [← hg] at hB
  simp only [World.cell?, hB] at hcy
  split at hcy
  · cases hcy
  · exact hc _ _ hcy _ _ rfl
theorem RQ.setb {w : World} {v : Value} {q : Rat} {L g : Nat} {t : TypeId} {cs : Array Value} (h : RQ w v q L) (hB : Blk w g t cs) (hc : Noi cs) (i : Nat) (u : Value) : RQ (w.setCell ⟨g, i, none⟩ u) v q L := by
  obtain ⟨s, N, D, ⟨v1, v2, e, h1, h2⟩, h3⟩ := h
  exact ⟨s, N, D, ⟨v1, v2, e, nv_setb h1 hB hc _ _, nv_setb h2 hB hc _ _⟩, h3⟩
theorem FQ.setb {w : World} {v : Value} {q : Rat} {L g : Nat} {t : TypeId} {cs : Array Value} (h : FQ w v q L) (hB : Blk w g t cs) (hc : Noi cs) (i : Nat) (u : Value) : FQ (w.setCell ⟨g, i, none⟩ u) v q L := by
  obtain ⟨v1, v2, e, h1, h2⟩ := h
  exact ⟨v1, v2, e, nv_setb h1 hB hc _ _, nv_setb h2 hB hc _ _⟩

/-- what is kept while structs are stored in a block without integers -/
def Kept (P : World → Value → Rat → Nat → Prop) : Prop := ∀ (w : World) (v : Value) (q : Rat) (L g : Nat) (t : TypeId) (cs : Array Value) (i : Nat) (u : Value), P w v q L → Blk w g t cs → Noi cs → P (w.setCell ⟨g, i, none⟩ u) v q L
theorem kept_rq : Kept RQ := fun _ _ _ _ _ _ _ i u h hB hc => h.setb hB hc i u
theorem kept_fq : Kept FQ := fun _ _ _ _ _ _ _ i u h hB hc => h.setb hB hc i u
def Bels (P : World → Value → Rat → Nat → Prop) : Prop := ∀ (w w' : World) (v : Value) (q : Rat) (L : Nat), P w v q L → Below w.heap.size w w' → P w' v q L
theorem bels_rq : Bels RQ := fun _ _ _ _ _ h hb => h.below hb
theorem bels_fq : Bels FQ := fun _ _ _ _ _ h hb => h.below hb
theorem bels_af : Bels AF := fun _ _ _ _ _ h hb => h.below hb

/-- a block of n structs; the first k of them are numbers -/
structure Rows (P : World → Value → Rat → Nat → Prop) (w : World) (g : Nat) (t : TypeId) (n k L : Nat) (qs : List Rat) : Prop where
  ex : ∃ cs, Blk w g t cs ∧ cs.size = n * 3 ∧ Noi cs ∧ ∀ (j : Nat) (q : Rat), j < k → qs[j]? = some q → ∃ a b d, cs[j * 3]? = some a ∧ cs[j * 3 + 1]? = some b ∧ cs[j * 3 + 2]? = some d ∧ P w (.agg #[a, b, d]) q L
theorem Rows.below {P : World → Value → Rat → Nat → Prop} (hP : Bels P) {w w' : World} {g n k L : Nat} {t : TypeId} {qs : List Rat} (h : Rows P w g t n k L qs) (hb : Below w.heap.size w w') : Rows P w' g t n k L qs := by
  obtain ⟨cs, h1, h2, h3, h4⟩ := h.ex
  refine ⟨cs, h1.below hb, h2, h3, fun j q hj hq => ?_⟩
  obtain ⟨a, b, d, ha, hb', hd, hp⟩ := h4 j q hj hq
  exact ⟨a, b, d, ha, hb', hd, hP _ _ _ _ _ hp hb⟩
theorem Rows.made {P : World → Value → Rat → Nat → Prop} (w : World) (t : TypeId) (n L : Nat) (qs : List Rat) : Rows P (w.alloc (.cells (madeCells #[.bool false, .slice none 0 0, .slice none 0 0] (n * 3)) t)) w.heap.size t n 0 L qs := by
  refine ⟨_, Blk.new w t _, size_madeCells _ _, ?_, fun j q hj => absurd hj (by omega)⟩
  intro i v hv
  have hz : ∀ m : Nat, (#[Value.bool false, .slice none 0 0, .slice none 0 0] : Array Value)[m % 3]! = v → ∀ (k : IntKind) (x : Int), v ≠ .int k x := by
    intro m hm k x he
    rcases (by omega : m % 3 = 0 ∨ m % 3 = 1 ∨ m % 3 = 2) with h | h | h <;> rw [h] at hm <;> rw [he] at hm <;> cases hm
  simp only [madeCells, Array.getElem?_map] at hv
  cases hr : (Array.range (n * 3))[i]? with
  | none => rw [hr] at hv; cases hv
  | some m => rw [hr] at hv; injection hv with hv; exact hz m hv
/-- the next one is stored -/
theorem Rows.put {P : World → Value → Rat → Nat → Prop} (hK : Kept P) {w : World} {g n k L : Nat} {t : TypeId} {qs : List Rat} (h : Rows P w g t n k L qs) (hk : k < n) {s : Bool} {A1 A2 : Option Addr} {m1 c1 m2 c2 : Nat} {q : Rat} (hq : P w (.agg #[.bool s, .slice A1 m1 c1, .slice A2 m2 c2]) q L) (hqk : qs[k]? = some q) :
    Rows P (((w.setCell ⟨g, k * 3, none⟩ (.bool s)).setCell ⟨g, k * 3 + 1, none⟩ (.slice A1 m1 c1)).setCell ⟨g, k * 3 + 2, none⟩ (.slice A2 m2 c2)) g t n (k + 1) L qs := by
  obtain ⟨cs, h1, h2, h3, h4⟩ := h.ex
  have b1 := h1.set_ (k * 3) (.bool s)
  have n1 := h3.set (k * 3) (u := .bool s) (by intro _ _ e; cases e)
  have b2 := b1.set_ (k * 3 + 1) (.slice A1 m1 c1)
  have n2 := n1.set (k * 3 + 1) (u := .slice A1 m1 c1) (by intro _ _ e; cases e)
  have hK3 : ∀ v q', P w v q' L → P (((w.setCell ⟨g, k * 3, none⟩ (.bool s)).setCell ⟨g, k * 3 + 1, none⟩ (.slice A1 m1 c1)).setCell ⟨g, k * 3 + 2, none⟩ (.slice A2 m2 c2)) v q' L := fun v q' hv =>
    hK _ _ _ _ _ _ _ _ _ (hK _ _ _ _ _ _ _ _ _ (hK _ _ _ _ _ _ _ _ _ hv h1 h3) b1 n1) b2 n2
  refine ⟨_, b2.set_ (k * 3 + 2) (.slice A2 m2 c2), by simp [h2], n2.set (k * 3 + 2) (by intro _ _ e; cases e), fun j q' hj hq' => ?_⟩
  rcases Nat.lt_or_ge j k with hjk | hjk
  · obtain ⟨a, b, d, ha, hb, hd, hp⟩ := h4 j q' hjk hq'
    refine ⟨a, b, d, ?_, ?_, ?_, hK3 _ _ hp⟩
    · rw [Array.getElem?_setIfInBounds_ne (by omega), Array.getElem?_setIfInBounds_ne (by omega), Array.getElem?_setIfInBounds_ne (by omega)]; exact ha
    · rw [Array.getElem?_setIfInBounds_ne (by omega), Array.getElem?_setIfInBounds_ne (by omega), Array.getElem?_setIfInBounds_ne (by omega)]; exact hb
    · rw [Array.getElem?_setIfInBounds_ne (by omega), Array.getElem?_setIfInBounds_ne (by omega), Array.getElem?_setIfInBounds_ne (by omega)]; exact hd
  · obtain rfl : j = k := by omega
    rw [hqk] at hq'
    injection hq' with hq'
    subst hq'
    refine ⟨.bool s, .slice A1 m1 c1, .slice A2 m2 c2, ?_, ?_, ?_, hK3 _ _ hq⟩
    · rw [Array.getElem?_setIfInBounds_ne (by omega), Array.getElem?_setIfInBounds_ne (by omega), Array.getElem?_setIfInBounds_self_of_lt (by omega)]
    · rw [Array.getElem?_setIfInBounds_ne (by omega), Array.getElem?_setIfInBounds_self_of_lt (by simp [h2]; omega)]
    · rw [Array.getElem?_setIfInBounds_self_of_lt (by simp [h2]; omega)]
theorem Rows.ls {P : World → Value → Rat → Nat → Prop} {w : World} {g n L : Nat} {t : TypeId} {qs : List Rat} (h : Rows P w g t n n L qs) (hl : qs.length = n) (hn : n ≤ 9223372036854775807) : Ls P w (some ⟨g, 0, none⟩) n n L qs := by
  obtain ⟨cs, h1, h2, h3, h4⟩ := h.ex
  refine ⟨hl, Nat.le_refl _, hn, fun hp => ⟨_, rfl, fun j q hq => ?_⟩⟩
  have hj : j < n := by rw [← hl]; exact (List.getElem?_eq_some_iff.1 hq).1
  obtain ⟨a, b, d, ha, hb, hd, hp⟩ := h4 j q hj hq
  have e : ((⟨g, 0, none⟩ : Addr).add (j * 3)) = ⟨g, j * 3, none⟩ := by simp [Addr.add]; omega
  refine ⟨a, b, d, ?_, ?_, ?_, hp⟩
  · rw [e, h1.cell]; exact ha
  · rw [e]; show w.cell? ⟨g, j * 3 + 1, none⟩ = _; rw [h1.cell]; exact hb
  · rw [e]; show w.cell? ⟨g, j * 3 + 2, none⟩ = _; rw [h1.cell]; exact hd
/-- a number of a list -/
theorem Ls.af {w : World} {A : Option Addr} {n c L : Nat} {qs : List Rat} (h : Ls AF w A n c L qs) {j : Nat} (hj : j < n) :
    ∃ ad s A1 m1 c1 A2 m2 c2 q, A = some ad ∧ qs[j]? = some q ∧ w.cell? (ad.add (j * 3)) = some (.bool s) ∧ w.cell? ⟨(ad.add (j * 3)).block, (ad.add (j * 3)).off + 1, none⟩ = some (.slice A1 m1 c1) ∧ w.cell? ⟨(ad.add (j * 3)).block, (ad.add (j * 3)).off + 2, none⟩ = some (.slice A2 m2 c2) ∧ AF w (.agg #[.bool s, .slice A1 m1 c1, .slice A2 m2 c2]) q L := by
  obtain ⟨ad, e, hc⟩ := h.cell (by omega)
  have hl : j < qs.length := by rw [h.len]; exact hj
  obtain ⟨a, b, d, h1, h2, h3, h4⟩ := hc j _ (List.getElem?_eq_getElem hl)
  obtain ⟨s, A1, m1, c1, A2, m2, c2, he⟩ := h4.form
  rw [he] at h4
  injection he with he
  simp only [Array.mk.injEq, List.cons.injEq, and_true] at he
  obtain ⟨rfl, rfl, rfl⟩ := he
  exact ⟨ad, s, A1, m1, c1, A2, m2, c2, _, e, List.getElem?_eq_getElem hl, h1, h2, h3, h4⟩

theorem make_ratios (n : Nat) (hn : n ≤ 1000000) (w : World) :
    (Instr.makeSlice 94 (.int .i64 (n : Int)) (.int .i64 (n : Int))).run Tryz.prog w = .ok (.slice (some ⟨w.heap.size, 0, none⟩) n n) (w.alloc (.cells (madeCells #[.bool false, .slice none 0 0, .slice none 0 0] (n * 3)) 67)) := by
  obtain ⟨i0, hi, hz0, hz1, hz2⟩ := info_parts (show (Tryz.prog.info? 67).map (fun i => (i.zero, i.size, i.bytes)) = some (some (.agg #[.bool false, .slice none 0 0, .slice none 0 0]), 3, 56) by kernel_rfl)
  have := run_make (P := Tryz.prog) w 94 67 i0 (.agg #[.bool false, .slice none 0 0, .slice none 0 0]) Tryz.underlying94 hi hz0 .i64 .i64 n n (by omega) (by omega) (by rw [hz2]; omega) (by omega)
  rw [this, hz1]
  have e : Value.cells (Value.agg #[.bool false, .slice none 0 0, .slice none 0 0]) = #[.bool false, .slice none 0 0, .slice none 0 0] := rfl
  rw [e, Int.toNat_natCast]

set_option maxHeartbeats 6400000 in
set_option maxRecDepth 100000 in
theorem loadAllQ (A : Option Addr) (n c L : Nat) (qs : List Rat) (w : World) (h : Ls AF w A n c L qs) (hn : n ≤ 100000) (hL : L ≤ 400000) :
    Calls Tryz.prog 102 #[.slice A n c] w fun e w' => ∃ A', e = .returned (.slice A' n n) ∧ Ls RQ w' A' n n (2 * L + 1) qs ∧ Below w.heap.size w w' := by
  have hmk := make_ratios n (by omega)
  have hc1 := h.cap
  have hc2 := h.top
  have hlen := Lib.hid h.len
  have G1 : Rows RQ (w.alloc (.cells (madeCells #[.bool false, .slice none 0 0, .slice none 0 0] (n * 3)) 67)) w.heap.size 67 n 0 (2 * L + 1) qs := Rows.made w _ n _ qs
  have hw0 := (Below.refl w.heap.size w).alloc (Nat.le_refl _) (.cells (madeCells #[.bool false, .slice none 0 0, .slice none 0 0] (n * 3)) 67)
  go_enter Tryz.func102, Tryz.ntmps102
  go_wp2_with fail
  generalize w.alloc (.cells (madeCells #[.bool false, .slice none 0 0, .slice none 0 0] (n * 3)) 67) = w1 at *
  go_loopw [11] (fun iv wr => ∃ k : Nat, iv = .int .i64 k ∧ k ≤ n ∧ Rows RQ wr w.heap.size 67 n k (2 * L + 1) qs ∧ Below w.heap.size w wr) (fun iv _ => n - (intOf iv).toNat)
  case atStart => exact ⟨0, rfl, Nat.zero_le _, G1, hw0⟩
  case round =>
    clear G1 hw0
    obtain ⟨k, rfl, hkn, hR, hb⟩ := hrel
    by_cases hlt : k < n
    · obtain ⟨ad, s, A1, m1, c1, A2, m2, c2, q, rfl, hq, k0, k1, k2, hv⟩ := (h.below bels_af hb).af hlt
      have hq := Lib.hid hq
      have hbA := (Below.refl wr.heap.size wr).alloc (Nat.le_refl _) (.cells #[.bool s, .slice A1 m1 c1, .slice A2 m2 c2] 24)
      have hv := hv.below hbA
      have hR := hR.below bels_rq hbA
      have hb := hb.trans (hbA.mono hb.size)
      have B5 := Blk.new wr 24 #[.bool s, .slice A1 m1 c1, .slice A2 m2 c2]
      go_wp2_with fail
      generalize wr.alloc (.cells #[.bool s, .slice A1 m1 c1, .slice A2 m2 c2] 24) = w3 at *
      refine (loadQ _ q L _ hv hL).mono ?_
      rintro e w4 ⟨_, rfl, hq4, hb4⟩
      obtain ⟨s4, A3, m3, c3, A4, m4, c4, rfl⟩ := hq4.form
      have hR4 := hR.below bels_rq hb4
      have hb5 := hb.trans (hb4.mono hb.size)
      have hP := hR4.put kept_rq hlt hq4 hq.out
      obtain ⟨cs, C1, C2, C3, _⟩ := hR4.ex
      obtain ⟨z0, hz0⟩ : ∃ z0, w4.cell? ⟨w.heap.size, k * 3, none⟩ = some z0 := by rw [C1.cell]; exact ⟨_, Array.getElem?_eq_getElem (by omega)⟩
      obtain ⟨z1, hz1⟩ : ∃ z1, w4.cell? ⟨w.heap.size, k * 3 + 1, none⟩ = some z1 := by rw [C1.cell]; exact ⟨_, Array.getElem?_eq_getElem (by omega)⟩
      obtain ⟨z2, hz2⟩ : ∃ z2, w4.cell? ⟨w.heap.size, k * 3 + 2, none⟩ = some z2 := by rw [C1.cell]; exact ⟨_, Array.getElem?_eq_getElem (by omega)⟩
      have f0 := C1.frozen (k * 3)
      have f1 := C1.frozen (k * 3 + 1)
      have f2 := C1.frozen (k * 3 + 2)
      clear B5 hR hR4 C1 C2 C3 hv hb4
      go_wp2
      go_roundw
      case rel => exact ⟨k + 1, by go_num, hlt, hP, ((hb5.setCell (Nat.le_refl _) _).setCell (Nat.le_refl _) _).setCell (Nat.le_refl _) _⟩
      case measure => simp [intOf]; omega
    · obtain rfl : k = n := by omega
      have hl := hR.ls hlen.out (by omega)
      clear hR
      go_wp2
      go_ret
      exact ⟨_, rfl, hl, hb⟩
end Go.Proofs.YtbgihlfblmilmaaGreatDoor.Fr

/- Sums of lists, distributions. -/
namespace Go.Proofs.YtbgihlfblmilmaaGreatDoor.Fr
open Go.RowKit Num

theorem fold_nonneg {qs : List Rat} {a : Rat} (ha : 0 ≤ a) (h : ∀ q ∈ qs, 0 ≤ q) : 0 ≤ qs.foldl (· + ·) a := by
  induction qs generalizing a with
  | nil => exact ha
  | cons x l ih => exact ih (Rat.add_nonneg ha (h x (List.mem_cons_self ..))) fun q hq => h q (List.mem_cons_of_mem _ hq)
/-- one of them is negative -/
def ngs (qs : List Rat) : Bool := qs.any fun q => decide (q.num < 0)
theorem ngs_false {qs : List Rat} (h : ngs qs = false) : ∀ q ∈ qs, 0 ≤ q := by
  intro q hq
  unfold ngs at h
  rw [List.any_eq_false] at h
  have h1 := h q hq
  simp only [decide_eq_true_eq, Int.not_lt] at h1
  exact Rat.num_nonneg.1 h1
theorem fq_one {N D : Nat} (hD : 0 < D) : fq false N D = 1 ↔ N = D := by
  unfold fq
  rw [if_neg (by simp), show (1 : Rat) = mkRat 1 1 from rfl, Rat.mkRat_eq_iff (by omega) (by decide)]
  omega
theorem num_nn {q : Rat} (h : 0 ≤ q) : decide (q.num < 0) = false := decide_eq_false (by have := Rat.num_nonneg.2 h; omega)

set_option maxHeartbeats 3200000 in
theorem SumQ (A : Option Addr) (n c L : Nat) (qs : List Rat) (w : World) (h : Ls AF w A n c L qs) (hL : (n + 1) * (2 * L + 1 + 2) ≤ 100000) :
    Calls Tryz.prog 52 #[.slice A n c] w (RetFQ w (qs.foldl (· + ·) 0) (2 * ((n + 1) * (2 * L + 1 + 2)))) := by
  have hn : n ≤ 100000 := by
    have : (n + 1) * 1 ≤ (n + 1) * (2 * L + 1 + 2) := Nat.mul_le_mul_left _ (by omega)
    omega
  have hLb : 2 * L + 3 ≤ 100000 := by
    have : 1 * (2 * L + 1 + 2) ≤ (n + 1) * (2 * L + 1 + 2) := Nat.mul_le_mul_right _ (by omega)
    omega
  have B2 := Blk.new w 24 #[.bool false, .slice none 0 0, .slice none 0 0]
  have hw0 := (Below.refl w.heap.size w).alloc (Nat.le_refl _) (.cells #[.bool false, .slice none 0 0, .slice none 0 0] 24)
  have h := h.below bels_af hw0
  go_enter Tryz.func52, Tryz.ntmps52
  go_wp2_with fail
  generalize w.alloc (.cells #[.bool false, .slice none 0 0, .slice none 0 0] 24) = w1 at *
  refine (loadAllQ _ _ _ L qs _ h hn (by omega)).mono ?_
  rintro e w2 ⟨A2, rfl, hl2, hb2⟩
  have C2 := B2.below hb2
  have hw2 := hw0.trans (hb2.mono hw0.size)
  go_wp2_with fail
  refine (totalQ _ _ _ (2 * L + 1) qs _ hl2 hL).mono ?_
  rintro e w3 ⟨_, rfl, hq3, hb3⟩
  obtain ⟨s3, A5, n5, c5, A6, n6, c6, rfl⟩ := hq3.form
  have C3 := C2.below hb3
  have hw3 := hw2.trans (hb3.mono hw2.size)
  go_wp2_with fail
  refine (storeQ _ _ _ _ hq3 hL).mono ?_
  rintro e w9 ⟨_, rfl, hq9, hb9⟩
  have C9 := C3.below hb9
  have hw9 := hw3.trans (hb9.mono hw3.size)
  obtain ⟨s9, A9, n9, c9, A10, n10, c10, rfl⟩ := hq9.form
  have r0 := C9.cell 0
  have r1 := C9.cell 1
  have r2 := C9.cell 2
  have f0 := C9.frozen 0
  have f1 := C9.frozen 1
  have f2 := C9.frozen 2
  go_wp2
  exact ret_frac rfl rfl (((C9.set_ 0 _).set_ 1 _).set_ 2 _) rfl ⟨_, rfl, hq9.set3 C9 _ _ _, bel_set3 hw9 (by omega) _ _ _⟩

theorem ngs_take {qs : List Rat} {k : Nat} (hk : k < qs.length) (h : ngs (qs.take k) = false) (b : Bool) (hb : decide ((qs.getD k 0).num < 0) = b) : ngs (qs.take (k + 1)) = b := by
  unfold ngs at *
  rw [List.take_add_one, List.any_append, h, Bool.false_or, List.getElem?_eq_getElem hk]
  rw [List.getD_eq_getElem?_getD, List.getElem?_eq_getElem hk] at hb
  simpa using hb
theorem ngs_true {qs : List Rat} {k : Nat} (h : ngs (qs.take k) = true) : ngs qs = true := by
  unfold ngs at *
  rw [List.any_eq_true] at *
  obtain ⟨x, hx, h⟩ := h
  exact ⟨x, List.mem_of_mem_take hx, h⟩

set_option maxHeartbeats 3200000 in
set_option maxRecDepth 100000 in
theorem anyNegativeQ (A : Option Addr) (n c L : Nat) (qs : List Rat) (w : World) (h : Ls RQ w A n c L qs) :
    Calls Tryz.prog 106 #[.slice A n c] w fun e w' => e = .returned (.bool (ngs qs)) ∧ Below w.heap.size w w' := by
  have hc1 := h.cap
  have hc2 := h.top
  have hlen := Lib.hid h.len
  have hw0 := Below.refl w.heap.size w
  go_enter Tryz.func106, Tryz.ntmps106
  go_wp2
  go_loopw [7] (fun iv wr => ∃ k : Nat, iv = .int .i64 k ∧ k ≤ n ∧ Hid (ngs (qs.take k) = false) ∧ Below w.heap.size w wr) (fun iv _ => n - (intOf iv).toNat)
  case atStart => exact ⟨0, rfl, Nat.zero_le _, rfl, hw0⟩
  case round =>
    clear hw0
    obtain ⟨k, rfl, hkn, hN, hb⟩ := hrel
    by_cases hlt : k < n
    · obtain ⟨ad, s, A1, m1, c1, x1, A2, m2, c2, x2, N, D, rfl, k0, k1, k2, d1, n1, e1, l1, d2, n2, e2, l2, p1, g1, hf⟩ := (h.below bels_rq hb).rq hlt
      have hs := ngs_take (by rw [hlen.out]; exact hlt) hN.out s (by rw [← hf.out]; exact sgn_fq p1 g1 rfl)
      have hs := Lib.hid hs
      have hb := hb.alloc hb.size (.cells #[.bool s, .slice A1 m1 c1, .slice A2 m2 c2] 67)
      cases s with
      | true =>
        go_wp2
        go_ret
        exact ⟨ret_bool (ngs_true hs.out).symm, hb⟩
      | false =>
        go_wp2
        go_roundw
        case rel => exact ⟨k + 1, by go_num, hlt, hs, hb⟩
        case measure => simp [intOf]; omega
    · obtain rfl : k = n := by omega
      have hN' := hN.out
      rw [List.take_of_length_le (by rw [hlen.out]; exact Nat.le_refl _)] at hN'
      have hN' := Lib.hid hN'
      go_wp2
      go_ret
      exact ⟨ret_bool hN'.out.symm, hb⟩

set_option maxHeartbeats 3200000 in
theorem DistributionQ (A : Option Addr) (n c L : Nat) (qs : List Rat) (w : World) (h : Ls AF w A n c L qs) (hL : (n + 1) * (2 * L + 1 + 2) ≤ 100000) :
    Calls Tryz.prog 58 #[.slice A n c] w fun e w' => e = .returned (.bool (!(ngs qs) && decide (qs.foldl (· + ·) 0 = 1))) ∧ Below w.heap.size w w' := by
  have hn : n ≤ 100000 := by
    have : (n + 1) * 1 ≤ (n + 1) * (2 * L + 1 + 2) := Nat.mul_le_mul_left _ (by omega)
    omega
  have hLb : 2 * L + 3 ≤ 100000 := by
    have : 1 * (2 * L + 1 + 2) ≤ (n + 1) * (2 * L + 1 + 2) := Nat.mul_le_mul_right _ (by omega)
    omega
  have hw0 := Below.refl w.heap.size w
  go_enter Tryz.func58, Tryz.ntmps58
  go_wp2_with fail
  refine (loadAllQ _ _ _ L qs _ h hn (by omega)).mono ?_
  rintro e w2 ⟨A2, rfl, hl2, hw2⟩
  go_wp2_with fail
  refine (totalQ _ _ _ (2 * L + 1) qs _ hl2 hL).mono ?_
  rintro e w3 ⟨_, rfl, ⟨s, N, D, ⟨_, _, rfl, ⟨A1, m1, c1, x1, rfl, d1, n1, e1, l1⟩, ⟨A4, m2, c2, x2, rfl, d2, n2, e2, l2⟩⟩, p1, g1, k1⟩, hb3⟩
  have hw3 := hw2.trans (hb3.mono hw2.size)
  have B5 := Blk.new w3 67 #[.bool s, .slice A1 m1 c1, .slice A4 m2 c2]
  have hba := (Below.refl w3.heap.size w3).alloc (Nat.le_refl _) (.cells #[.bool s, .slice A1 m1 c1, .slice A4 m2 c2] 67)
  have hw4 := hw3.trans (hba.mono hw3.size)
  have hl4 := (hl2.below bels_rq hb3).below bels_rq hba
  have d1 := d1.below hba
  have d2 := d2.below hba
  go_wp2_with fail
  generalize w3.alloc (.cells #[.bool s, .slice A1 m1 c1, .slice A4 m2 c2] 67) = w4 at *
  refine (anyNegativeQ _ _ _ _ qs _ hl4).mono ?_
  rintro e w5 ⟨rfl, hb5⟩
  have B5 := B5.below hb5
  have hw5 := hw4.trans (hb5.mono hw4.size)
  have d1 := d1.below hb5
  have d2 := d2.below hb5
  have r1 := B5.cell 1
  have r2 := B5.cell 2
  cases hg : ngs qs with
  | true =>
    go_wp2_with fail
    go_ret
    exact ⟨ret_bool (by rw [hg]; rfl), hw5⟩
  | false =>
    have hpos := fold_nonneg (a := 0) (by decide) (ngs_false hg)
    have hs : s = false := by rw [← sgn_fq p1 g1 k1.out]; exact num_nn hpos
    have hd : decide (qs.foldl (· + ·) 0 = 1) = decide (ord N D = 0) := by
      rw [← k1.out, hs]
      refine decide_eq_decide.2 ((fq_one p1).trans ?_)
      unfold ord; split
      · omega
      · split <;> omega
    have hd := Lib.hid hd
    clear hpos
    go_wp2_with fail
    refine (cmp64_any _ _ _ _ _ _ _ _ _ d1 d2 n1 n2 N D e1 e2).mono ?_
    rintro e w7 ⟨nd, rfl, rfl⟩
    have hw7 := bel_drewN hw5 nd
    go_wp2
    go_ret
    exact ⟨ret_bool (by rw [hg, hd.out]; first | rfl | (simp; done) | exact beq_eq_decide ..), hw7⟩
end Go.Proofs.YtbgihlfblmilmaaGreatDoor.Fr
