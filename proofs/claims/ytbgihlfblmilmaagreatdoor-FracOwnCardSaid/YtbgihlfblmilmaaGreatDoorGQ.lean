/- The greatest integer that is not greater; quotients. -/
import Derived.Test.YtbgihlfblmilmaaGreatDoorGP
import Derived.Test.YtbgihlfblmilmaaGreatDoorQ4
namespace Go.Proofs.YtbgihlfblmilmaaGreatDoor.Fr
open Go.RowKit Num

theorem le_div_q {a b c : Rat} (hc : 0 < c) : a ≤ b / c ↔ a * c ≤ b := by
  rw [← Rat.not_lt, ← Rat.not_lt, Rat.div_lt_iff hc]
theorem fq_sign' {N D : Nat} : fq (decide (0 < N)) N D = fq true N D := fq_sign (s := true)
theorem floor_fq {s : Bool} {N D : Nat} (hD : 0 < D) : (fq s N D).floor = (if s then -(N : Int) else (N : Int)) / (D : Int) := by
  unfold fq
  generalize (if s then -(N : Int) else (N : Int)) = n
  have hq : mkRat n D = (n : Rat) / (D : Rat) := Rat.mkRat_eq_div n D
  have hDq : (0 : Rat) < (D : Rat) := Rat.natCast_pos.2 hD
  have e2 : ((D : Int) : Rat) = (D : Rat) := rfl
  apply Int.le_antisymm
  · rw [Int.le_ediv_iff_mul_le (by omega), ← Rat.intCast_le_intCast, Rat.intCast_mul]
    have h := Rat.floor_le (mkRat n D)
    rw [hq] at h ⊢
    exact (le_div_q hDq).1 h
  · rw [Rat.le_floor_iff, hq, le_div_q hDq, ← e2, ← Rat.intCast_mul, Rat.intCast_le_intCast]
    exact Int.ediv_mul_le n (by omega)
/-- the floor of a negative number -/
theorem floor_fq_neg {N D : Nat} (hD : 0 < D) : (fq true N D).floor = -((N / D + (if 0 < N % D then 1 else 0) : Nat) : Int) := by
  rw [floor_fq hD, if_pos rfl]
  have hdm := Nat.div_add_mod N D
  have hlt := Nat.mod_lt N hD
  have hc : ((D * (N / D) : Nat) : Int) = (D : Int) * ((N / D : Nat) : Int) := Int.natCast_mul _ _
  generalize N / D = k at *
  generalize N % D = r at *
  have hN : (N : Int) = (D : Int) * (k : Int) + r := by rw [← hc]; omega
  have key : ∀ j : Int, j * D ≤ -(N : Int) → -(N : Int) < (j + 1) * D → -(N : Int) / (D : Int) = j := by
    intro j h1 h2
    have a1 := (Int.le_ediv_iff_mul_le (a := j) (b := -(N : Int)) (show (0 : Int) < (D : Int) by omega)).2 h1
    have a2 := (Int.ediv_lt_iff_lt_mul (a := -(N : Int)) (b := j + 1) (show (0 : Int) < (D : Int) by omega)).2 h2
    omega
  by_cases h : 0 < r
  · rw [if_pos h]
    refine key _ ?_ ?_
    · rw [hN]
      have : (-((k + 1 : Nat) : Int)) * (D : Int) = -((D : Int) * k) - D := by rw [Int.natCast_add]; grind
      rw [this]; omega
    · have : (-((k + 1 : Nat) : Int) + 1) * (D : Int) = -((D : Int) * k) := by rw [Int.natCast_add]; grind
      rw [this, hN]; omega
  · rw [if_neg h]
    have hr : r = 0 := by omega
    subst hr
    refine key _ ?_ ?_
    · have : (-((k + 0 : Nat) : Int)) * (D : Int) = -((D : Int) * k) := by rw [Nat.add_zero]; grind
      rw [this, hN]; omega
    · have : (-((k + 0 : Nat) : Int) + 1) * (D : Int) = -((D : Int) * k) + D := by rw [Nat.add_zero]; grind
      rw [this, hN]; omega
theorem floor_fq_pos {N D : Nat} (hD : 0 < D) : (fq false N D).floor = ((N / D : Nat) : Int) := by
  rw [floor_fq hD, if_neg (by simp), ← Int.natCast_ediv]
theorem fq_nat (s : Bool) (N : Nat) : fq s N 1 = (((if s then -(N : Int) else (N : Int)) : Int) : Rat) := by
  unfold fq
  exact Rat.mkRat_one _
theorem oneQ (w : World) : Calls Tryz.prog 118 #[] w fun e w' => ∃ A, e = .returned (.slice A 1 1) ∧ Dg .u64 w' A 1 1 [1] ∧ Below w.heap.size w w' := by
  refine (one64_any w).mono ?_
  rintro e w' ⟨rfl, rfl⟩
  exact ⟨_, rfl, Dg.lit_one64 w 82, (Below.refl _ _).alloc (Nat.le_refl _) _⟩
theorem rl_int {w : World} {v : Value} {f : Int} {s' : Bool} {N' L : Nat} (hs : s' = decide (f < 0)) (hN : N' = f.natAbs) (h : RV w v s' N' 1 L) : RL w v (f : Rat) L := by
  unfold RL
  rw [Rat.num_intCast, Rat.den_intCast, ← hs, ← hN]; exact h
theorem RL.set3 {w : World} {v : Value} {q : Rat} {L : Nat} (h : RL w v q L) {g : Nat} {t : TypeId} {a : Bool} {p1 q1 : Option Addr} {p2 p3 q2 q3 : Nat} (hB : Blk w g t #[.bool a, .slice p1 p2 p3, .slice q1 q2 q3]) (x1 x2 x3 : Value) :
    RL (((w.setCell ⟨g, 0, none⟩ x1).setCell ⟨g, 1, none⟩ x2).setCell ⟨g, 2, none⟩ x3) v q L := by
  obtain ⟨v1, v2, e, h1, h2⟩ := h
  exact ⟨v1, v2, e, nv_set3 h1 hB _ _ _, nv_set3 h2 hB _ _ _⟩
theorem vl_one64 : vl (bs .u64) [1] = 1 := by simp [vl]


set_option maxHeartbeats 6400000 in
set_option maxRecDepth 100000 in
theorem floorL (v : Value) (q : Rat) (L : Nat) (w : World) (h : RQ w v q L) (hL : L ≤ 400000) : Calls Tryz.prog 88 #[v] w (RetLL w (q.floor : Rat) (L + 2)) := by
  obtain ⟨s, N, D, ⟨_, _, rfl, ⟨A1, m1, c1, x1, rfl, d1, n1, e1, l1⟩, ⟨A2, m2, c2, x2, rfl, d2, n2, e2, l2⟩⟩, p1, g1, k1⟩ := h
  rw [← k1.out]
  obtain ⟨B1, B2, hw0⟩ := two_blk w 67 #[.bool s, .slice A1 m1 c1, .slice A2 m2 c2] #[.bool false, .slice none 0 0, .slice none 0 0]
  have d1 := d1.below hw0
  have d2 := d2.below hw0
  go_enter Tryz.func88, Tryz.ntmps88
  go_wp2_with fail
  generalize (w.alloc (.cells #[.bool s, .slice A1 m1 c1, .slice A2 m2 c2] 67)).alloc (.cells #[.bool false, .slice none 0 0, .slice none 0 0] 67) = w1 at *
  refine (divide64_any _ _ _ _ _ _ _ _ _ d1 d2 n1 n2 N D e1 e2 (by omega) p1).mono ?_
  rintro e w2 ⟨_, _, rfl, ⟨A3, m3, c3, x3, rfl, d3, n3, e3, l3⟩, ⟨A4, m4, c4, x4, rfl, d4, n4, e4, l4⟩, hb2, _⟩
  have C1 := B1.below hb2
  have C2 := B2.below hb2
  have hw2 := hw0.trans (hb2.mono hw0.size)
  have r0 := C1.cell 0
  have t3 := d3.cap
  have t4 := d4.cap
  have z4 := Lib.hid (nv_pos d4 n4 (by decide) e4)
  have z3 := Lib.hid (nv_pos d3 n3 (by decide) e3)
  clear B1 B2
  cases s with
  | true =>
    by_cases hr : 0 < m4
    · have hr' : 0 < N % D := by have := z4.out; rw [decide_eq_true hr] at this; exact of_decide_eq_true this.symm
      go_wp2_with fail
      refine (oneQ _).mono ?_
      rintro e w3 ⟨A5, rfl, hD5, hb3⟩
      go_wp2_with fail
      refine (add_any _ _ _ _ _ _ _ _ _ (d3.below hb3) hD5 (by omega) (by omega)).mono ?_
      rintro e w4 ⟨A6, m6, c6, us6, rfl, hD6, hN6, hv6, hm6, hb4, hf6⟩
      have C1 := (C1.below hb3).below hb4
      have C2 := (C2.below hb3).below hb4
      have hw4 := (hw2.trans (hb3.mono hw2.size)).trans (hb4.mono (hw2.trans (hb3.mono hw2.size)).size)
      have z6 := Lib.hid (nv_pos hD6 hN6 (by decide) hv6)
      have t6 := hD6.cap
      go_upto_region 4 with fail
      have hbd : Below w4.heap.size w4 w4.drew := (Below.refl _ _).drew
      have K1 : w4.cell? ⟨w.heap.size, 0, none⟩ = some (.bool true) ∧ w4.cell? ⟨w.heap.size, 1, none⟩ = some (.slice A1 m1 c1) ∧ w4.cell? ⟨w.heap.size, 2, none⟩ = some (.slice A2 m2 c2) := ⟨C1.cell 0, C1.cell 1, C1.cell 2⟩
      obtain ⟨k0, k1, k2⟩ := K1
      go_region_held3 (fun wx => wx.cell? ⟨w.heap.size, 0, none⟩ = some (.bool true) ∧ wx.cell? ⟨w.heap.size, 1, none⟩ = some (.slice A1 m1 c1) ∧ wx.cell? ⟨w.heap.size, 2, none⟩ = some (.slice A2 m2 c2))
        (first | exact ⟨k0, k1, k2⟩ | exact Kw8 | exact Kw9 | exact K9.out _ _ _)
        (first
          | (go_at_call 118; refine (oneQ _).mono ?_; rintro e w8 ⟨A8, rfl, hD8, hb8⟩; have Kw8 : w8.cell? ⟨w.heap.size, 0, none⟩ = some (.bool true) ∧ w8.cell? ⟨w.heap.size, 1, none⟩ = some (.slice A1 m1 c1) ∧ w8.cell? ⟨w.heap.size, 2, none⟩ = some (.slice A2 m2 c2) := ⟨((C1.drew).below hb8).cell 0, ((C1.drew).below hb8).cell 1, ((C1.drew).below hb8).cell 2⟩)
          | (go_at_call 99; refine (signed_any _ _ _ _ _ _ _ _ (by omega)).mono ?_; rintro e w9 ⟨rfl, hb9⟩; have Kw9 : w9.cell? ⟨w.heap.size, 0, none⟩ = some (.bool true) ∧ w9.cell? ⟨w.heap.size, 1, none⟩ = some (.slice A1 m1 c1) ∧ w9.cell? ⟨w.heap.size, 2, none⟩ = some (.slice A2 m2 c2) := ⟨(((C1.drew).below hb8).below hb9).cell 0, (((C1.drew).below hb8).below hb9).cell 1, (((C1.drew).below hb8).below hb9).cell 2⟩; have K9 := Lib.hid (show ∀ a b d, (((w9.setCell ⟨w.heap.size + 1, 0, none⟩ a).setCell ⟨w.heap.size + 1, 1, none⟩ b).setCell ⟨w.heap.size + 1, 2, none⟩ d).cell? ⟨w.heap.size, 0, none⟩ = some (.bool true) ∧ (((w9.setCell ⟨w.heap.size + 1, 0, none⟩ a).setCell ⟨w.heap.size + 1, 1, none⟩ b).setCell ⟨w.heap.size + 1, 2, none⟩ d).cell? ⟨w.heap.size, 1, none⟩ = some (.slice A1 m1 c1) ∧ (((w9.setCell ⟨w.heap.size + 1, 0, none⟩ a).setCell ⟨w.heap.size + 1, 1, none⟩ b).setCell ⟨w.heap.size + 1, 2, none⟩ d).cell? ⟨w.heap.size, 2, none⟩ = some (.slice A2 m2 c2) from fun a b d => ⟨(cell_set3 _ _ _ _ _ _ (by show w.heap.size ≠ _; omega)).trans Kw9.1, (cell_set3 _ _ _ _ _ _ (by show w.heap.size ≠ _; omega)).trans Kw9.2.1, (cell_set3 _ _ _ _ _ _ (by show w.heap.size ≠ _; omega)).trans Kw9.2.2⟩); have P3 := ((C2.drew).below hb8).below hb9; have r0 := P3.cell 0; have r1 := P3.cell 1; have r2 := P3.cell 2; have f0 := P3.frozen 0; have f1 := P3.frozen 1; have f2 := P3.frozen 2))
      have hz := ((hw4.drew).trans (hb8.mono (hw4.drew).size)).trans (hb9.mono ((hw4.drew).trans (hb8.mono (hw4.drew).size)).size)
      go_wp2
      refine ret_rat rfl rfl (((P3.set_ 0 _).set_ 1 _).set_ 2 _) rfl ⟨_, rfl, RL.set3 (L := L + 2) (rl_int (s' := decide (0 < vl (bs .u64) x3 + vl (bs .u64) [1])) (N' := N / D + 1) (by rw [e3.out, vl_one64, floor_fq_neg p1, if_pos hr']; generalize N / D = k; exact decide_eq_decide.2 (by omega)) (by rw [floor_fq_neg p1, if_pos hr']; generalize N / D = k; omega) ⟨_, _, by rw [z6.out], NV.mk (((hD6.below hbd).below hb8).below hb9) hN6 (show _ = N / D + 1 by rw [hv6.out, e3.out, vl_one64]) (by omega), NV.mk (hD8.below hb9) nrm_lit1 (show _ = _ from vl_one64) (by omega)⟩) P3 _ _ _, bel_set3 hz (by omega) _ _ _⟩
    · have hr' : ¬ 0 < N % D := by have := z4.out; rw [decide_eq_false hr] at this; exact of_decide_eq_false this.symm
      go_upto_region 4 with fail
      have hbd : Below w2.heap.size w2 w2.drew := (Below.refl _ _).drew
      have K1 : w2.cell? ⟨w.heap.size, 0, none⟩ = some (.bool true) ∧ w2.cell? ⟨w.heap.size, 1, none⟩ = some (.slice A1 m1 c1) ∧ w2.cell? ⟨w.heap.size, 2, none⟩ = some (.slice A2 m2 c2) := ⟨C1.cell 0, C1.cell 1, C1.cell 2⟩
      obtain ⟨k0, k1, k2⟩ := K1
      go_region_held3 (fun wx => wx.cell? ⟨w.heap.size, 0, none⟩ = some (.bool true) ∧ wx.cell? ⟨w.heap.size, 1, none⟩ = some (.slice A1 m1 c1) ∧ wx.cell? ⟨w.heap.size, 2, none⟩ = some (.slice A2 m2 c2))
        (first | exact ⟨k0, k1, k2⟩ | exact Kw8 | exact Kw9 | exact K9.out _ _ _)
        (first
          | (go_at_call 118; refine (oneQ _).mono ?_; rintro e w8 ⟨A8, rfl, hD8, hb8⟩; have Kw8 : w8.cell? ⟨w.heap.size, 0, none⟩ = some (.bool true) ∧ w8.cell? ⟨w.heap.size, 1, none⟩ = some (.slice A1 m1 c1) ∧ w8.cell? ⟨w.heap.size, 2, none⟩ = some (.slice A2 m2 c2) := ⟨((C1.drew).below hb8).cell 0, ((C1.drew).below hb8).cell 1, ((C1.drew).below hb8).cell 2⟩)
          | (go_at_call 99; refine (signed_any _ _ _ _ _ _ _ _ (by omega)).mono ?_; rintro e w9 ⟨rfl, hb9⟩; have Kw9 : w9.cell? ⟨w.heap.size, 0, none⟩ = some (.bool true) ∧ w9.cell? ⟨w.heap.size, 1, none⟩ = some (.slice A1 m1 c1) ∧ w9.cell? ⟨w.heap.size, 2, none⟩ = some (.slice A2 m2 c2) := ⟨(((C1.drew).below hb8).below hb9).cell 0, (((C1.drew).below hb8).below hb9).cell 1, (((C1.drew).below hb8).below hb9).cell 2⟩; have K9 := Lib.hid (show ∀ a b d, (((w9.setCell ⟨w.heap.size + 1, 0, none⟩ a).setCell ⟨w.heap.size + 1, 1, none⟩ b).setCell ⟨w.heap.size + 1, 2, none⟩ d).cell? ⟨w.heap.size, 0, none⟩ = some (.bool true) ∧ (((w9.setCell ⟨w.heap.size + 1, 0, none⟩ a).setCell ⟨w.heap.size + 1, 1, none⟩ b).setCell ⟨w.heap.size + 1, 2, none⟩ d).cell? ⟨w.heap.size, 1, none⟩ = some (.slice A1 m1 c1) ∧ (((w9.setCell ⟨w.heap.size + 1, 0, none⟩ a).setCell ⟨w.heap.size + 1, 1, none⟩ b).setCell ⟨w.heap.size + 1, 2, none⟩ d).cell? ⟨w.heap.size, 2, none⟩ = some (.slice A2 m2 c2) from fun a b d => ⟨(cell_set3 _ _ _ _ _ _ (by show w.heap.size ≠ _; omega)).trans Kw9.1, (cell_set3 _ _ _ _ _ _ (by show w.heap.size ≠ _; omega)).trans Kw9.2.1, (cell_set3 _ _ _ _ _ _ (by show w.heap.size ≠ _; omega)).trans Kw9.2.2⟩); have P3 := ((C2.drew).below hb8).below hb9; have r0 := P3.cell 0; have r1 := P3.cell 1; have r2 := P3.cell 2; have f0 := P3.frozen 0; have f1 := P3.frozen 1; have f2 := P3.frozen 2))
      have hz := ((hw2.drew).trans (hb8.mono (hw2.drew).size)).trans (hb9.mono ((hw2.drew).trans (hb8.mono (hw2.drew).size)).size)
      go_wp2
      refine ret_rat rfl rfl (((P3.set_ 0 _).set_ 1 _).set_ 2 _) rfl ⟨_, rfl, RL.set3 (L := L + 2) (rl_int (s' := decide (0 < N / D)) (N' := N / D) (by rw [floor_fq_neg p1, if_neg hr']; generalize N / D = k; exact decide_eq_decide.2 (by omega)) (by rw [floor_fq_neg p1, if_neg hr']; generalize N / D = k; omega) ⟨_, _, by rw [z3.out], NV.mk (((d3.below hbd).below hb8).below hb9) n3 (show _ = N / D from e3.out) (by omega), NV.mk (hD8.below hb9) nrm_lit1 (show _ = _ from vl_one64) (by omega)⟩) P3 _ _ _, bel_set3 hz (by omega) _ _ _⟩
  | false =>
    go_upto_region 4 with fail
    have hbd : Below w2.heap.size w2 w2.drew := (Below.refl _ _).drew
    have K1 : w2.cell? ⟨w.heap.size, 0, none⟩ = some (.bool false) ∧ w2.cell? ⟨w.heap.size, 1, none⟩ = some (.slice A1 m1 c1) ∧ w2.cell? ⟨w.heap.size, 2, none⟩ = some (.slice A2 m2 c2) := ⟨C1.cell 0, C1.cell 1, C1.cell 2⟩
    obtain ⟨k0, k1, k2⟩ := K1
    go_region_held3 (fun wx => wx.cell? ⟨w.heap.size, 0, none⟩ = some (.bool false) ∧ wx.cell? ⟨w.heap.size, 1, none⟩ = some (.slice A1 m1 c1) ∧ wx.cell? ⟨w.heap.size, 2, none⟩ = some (.slice A2 m2 c2))
      (first | exact ⟨k0, k1, k2⟩ | exact Kw8 | exact Kw9 | exact K9.out _ _ _)
      (first
        | (go_at_call 118; refine (oneQ _).mono ?_; rintro e w8 ⟨A8, rfl, hD8, hb8⟩; have Kw8 : w8.cell? ⟨w.heap.size, 0, none⟩ = some (.bool false) ∧ w8.cell? ⟨w.heap.size, 1, none⟩ = some (.slice A1 m1 c1) ∧ w8.cell? ⟨w.heap.size, 2, none⟩ = some (.slice A2 m2 c2) := ⟨((C1.drew).below hb8).cell 0, ((C1.drew).below hb8).cell 1, ((C1.drew).below hb8).cell 2⟩)
        | (go_at_call 99; refine (signed_any _ _ _ _ _ _ _ _ (by omega)).mono ?_; rintro e w9 ⟨rfl, hb9⟩; have Kw9 : w9.cell? ⟨w.heap.size, 0, none⟩ = some (.bool false) ∧ w9.cell? ⟨w.heap.size, 1, none⟩ = some (.slice A1 m1 c1) ∧ w9.cell? ⟨w.heap.size, 2, none⟩ = some (.slice A2 m2 c2) := ⟨(((C1.drew).below hb8).below hb9).cell 0, (((C1.drew).below hb8).below hb9).cell 1, (((C1.drew).below hb8).below hb9).cell 2⟩; have K9 := Lib.hid (show ∀ a b d, (((w9.setCell ⟨w.heap.size + 1, 0, none⟩ a).setCell ⟨w.heap.size + 1, 1, none⟩ b).setCell ⟨w.heap.size + 1, 2, none⟩ d).cell? ⟨w.heap.size, 0, none⟩ = some (.bool false) ∧ (((w9.setCell ⟨w.heap.size + 1, 0, none⟩ a).setCell ⟨w.heap.size + 1, 1, none⟩ b).setCell ⟨w.heap.size + 1, 2, none⟩ d).cell? ⟨w.heap.size, 1, none⟩ = some (.slice A1 m1 c1) ∧ (((w9.setCell ⟨w.heap.size + 1, 0, none⟩ a).setCell ⟨w.heap.size + 1, 1, none⟩ b).setCell ⟨w.heap.size + 1, 2, none⟩ d).cell? ⟨w.heap.size, 2, none⟩ = some (.slice A2 m2 c2) from fun a b d => ⟨(cell_set3 _ _ _ _ _ _ (by show w.heap.size ≠ _; omega)).trans Kw9.1, (cell_set3 _ _ _ _ _ _ (by show w.heap.size ≠ _; omega)).trans Kw9.2.1, (cell_set3 _ _ _ _ _ _ (by show w.heap.size ≠ _; omega)).trans Kw9.2.2⟩); have P3 := ((C2.drew).below hb8).below hb9; have r0 := P3.cell 0; have r1 := P3.cell 1; have r2 := P3.cell 2; have f0 := P3.frozen 0; have f1 := P3.frozen 1; have f2 := P3.frozen 2))
    have hz := ((hw2.drew).trans (hb8.mono (hw2.drew).size)).trans (hb9.mono ((hw2.drew).trans (hb8.mono (hw2.drew).size)).size)
    go_wp2
    refine ret_rat rfl rfl (((P3.set_ 0 _).set_ 1 _).set_ 2 _) rfl ⟨_, rfl, RL.set3 (L := L + 2) (rl_int (s' := false) (N' := N / D) (by rw [floor_fq_pos p1]; generalize N / D = k; exact (decide_eq_false (by omega)).symm) (by rw [floor_fq_pos p1]; generalize N / D = k; omega) ⟨_, _, rfl, NV.mk (((d3.below hbd).below hb8).below hb9) n3 (show _ = N / D from e3.out) (by omega), NV.mk (hD8.below hb9) nrm_lit1 (show _ = _ from vl_one64) (by omega)⟩) P3 _ _ _, bel_set3 hz (by omega) _ _ _⟩
theorem floorQ (v : Value) (q : Rat) (L : Nat) (w : World) (h : RQ w v q L) (hL : L ≤ 400000) : Calls Tryz.prog 88 #[v] w (RetQQ w (q.floor : Rat) (L + 2)) := by
  refine (floorL v q L w h hL).mono ?_
  rintro e w' ⟨v, h1, h2, h3⟩
  exact ⟨v, h1, h2.rq, h3⟩
end Go.Proofs.YtbgihlfblmilmaaGreatDoor.Fr

/- Signs, orders, sizes, quotients of numbers of any length. -/
namespace Go.Proofs.YtbgihlfblmilmaaGreatDoor.Fr
open Go.RowKit Num

/-- the order of two numbers -/
def cq (a b : Rat) : Int := if a < b then -1 else if b < a then 1 else 0
theorem lt_fq {s1 s2 : Bool} {N1 D1 N2 D2 : Nat} (h1 : 0 < D1) (h2 : 0 < D2) : fq s1 N1 D1 < fq s2 N2 D2 ↔ (if s1 then -(N1 : Int) else (N1 : Int)) * (D2 : Int) < (if s2 then -(N2 : Int) else (N2 : Int)) * (D1 : Int) := by
  unfold fq
  generalize (if s1 then -(N1 : Int) else (N1 : Int)) = i
  generalize (if s2 then -(N2 : Int) else (N2 : Int)) = j
  have e1 : mkRat i D1 = (i : Rat) / (D1 : Rat) := Rat.mkRat_eq_div i D1
  have e2 : mkRat j D2 = (j : Rat) / (D2 : Rat) := Rat.mkRat_eq_div j D2
  have p1 : (0 : Rat) < (D1 : Rat) := Rat.natCast_pos.2 h1
  have p2 : (0 : Rat) < (D2 : Rat) := Rat.natCast_pos.2 h2
  have c1 : ((D1 : Int) : Rat) = (D1 : Rat) := rfl
  have c2 : ((D2 : Int) : Rat) = (D2 : Rat) := rfl
  rw [e1, e2, Rat.div_lt_iff p1, show (j : Rat) / (D2 : Rat) * (D1 : Rat) = (j : Rat) * (D1 : Rat) / (D2 : Rat) by rw [Rat.div_def, Rat.div_def]; grind, Rat.lt_div_iff p2, ← c1, ← c2, ← Rat.intCast_mul, ← Rat.intCast_mul, Rat.intCast_lt_intCast]
theorem rord_cq {s1 s2 : Bool} {N1 D1 N2 D2 : Nat} (h1 : 0 < D1) (h2 : 0 < D2) (g1 : s1 = true → 0 < N1) (g2 : s2 = true → 0 < N2) : rord s1 N1 D1 s2 N2 D2 = cq (fq s1 N1 D1) (fq s2 N2 D2) := by
  unfold cq
  simp only [lt_fq h1 h2, lt_fq h2 h1]
  have LL : ∀ (s : Bool) (N D : Nat), (if s then -(N : Int) else (N : Int)) * (D : Int) = if s then -((N * D : Nat) : Int) else ((N * D : Nat) : Int) := by
    intro s N D
    cases s with
    | true => rw [if_pos rfl, if_pos rfl, Int.natCast_mul, Int.neg_mul]
    | false => rw [if_neg (by simp), if_neg (by simp), Int.natCast_mul]
  rw [LL, LL]
  have z1 : 0 < N1 → 0 < N1 * D2 := fun h => Nat.mul_pos h h2
  have z2 : 0 < N2 → 0 < N2 * D1 := fun h => Nat.mul_pos h h1
  have y1 : N1 = 0 → N1 * D2 = 0 := fun h => by rw [h, Nat.zero_mul]
  have y2 : N2 = 0 → N2 * D1 = 0 := fun h => by rw [h, Nat.zero_mul]
  unfold rord
  generalize N1 * D2 = P at *
  generalize N2 * D1 = Q at *
  rcases Nat.eq_zero_or_pos N1 with a | a <;> rcases Nat.eq_zero_or_pos N2 with b | b
  · have := y1 a; have := y2 b; subst a b
    cases s1
    · cases s2
      · subst P Q; rfl
      · exact absurd (g2 rfl) (by decide)
    · exact absurd (g1 rfl) (by decide)
  · have := y1 a; have := z2 b; subst a
    have hb : N2 ≠ 0 := by omega
    cases s1
    · subst P
      cases s2 <;> simp [sgn, Lib.compareInt, hb] <;> (repeat' split) <;> omega
    · exact absurd (g1 rfl) (by decide)
  · have := z1 a; have := y2 b; subst b
    have ha : N1 ≠ 0 := by omega
    cases s2
    · subst Q
      cases s1 <;> simp [sgn, Lib.compareInt, ha] <;> (repeat' split) <;> omega
    · exact absurd (g2 rfl) (by decide)
  · have := z1 a; have := z2 b
    have ha : N1 ≠ 0 := by omega
    have hb : N2 ≠ 0 := by omega
    cases s1 <;> cases s2 <;> simp [sgn, Lib.compareInt, ha, hb, ord] <;> (repeat' split) <;> omega
theorem bl_len {w : World} {A : Option Addr} {n c : Nat} {xs : List Nat} (h : Dg .u64 w A n c xs) : bl (vl (bs .u64) xs) ≤ 64 * n := by
  refine bl_le ?_
  have := vl_lt h.ok
  rw [h.len, bs64_pow] at this
  exact this
def qs (q : Rat) : Int := cq q 0
theorem fq_zero_one : fq false 0 1 = 0 := (fq_zero (by decide)).2 rfl
theorem sgn_qs {s : Bool} {N D : Nat} (h : 0 < D) (g : s = true → 0 < N) : sgn s N = qs (fq s N D) := by
  unfold qs
  rw [← fq_zero_one, ← rord_cq h (by decide) g (by simp)]
  unfold rord
  cases s with
  | true =>
    have := g rfl
    rfl
  | false =>
    rcases Nat.eq_zero_or_pos N with a | a
    · subst a; simp [sgn, Lib.compareInt, ord]
    · have ha : N ≠ 0 := by omega
      simp [sgn, Lib.compareInt, ha]
theorem qs_bound (q : Rat) : -1 ≤ qs q ∧ qs q ≤ 1 := by unfold qs cq; split <;> (try split) <;> omega
theorem qs_zero {q : Rat} : qs q = 0 ↔ q = 0 := by
  unfold qs cq
  split
  · rename_i h
    refine ⟨fun e => by omega, fun e => ?_⟩
    subst e; exact absurd h (by decide)
  · split
    · rename_i h
      refine ⟨fun e => by omega, fun e => ?_⟩
      subst e; exact absurd h (by decide)
    · rename_i h h'
      exact ⟨fun _ => Rat.le_antisymm (Rat.not_lt.1 h') (Rat.not_lt.1 h), fun _ => rfl⟩

theorem signQ (v : Value) (q : Rat) (L : Nat) (w : World) (h : RQ w v q L) : Calls Tryz.prog 97 #[v] w fun e w' => e = .returned (.int .i64 (qs q)) ∧ Below w.heap.size w w' := by
  obtain ⟨s, N, D, ⟨_, _, rfl, ⟨A1, m1, c1, x1, rfl, d1, n1, e1, l1⟩, ⟨A2, m2, c2, x2, rfl, d2, n2, e2, l2⟩⟩, p1, g1, k1⟩ := h
  rw [← k1.out, ← sgn_qs p1 g1]
  exact sign_bel _ _ _ _ _ _ _ _ w d1 n1 N e1
theorem cmpQ (v1 v2 : Value) (q1 q2 : Rat) (L : Nat) (w : World) (h1 : RQ w v1 q1 L) (h2 : RQ w v2 q2 L) (hL : L ≤ 400000) : Calls Tryz.prog 101 #[v1, v2] w fun e w' => e = .returned (.int .i64 (cq q1 q2)) ∧ Below w.heap.size w w' := by
  obtain ⟨s1, N1, D1, ⟨_, _, rfl, ⟨A1, m1, c1, x1, rfl, d1, n1, e1, l1⟩, ⟨A2, m2, c2, x2, rfl, d2, n2, e2, l2⟩⟩, p1, g1, k1⟩ := h1
  obtain ⟨s2, N2, D2, ⟨_, _, rfl, ⟨A3, m3, c3, x3, rfl, d3, n3, e3, l3⟩, ⟨A4, m4, c4, x4, rfl, d4, n4, e4, l4⟩⟩, p2, g2, k2⟩ := h2
  rw [← k1.out, ← k2.out, ← rord_cq p1 p2 g1 g2]
  exact cmpR_all s1 s2 A1 A2 A3 A4 m1 c1 m2 c2 m3 c3 m4 c4 x1 x2 x3 x4 w d1 d2 d3 d4 n1 n3 N1 D1 N2 D2 e1 e2 e3 e4 (by omega) (by omega) (by omega) (by omega)

set_option maxHeartbeats 1600000 in
theorem SignQ (v1 : Value) (q1 : Rat) (L : Nat) (w : World) (h1 : AF w v1 q1 L) (hL : L ≤ 400000) :
    Calls Tryz.prog 47 #[v1] w fun e w' => e = .returned (.int .i64 (qs q1)) ∧ Below w.heap.size w w' := by
  obtain ⟨s1, A1, n1, c1, A2, n2, c2, rfl⟩ := h1.form
  have B1 := Blk.new w 24 #[.bool s1, .slice A1 n1 c1, .slice A2 n2 c2]
  have hw0 := (Below.refl w.heap.size w).alloc (Nat.le_refl _) (.cells #[.bool s1, .slice A1 n1 c1, .slice A2 n2 c2] 24)
  have h1 := h1.below hw0
  go_enter Tryz.func47, Tryz.ntmps47
  go_wp2_with fail
  generalize w.alloc (.cells #[.bool s1, .slice A1 n1 c1, .slice A2 n2 c2] 24) = w1 at *
  refine (loadQ _ q1 L _ h1 (by omega)).mono ?_
  rintro e w2 ⟨_, rfl, hq2, hb2⟩
  obtain ⟨s2, A3, n3, c3, A4, n4, c4, rfl⟩ := hq2.form
  have hw2 := hw0.trans (hb2.mono hw0.size)
  go_wp2_with fail
  refine (signQ _ q1 _ _ hq2).mono ?_
  rintro e w3 ⟨rfl, hb3⟩
  have hw3 := hw2.trans (hb3.mono hw2.size)
  go_wp2
  go_ret
  exact ⟨rfl, hw3⟩


set_option maxHeartbeats 3200000 in
theorem CmpQ (v1 v2 : Value) (q1 q2 : Rat) (L : Nat) (w : World) (h1 : AF w v1 q1 L) (h2 : AF w v2 q2 L) (hL : 2 * L + 1 ≤ 400000) :
    Calls Tryz.prog 50 #[v1, v2] w fun e w' => e = .returned (.int .i64 (cq q1 q2)) ∧ Below w.heap.size w w' := by
  obtain ⟨s1, A1, n1, c1, A2, n2, c2, rfl⟩ := h1.form
  obtain ⟨s2, A3, n3, c3, A4, n4, c4, rfl⟩ := h2.form
  obtain ⟨B1, B2, hw0⟩ := two_blk w 24 #[.bool s1, .slice A1 n1 c1, .slice A2 n2 c2] #[.bool s2, .slice A3 n3 c3, .slice A4 n4 c4]
  have h1 := h1.below hw0
  have h2 := h2.below hw0
  go_enter Tryz.func50, Tryz.ntmps50
  go_upto_region 1 with fail
  generalize (w.alloc (.cells #[.bool s1, .slice A1 n1 c1, .slice A2 n2 c2] 24)).alloc (.cells #[.bool s2, .slice A3 n3 c3, .slice A4 n4 c4] 24) = w1 at *
  have hbd : Below w1.heap.size w1 w1.drew := (Below.refl _ _).drew
  have K1 : w1.cell? ⟨w.heap.size, 0, none⟩ = some (.bool s1) ∧ w1.cell? ⟨w.heap.size, 1, none⟩ = some (.slice A1 n1 c1) ∧ w1.cell? ⟨w.heap.size, 2, none⟩ = some (.slice A2 n2 c2) ∧ w1.cell? ⟨w.heap.size + 1, 0, none⟩ = some (.bool s2) ∧ w1.cell? ⟨w.heap.size + 1, 1, none⟩ = some (.slice A3 n3 c3) ∧ w1.cell? ⟨w.heap.size + 1, 2, none⟩ = some (.slice A4 n4 c4) := ⟨B1.cell 0, B1.cell 1, B1.cell 2, B2.cell 0, B2.cell 1, B2.cell 2⟩
  obtain ⟨k0, k1, k2, k3, k4, k5⟩ := K1
  go_region_held3 (fun wx => wx.cell? ⟨w.heap.size, 0, none⟩ = some (.bool s1) ∧ wx.cell? ⟨w.heap.size, 1, none⟩ = some (.slice A1 n1 c1) ∧ wx.cell? ⟨w.heap.size, 2, none⟩ = some (.slice A2 n2 c2) ∧ wx.cell? ⟨w.heap.size + 1, 0, none⟩ = some (.bool s2) ∧ wx.cell? ⟨w.heap.size + 1, 1, none⟩ = some (.slice A3 n3 c3) ∧ wx.cell? ⟨w.heap.size + 1, 2, none⟩ = some (.slice A4 n4 c4))
    (first | exact ⟨k0, k1, k2, k3, k4, k5⟩ | exact Kw5 | exact Kw6 | exact Kw7)
    (first
      | (go_at_call_of 70 (Value.agg #[.bool s1, .slice A1 n1 c1, .slice A2 n2 c2]); refine (loadQ _ q1 L _ (h1.below hbd) (by omega)).mono ?_; rintro e w5 ⟨_, rfl, hq5, hb5⟩; obtain ⟨s5, A5, m5, c5, A6, m6, c6, rfl⟩ := hq5.form; have Kw5 : w5.cell? ⟨w.heap.size, 0, none⟩ = some (.bool s1) ∧ w5.cell? ⟨w.heap.size, 1, none⟩ = some (.slice A1 n1 c1) ∧ w5.cell? ⟨w.heap.size, 2, none⟩ = some (.slice A2 n2 c2) ∧ w5.cell? ⟨w.heap.size + 1, 0, none⟩ = some (.bool s2) ∧ w5.cell? ⟨w.heap.size + 1, 1, none⟩ = some (.slice A3 n3 c3) ∧ w5.cell? ⟨w.heap.size + 1, 2, none⟩ = some (.slice A4 n4 c4) := ⟨((B1.drew).below hb5).cell 0, ((B1.drew).below hb5).cell 1, ((B1.drew).below hb5).cell 2, ((B2.drew).below hb5).cell 0, ((B2.drew).below hb5).cell 1, ((B2.drew).below hb5).cell 2⟩)
      | (go_at_call_of 70 (Value.agg #[.bool s2, .slice A3 n3 c3, .slice A4 n4 c4]); refine (loadQ _ q2 L _ ((h2.below hbd).below hb5) (by omega)).mono ?_; rintro e w6 ⟨_, rfl, hq6, hb6⟩; have hq5 := hq5.below hb6; obtain ⟨s6, A7, m7, c7, A8, m8, c8, rfl⟩ := hq6.form; have Kw6 : w6.cell? ⟨w.heap.size, 0, none⟩ = some (.bool s1) ∧ w6.cell? ⟨w.heap.size, 1, none⟩ = some (.slice A1 n1 c1) ∧ w6.cell? ⟨w.heap.size, 2, none⟩ = some (.slice A2 n2 c2) ∧ w6.cell? ⟨w.heap.size + 1, 0, none⟩ = some (.bool s2) ∧ w6.cell? ⟨w.heap.size + 1, 1, none⟩ = some (.slice A3 n3 c3) ∧ w6.cell? ⟨w.heap.size + 1, 2, none⟩ = some (.slice A4 n4 c4) := ⟨(((B1.drew).below hb5).below hb6).cell 0, (((B1.drew).below hb5).below hb6).cell 1, (((B1.drew).below hb5).below hb6).cell 2, (((B2.drew).below hb5).below hb6).cell 0, (((B2.drew).below hb5).below hb6).cell 1, (((B2.drew).below hb5).below hb6).cell 2⟩)
      | (go_at_call 101; refine (cmpQ _ _ q1 q2 (2 * L + 1) _ hq5 hq6 (by omega)).mono ?_; rintro e w7 ⟨rfl, hb7⟩; have Kw7 : w7.cell? ⟨w.heap.size, 0, none⟩ = some (.bool s1) ∧ w7.cell? ⟨w.heap.size, 1, none⟩ = some (.slice A1 n1 c1) ∧ w7.cell? ⟨w.heap.size, 2, none⟩ = some (.slice A2 n2 c2) ∧ w7.cell? ⟨w.heap.size + 1, 0, none⟩ = some (.bool s2) ∧ w7.cell? ⟨w.heap.size + 1, 1, none⟩ = some (.slice A3 n3 c3) ∧ w7.cell? ⟨w.heap.size + 1, 2, none⟩ = some (.slice A4 n4 c4) := ⟨((((B1.drew).below hb5).below hb6).below hb7).cell 0, ((((B1.drew).below hb5).below hb6).below hb7).cell 1, ((((B1.drew).below hb5).below hb6).below hb7).cell 2, ((((B2.drew).below hb5).below hb6).below hb7).cell 0, ((((B2.drew).below hb5).below hb6).below hb7).cell 1, ((((B2.drew).below hb5).below hb6).below hb7).cell 2⟩))

  have hz := ((hw0.drew.trans (hb5.mono hw0.drew.size)).trans (hb6.mono (hw0.drew.trans (hb5.mono hw0.drew.size)).size)).trans (hb7.mono ((hw0.drew.trans (hb5.mono hw0.drew.size)).trans (hb6.mono (hw0.drew.trans (hb5.mono hw0.drew.size)).size)).size)
  go_wp2
  go_ret
  exact ⟨rfl, hz⟩

set_option maxHeartbeats 3200000 in
theorem SizeQ (v1 : Value) (q1 : Rat) (L : Nat) (w : World) (h1 : AF w v1 q1 L) (hL : 2 * L + 1 ≤ 300000) :
    Calls Tryz.prog 27 #[v1] w fun e w' => e = .returned (.int .i64 (((bl q1.num.natAbs + bl q1.den : Nat)) : Int)) ∧ Below w.heap.size w w' := by
  obtain ⟨s1, A1, n1, c1, A2, n2, c2, rfl⟩ := h1.form
  have B1 := Blk.new w 24 #[.bool s1, .slice A1 n1 c1, .slice A2 n2 c2]
  have hw0 := (Below.refl w.heap.size w).alloc (Nat.le_refl _) (.cells #[.bool s1, .slice A1 n1 c1, .slice A2 n2 c2] 24)
  have h1 := h1.below hw0
  go_enter Tryz.func27, Tryz.ntmps27
  go_wp2_with fail
  generalize w.alloc (.cells #[.bool s1, .slice A1 n1 c1, .slice A2 n2 c2] 24) = w1 at *
  refine (loadQ _ q1 L _ h1 (by omega)).mono ?_
  rintro e w2 ⟨_, rfl, hq2, hb2⟩
  obtain ⟨s2, A3, n3, c3, A4, n4, c4, rfl⟩ := hq2.form
  have hw2 := hw0.trans (hb2.mono hw0.size)
  go_wp2_with fail
  refine (reduceQ _ q1 _ _ hq2 (by omega)).mono ?_
  rintro r w4 ⟨_, rfl, ⟨_, _, rfl, ⟨A5, m5, c5, us5, rfl, hD5, hN5, hv5, hm5⟩, ⟨A6, m6, c6, us6, rfl, hD6, hN6, hv6, hm6⟩⟩, hb4⟩
  generalize decide (q1.num < 0) = sb at *
  have hw4 := hw2.trans (hb4.mono hw2.size)
  have E3 := Blk.new w4 67 #[.bool sb, .slice A5 m5 c5, .slice A6 m6 c6]
  have hD5 := hD5.alloc (.cells #[.bool sb, .slice A5 m5 c5, .slice A6 m6 c6] 67)
  have hD6 := hD6.alloc (.cells #[.bool sb, .slice A5 m5 c5, .slice A6 m6 c6] 67)
  have hw5 := hw4.alloc hw4.size (.cells #[.bool sb, .slice A5 m5 c5, .slice A6 m6 c6] 67)
  go_wp2_with fail
  generalize w4.alloc (.cells #[.bool sb, .slice A5 m5 c5, .slice A6 m6 c6] 67) = w5 at *
  have q1' : w5.cell? ⟨w4.heap.size, 1, none⟩ = some (.slice A5 m5 c5) := E3.cell 1
  have q2' : w5.cell? ⟨w4.heap.size, 2, none⟩ = some (.slice A6 m6 c6) := E3.cell 2
  have s1 := Lib.hid (fun i => size64_any A5 m5 c5 us5 (w5.drewN i) (hD5.drewN i) hN5 (by omega) _ hv5)
  have s2 := Lib.hid (fun i => size64_any A6 m6 c6 us6 (w5.drewN i) (hD6.drewN i) hN6 (by omega) _ hv6)
  have b5 : bl q1.num.natAbs ≤ 64 * m5 := by rw [← hv5.out]; exact bl_len hD5
  have b6 : bl q1.den ≤ 64 * m6 := by rw [← hv6.out]; exact bl_len hD6
  have e1 : IntKind.i64.wrap ((bl q1.num.natAbs : Nat) + (bl q1.den : Nat)) = ((bl q1.num.natAbs + bl q1.den : Nat) : Int) := IntWalk.i64_in _ (by omega)
  clear hD5 hD6 hN5 hN6 hv5 hv6
  go_quiet (first | (go_at_call_of 79 (Value.slice A5 m5 c5); exact Calls.quiet_of_same ((s1.out _).mono fun _ _ h => ⟨h.1, h.2.symm⟩)) | (go_at_call_of 79 (Value.slice A6 m6 c6); exact Calls.quiet_of_same ((s2.out _).mono fun _ _ h => ⟨h.1, h.2.symm⟩)))
  go_wp2
  go_ret
  exact ⟨by first | rw [e1] | rfl, bel_drewN hw5 nq⟩
end Go.Proofs.YtbgihlfblmilmaaGreatDoor.Fr
