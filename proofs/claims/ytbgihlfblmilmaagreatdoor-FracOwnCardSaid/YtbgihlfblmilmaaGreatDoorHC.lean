/- The reference's sums. -/
import Derived.Test.YtbgihlfblmilmaaGreatDoorHB
namespace Go.Proofs.YtbgihlfblmilmaaGreatDoor.Fr
open Go.RowKit Num

theorem fq_add {s1 s2 : Bool} {N1 D1 N2 D2 : Nat} (h1 : 0 < D1) (h2 : 0 < D2) : fq s1 N1 D1 + fq s2 N2 D2 = mkRat ((if s1 then -((N1 * D2 : Nat) : Int) else ((N1 * D2 : Nat) : Int)) + (if s2 then -((N2 * D1 : Nat) : Int) else ((N2 * D1 : Nat) : Int))) (D1 * D2) := by
  unfold fq
  rw [Rat.mkRat_add_mkRat _ _ (by omega) (by omega)]
  congr 1
  cases s1 <;> cases s2 <;> simp only [if_true, if_false, Bool.false_eq_true, Int.natCast_mul, Int.neg_mul]
theorem add_same {s : Bool} {N1 D1 N2 D2 : Nat} (h1 : 0 < D1) (h2 : 0 < D2) : fq s (N1 * D2 + N2 * D1) (D1 * D2) = fq s N1 D1 + fq s N2 D2 := by
  rw [fq_add h1 h2]; unfold fq; congr 1
  cases s <;> simp only [if_true, if_false, Bool.false_eq_true] <;> omega
theorem add_ge_q {s1 s2 : Bool} {N1 D1 N2 D2 : Nat} (h1 : 0 < D1) (h2 : 0 < D2) (hne : s1 ≠ s2) (hle : N2 * D1 ≤ N1 * D2) : fq s1 (N1 * D2 - N2 * D1) (D1 * D2) = fq s1 N1 D1 + fq s2 N2 D2 := by
  rw [fq_add h1 h2]; unfold fq; congr 1
  cases s1 <;> cases s2 <;> first | exact absurd rfl hne | (simp only [if_true, if_false, Bool.false_eq_true]; omega)
theorem add_lt_q {s1 s2 : Bool} {N1 D1 N2 D2 : Nat} (h1 : 0 < D1) (h2 : 0 < D2) (hne : s1 ≠ s2) (hle : N1 * D2 ≤ N2 * D1) : fq s2 (N2 * D1 - N1 * D2) (D1 * D2) = fq s1 N1 D1 + fq s2 N2 D2 := by
  rw [fq_add h1 h2]; unfold fq; congr 1
  cases s1 <;> cases s2 <;> first | exact absurd rfl hne | (simp only [if_true, if_false, Bool.false_eq_true]; omega)
theorem cq_sub (a b : Rat) : qs (a + -b) = cq a b := by
  have e1 : (a + -b < 0) = (a < b) := by
    apply propext
    rw [Rat.lt_iff_sub_pos (a + -b) 0, Rat.lt_iff_sub_pos a b]
    rw [show (0 : Rat) - (a + -b) = b - a by grind]
  have e2 : (0 < a + -b) = (b < a) := by
    apply propext
    rw [Rat.lt_iff_sub_pos b a, show a + -b = a - b by grind]
  unfold qs cq
  simp only [e1, e2]


set_option maxHeartbeats 6400000 in
set_option maxRecDepth 100000 in
theorem refAddQ (v1 v2 : Value) (q1 q2 : Rat) (L1 L2 : Nat) (w : World) (h1 : AF w v1 q1 L1) (h2 : AF w v2 q2 L2) (hL : L1 + L2 ≤ 50000) :
    Calls Tryz.prog 37 #[v1, v2] w (RetFQ w (q1 + q2) (L1 + L2 + 3)) := by
  obtain ⟨s1, A1, n1, c1, A2, n2, c2, x1, x2, rfl, d1, d2, l1, l2, hq1⟩ := h1
  obtain ⟨s2, A3, n3, c3, A4, n4, c4, x3, x4, rfl, d3, d4, l3, l4, hq2⟩ := h2
  have B1 := ((Blk.new w 24 #[.bool s1, .slice A1 n1 c1, .slice A2 n2 c2]).alloc (.cells #[.bool s2, .slice A3 n3 c3, .slice A4 n4 c4] 24)).alloc (.cells #[.bool false, .slice none 0 0, .slice none 0 0] 24)
  have B2 := (Blk.new (w.alloc (.cells #[.bool s1, .slice A1 n1 c1, .slice A2 n2 c2] 24)) 24 #[.bool s2, .slice A3 n3 c3, .slice A4 n4 c4]).alloc (.cells #[.bool false, .slice none 0 0, .slice none 0 0] 24)
  have B3 := Blk.new ((w.alloc (.cells #[.bool s1, .slice A1 n1 c1, .slice A2 n2 c2] 24)).alloc (.cells #[.bool s2, .slice A3 n3 c3, .slice A4 n4 c4] 24)) 24 #[.bool false, .slice none 0 0, .slice none 0 0]
  have e1 : (w.alloc (.cells #[.bool s1, .slice A1 n1 c1, .slice A2 n2 c2] 24)).heap.size = w.heap.size + 1 := by simp
  have e2 : ((w.alloc (.cells #[.bool s1, .slice A1 n1 c1, .slice A2 n2 c2] 24)).alloc (.cells #[.bool s2, .slice A3 n3 c3, .slice A4 n4 c4] 24)).heap.size = w.heap.size + 1 + 1 := by simp
  have hw0 := (((Below.refl w.heap.size w).alloc (Nat.le_refl _) (.cells #[.bool s1, .slice A1 n1 c1, .slice A2 n2 c2] 24)).alloc (by rw [e1]; omega) (.cells #[.bool s2, .slice A3 n3 c3, .slice A4 n4 c4] 24)).alloc (by rw [e2]; omega) (.cells #[.bool false, .slice none 0 0, .slice none 0 0] 24)
  rw [e1] at B2
  rw [e2] at B3
  clear e1 e2
  have d1 := d1.below hw0
  have d2 := d2.below hw0
  have d3 := d3.below hw0
  have d4 := d4.below hw0
  go_enter Tryz.func37, Tryz.ntmps37
  go_upto_region 1 with fail
  generalize ((w.alloc (.cells #[.bool s1, .slice A1 n1 c1, .slice A2 n2 c2] 24)).alloc (.cells #[.bool s2, .slice A3 n3 c3, .slice A4 n4 c4] 24)).alloc (.cells #[.bool false, .slice none 0 0, .slice none 0 0] 24) = w1 at *
  have hbd : Below w1.heap.size w1 w1.drew := (Below.refl _ _).drew
  have K1 : w1.cell? ⟨w.heap.size, 0, none⟩ = some (.bool s1) ∧ w1.cell? ⟨w.heap.size, 1, none⟩ = some (.slice A1 n1 c1) ∧ w1.cell? ⟨w.heap.size, 2, none⟩ = some (.slice A2 n2 c2) ∧ w1.cell? ⟨w.heap.size + 1, 0, none⟩ = some (.bool s2) ∧ w1.cell? ⟨w.heap.size + 1, 1, none⟩ = some (.slice A3 n3 c3) ∧ w1.cell? ⟨w.heap.size + 1, 2, none⟩ = some (.slice A4 n4 c4) := ⟨B1.cell 0, B1.cell 1, B1.cell 2, B2.cell 0, B2.cell 1, B2.cell 2⟩
  obtain ⟨k0, k1, k2, k3, k4, k5⟩ := K1
  go_region_held3 (fun wx => wx.cell? ⟨w.heap.size, 0, none⟩ = some (.bool s1) ∧ wx.cell? ⟨w.heap.size, 1, none⟩ = some (.slice A1 n1 c1) ∧ wx.cell? ⟨w.heap.size, 2, none⟩ = some (.slice A2 n2 c2) ∧ wx.cell? ⟨w.heap.size + 1, 0, none⟩ = some (.bool s2) ∧ wx.cell? ⟨w.heap.size + 1, 1, none⟩ = some (.slice A3 n3 c3) ∧ wx.cell? ⟨w.heap.size + 1, 2, none⟩ = some (.slice A4 n4 c4))
    (first | exact ⟨k0, k1, k2, k3, k4, k5⟩ | exact Kw5 | exact Kw6 | exact Kw7 | exact Kw8 | exact Kw9 | exact Kw10 | exact Kw11 | exact Kw12 | exact Kw13)
    (first
      | (go_at_call_of 89 (Value.slice A1 n1 c1); refine (trimB _ _ _ _ _ ((d1).below hbd)).mono ?_; rintro e w5 ⟨m5, y5, rfl, D5, N5, V5, M5, hb5⟩; have Kw5 : w5.cell? ⟨w.heap.size, 0, none⟩ = some (.bool s1) ∧ w5.cell? ⟨w.heap.size, 1, none⟩ = some (.slice A1 n1 c1) ∧ w5.cell? ⟨w.heap.size, 2, none⟩ = some (.slice A2 n2 c2) ∧ w5.cell? ⟨w.heap.size + 1, 0, none⟩ = some (.bool s2) ∧ w5.cell? ⟨w.heap.size + 1, 1, none⟩ = some (.slice A3 n3 c3) ∧ w5.cell? ⟨w.heap.size + 1, 2, none⟩ = some (.slice A4 n4 c4) := ⟨((B1.drew).below hb5).cell 0, ((B1.drew).below hb5).cell 1, ((B1.drew).below hb5).cell 2, ((B2.drew).below hb5).cell 0, ((B2.drew).below hb5).cell 1, ((B2.drew).below hb5).cell 2⟩)
      | (go_at_call_of 81 (Value.agg #[.bool s2, .slice A3 n3 c3, .slice A4 n4 c4]); refine (lowQ _ _ _ _ _ _ _ _ _ (((d4).below hbd).below hb5)).mono ?_; rintro e w6 ⟨A6, m6, c6, y6, rfl, D6, N6, V6, M6, hb6⟩; have Kw6 : w6.cell? ⟨w.heap.size, 0, none⟩ = some (.bool s1) ∧ w6.cell? ⟨w.heap.size, 1, none⟩ = some (.slice A1 n1 c1) ∧ w6.cell? ⟨w.heap.size, 2, none⟩ = some (.slice A2 n2 c2) ∧ w6.cell? ⟨w.heap.size + 1, 0, none⟩ = some (.bool s2) ∧ w6.cell? ⟨w.heap.size + 1, 1, none⟩ = some (.slice A3 n3 c3) ∧ w6.cell? ⟨w.heap.size + 1, 2, none⟩ = some (.slice A4 n4 c4) := ⟨(((B1.drew).below hb5).below hb6).cell 0, (((B1.drew).below hb5).below hb6).cell 1, (((B1.drew).below hb5).below hb6).cell 2, (((B2.drew).below hb5).below hb6).cell 0, (((B2.drew).below hb5).below hb6).cell 1, (((B2.drew).below hb5).below hb6).cell 2⟩)
      | (go_at_call_of 93 (Value.slice A1 m5 c1); refine (times_any _ _ _ _ _ _ _ _ _ (D5.below hb6) (D6) (by omega) (by omega)).mono ?_; rintro e w7 ⟨A7, m7, c7, y7, rfl, D7, N7, V7, M7, hb7⟩; have Kw7 : w7.cell? ⟨w.heap.size, 0, none⟩ = some (.bool s1) ∧ w7.cell? ⟨w.heap.size, 1, none⟩ = some (.slice A1 n1 c1) ∧ w7.cell? ⟨w.heap.size, 2, none⟩ = some (.slice A2 n2 c2) ∧ w7.cell? ⟨w.heap.size + 1, 0, none⟩ = some (.bool s2) ∧ w7.cell? ⟨w.heap.size + 1, 1, none⟩ = some (.slice A3 n3 c3) ∧ w7.cell? ⟨w.heap.size + 1, 2, none⟩ = some (.slice A4 n4 c4) := ⟨((((B1.drew).below hb5).below hb6).below hb7).cell 0, ((((B1.drew).below hb5).below hb6).below hb7).cell 1, ((((B1.drew).below hb5).below hb6).below hb7).cell 2, ((((B2.drew).below hb5).below hb6).below hb7).cell 0, ((((B2.drew).below hb5).below hb6).below hb7).cell 1, ((((B2.drew).below hb5).below hb6).below hb7).cell 2⟩)
      | (go_at_call_of 89 (Value.slice A3 n3 c3); refine (trimB _ _ _ _ _ (((((d3).below hbd).below hb5).below hb6).below hb7)).mono ?_; rintro e w8 ⟨m8, y8, rfl, D8, N8, V8, M8, hb8⟩; have Kw8 : w8.cell? ⟨w.heap.size, 0, none⟩ = some (.bool s1) ∧ w8.cell? ⟨w.heap.size, 1, none⟩ = some (.slice A1 n1 c1) ∧ w8.cell? ⟨w.heap.size, 2, none⟩ = some (.slice A2 n2 c2) ∧ w8.cell? ⟨w.heap.size + 1, 0, none⟩ = some (.bool s2) ∧ w8.cell? ⟨w.heap.size + 1, 1, none⟩ = some (.slice A3 n3 c3) ∧ w8.cell? ⟨w.heap.size + 1, 2, none⟩ = some (.slice A4 n4 c4) := ⟨(((((B1.drew).below hb5).below hb6).below hb7).below hb8).cell 0, (((((B1.drew).below hb5).below hb6).below hb7).below hb8).cell 1, (((((B1.drew).below hb5).below hb6).below hb7).below hb8).cell 2, (((((B2.drew).below hb5).below hb6).below hb7).below hb8).cell 0, (((((B2.drew).below hb5).below hb6).below hb7).below hb8).cell 1, (((((B2.drew).below hb5).below hb6).below hb7).below hb8).cell 2⟩)
      | (go_at_call_of 81 (Value.agg #[.bool s1, .slice A1 n1 c1, .slice A2 n2 c2]); refine (lowQ _ _ _ _ _ _ _ _ _ ((((((d2).below hbd).below hb5).below hb6).below hb7).below hb8)).mono ?_; rintro e w9 ⟨A9, m9, c9, y9, rfl, D9, N9, V9, M9, hb9⟩; have Kw9 : w9.cell? ⟨w.heap.size, 0, none⟩ = some (.bool s1) ∧ w9.cell? ⟨w.heap.size, 1, none⟩ = some (.slice A1 n1 c1) ∧ w9.cell? ⟨w.heap.size, 2, none⟩ = some (.slice A2 n2 c2) ∧ w9.cell? ⟨w.heap.size + 1, 0, none⟩ = some (.bool s2) ∧ w9.cell? ⟨w.heap.size + 1, 1, none⟩ = some (.slice A3 n3 c3) ∧ w9.cell? ⟨w.heap.size + 1, 2, none⟩ = some (.slice A4 n4 c4) := ⟨((((((B1.drew).below hb5).below hb6).below hb7).below hb8).below hb9).cell 0, ((((((B1.drew).below hb5).below hb6).below hb7).below hb8).below hb9).cell 1, ((((((B1.drew).below hb5).below hb6).below hb7).below hb8).below hb9).cell 2, ((((((B2.drew).below hb5).below hb6).below hb7).below hb8).below hb9).cell 0, ((((((B2.drew).below hb5).below hb6).below hb7).below hb8).below hb9).cell 1, ((((((B2.drew).below hb5).below hb6).below hb7).below hb8).below hb9).cell 2⟩)
      | (go_at_call_of 93 (Value.slice A3 m8 c3); refine (times_any _ _ _ _ _ _ _ _ _ (D8.below hb9) (D9) (by omega) (by omega)).mono ?_; rintro e w10 ⟨A10, m10, c10, y10, rfl, D10, N10, V10, M10, hb10⟩; have Kw10 : w10.cell? ⟨w.heap.size, 0, none⟩ = some (.bool s1) ∧ w10.cell? ⟨w.heap.size, 1, none⟩ = some (.slice A1 n1 c1) ∧ w10.cell? ⟨w.heap.size, 2, none⟩ = some (.slice A2 n2 c2) ∧ w10.cell? ⟨w.heap.size + 1, 0, none⟩ = some (.bool s2) ∧ w10.cell? ⟨w.heap.size + 1, 1, none⟩ = some (.slice A3 n3 c3) ∧ w10.cell? ⟨w.heap.size + 1, 2, none⟩ = some (.slice A4 n4 c4) := ⟨(((((((B1.drew).below hb5).below hb6).below hb7).below hb8).below hb9).below hb10).cell 0, (((((((B1.drew).below hb5).below hb6).below hb7).below hb8).below hb9).below hb10).cell 1, (((((((B1.drew).below hb5).below hb6).below hb7).below hb8).below hb9).below hb10).cell 2, (((((((B2.drew).below hb5).below hb6).below hb7).below hb8).below hb9).below hb10).cell 0, (((((((B2.drew).below hb5).below hb6).below hb7).below hb8).below hb9).below hb10).cell 1, (((((((B2.drew).below hb5).below hb6).below hb7).below hb8).below hb9).below hb10).cell 2⟩)
      | (go_at_call_of 81 (Value.agg #[.bool s1, .slice A1 n1 c1, .slice A2 n2 c2]); refine (lowQ _ _ _ _ _ _ _ _ _ ((((((((d2).below hbd).below hb5).below hb6).below hb7).below hb8).below hb9).below hb10)).mono ?_; rintro e w11 ⟨A11, m11, c11, y11, rfl, D11, N11, V11, M11, hb11⟩; have Kw11 : w11.cell? ⟨w.heap.size, 0, none⟩ = some (.bool s1) ∧ w11.cell? ⟨w.heap.size, 1, none⟩ = some (.slice A1 n1 c1) ∧ w11.cell? ⟨w.heap.size, 2, none⟩ = some (.slice A2 n2 c2) ∧ w11.cell? ⟨w.heap.size + 1, 0, none⟩ = some (.bool s2) ∧ w11.cell? ⟨w.heap.size + 1, 1, none⟩ = some (.slice A3 n3 c3) ∧ w11.cell? ⟨w.heap.size + 1, 2, none⟩ = some (.slice A4 n4 c4) := ⟨((((((((B1.drew).below hb5).below hb6).below hb7).below hb8).below hb9).below hb10).below hb11).cell 0, ((((((((B1.drew).below hb5).below hb6).below hb7).below hb8).below hb9).below hb10).below hb11).cell 1, ((((((((B1.drew).below hb5).below hb6).below hb7).below hb8).below hb9).below hb10).below hb11).cell 2, ((((((((B2.drew).below hb5).below hb6).below hb7).below hb8).below hb9).below hb10).below hb11).cell 0, ((((((((B2.drew).below hb5).below hb6).below hb7).below hb8).below hb9).below hb10).below hb11).cell 1, ((((((((B2.drew).below hb5).below hb6).below hb7).below hb8).below hb9).below hb10).below hb11).cell 2⟩)
      | (go_at_call_of 81 (Value.agg #[.bool s2, .slice A3 n3 c3, .slice A4 n4 c4]); refine (lowQ _ _ _ _ _ _ _ _ _ (((((((((d4).below hbd).below hb5).below hb6).below hb7).below hb8).below hb9).below hb10).below hb11)).mono ?_; rintro e w12 ⟨A12, m12, c12, y12, rfl, D12, N12, V12, M12, hb12⟩; have Kw12 : w12.cell? ⟨w.heap.size, 0, none⟩ = some (.bool s1) ∧ w12.cell? ⟨w.heap.size, 1, none⟩ = some (.slice A1 n1 c1) ∧ w12.cell? ⟨w.heap.size, 2, none⟩ = some (.slice A2 n2 c2) ∧ w12.cell? ⟨w.heap.size + 1, 0, none⟩ = some (.bool s2) ∧ w12.cell? ⟨w.heap.size + 1, 1, none⟩ = some (.slice A3 n3 c3) ∧ w12.cell? ⟨w.heap.size + 1, 2, none⟩ = some (.slice A4 n4 c4) := ⟨(((((((((B1.drew).below hb5).below hb6).below hb7).below hb8).below hb9).below hb10).below hb11).below hb12).cell 0, (((((((((B1.drew).below hb5).below hb6).below hb7).below hb8).below hb9).below hb10).below hb11).below hb12).cell 1, (((((((((B1.drew).below hb5).below hb6).below hb7).below hb8).below hb9).below hb10).below hb11).below hb12).cell 2, (((((((((B2.drew).below hb5).below hb6).below hb7).below hb8).below hb9).below hb10).below hb11).below hb12).cell 0, (((((((((B2.drew).below hb5).below hb6).below hb7).below hb8).below hb9).below hb10).below hb11).below hb12).cell 1, (((((((((B2.drew).below hb5).below hb6).below hb7).below hb8).below hb9).below hb10).below hb11).below hb12).cell 2⟩)
      | (go_at_call_of 93 (Value.slice A11 m11 c11); refine (times_any _ _ _ _ _ _ _ _ _ (D11.below hb12) (D12) (by omega) (by omega)).mono ?_; rintro e w13 ⟨A13, m13, c13, y13, rfl, D13, N13, V13, M13, hb13⟩; have Kw13 : w13.cell? ⟨w.heap.size, 0, none⟩ = some (.bool s1) ∧ w13.cell? ⟨w.heap.size, 1, none⟩ = some (.slice A1 n1 c1) ∧ w13.cell? ⟨w.heap.size, 2, none⟩ = some (.slice A2 n2 c2) ∧ w13.cell? ⟨w.heap.size + 1, 0, none⟩ = some (.bool s2) ∧ w13.cell? ⟨w.heap.size + 1, 1, none⟩ = some (.slice A3 n3 c3) ∧ w13.cell? ⟨w.heap.size + 1, 2, none⟩ = some (.slice A4 n4 c4) := ⟨((((((((((B1.drew).below hb5).below hb6).below hb7).below hb8).below hb9).below hb10).below hb11).below hb12).below hb13).cell 0, ((((((((((B1.drew).below hb5).below hb6).below hb7).below hb8).below hb9).below hb10).below hb11).below hb12).below hb13).cell 1, ((((((((((B1.drew).below hb5).below hb6).below hb7).below hb8).below hb9).below hb10).below hb11).below hb12).below hb13).cell 2, ((((((((((B2.drew).below hb5).below hb6).below hb7).below hb8).below hb9).below hb10).below hb11).below hb12).below hb13).cell 0, ((((((((((B2.drew).below hb5).below hb6).below hb7).below hb8).below hb9).below hb10).below hb11).below hb12).below hb13).cell 1, ((((((((((B2.drew).below hb5).below hb6).below hb7).below hb8).below hb9).below hb10).below hb11).below hb12).below hb13).cell 2⟩))
  have z0 := hw0.drew
  have z1 := z0.trans (hb5.mono z0.size)
  have z2 := z1.trans (hb6.mono z1.size)
  have z3 := z2.trans (hb7.mono z2.size)
  have z4 := z3.trans (hb8.mono z3.size)
  have z5 := z4.trans (hb9.mono z4.size)
  have z6 := z5.trans (hb10.mono z5.size)
  have z7 := z6.trans (hb11.mono z6.size)
  have z8 := z7.trans (hb12.mono z7.size)
  have z9 := z8.trans (hb13.mono z8.size)

  have C1 := (((((((((B1.drew.below hb5).below hb6).below hb7).below hb8).below hb9).below hb10).below hb11).below hb12).below hb13)
  have C2 := (((((((((B2.drew.below hb5).below hb6).below hb7).below hb8).below hb9).below hb10).below hb11).below hb12).below hb13)
  have C3 := (((((((((B3.drew.below hb5).below hb6).below hb7).below hb8).below hb9).below hb10).below hb11).below hb12).below hb13)
  have D7 := ((((((D7.below hb8).below hb9).below hb10).below hb11).below hb12).below hb13)
  have D10 := (((D10.below hb11).below hb12).below hb13)
  have V7 := Lib.hid (show vl (bs .u32) y7 = vl (bs .u32) x1 * dn (vl (bs .u32) x4) by rw [V7.out, V5.out, V6.out])
  have V10 := Lib.hid (show vl (bs .u32) y10 = vl (bs .u32) x3 * dn (vl (bs .u32) x2) by rw [V10.out, V8.out, V9.out])
  have V13 := Lib.hid (show vl (bs .u32) y13 = dn (vl (bs .u32) x2) * dn (vl (bs .u32) x4) by rw [V13.out, V11.out, V12.out])
  clear hb5 hb6 hb7 hb8 hb9 hb10 hb11 hb12 hb13 Kw5 Kw6 Kw7 Kw8 Kw9 Kw10 Kw11 Kw12 Kw13 B1 B2 B3 D5 D6 D8 D9 D11 D12 N5 N6 N8 N9 N11 N12 V5 V6 V8 V9 V11 V12 d1 d2 d3 d4 k0 k1 k2 k3 k4 k5
  have r0 := C1.cell 0
  have r3 := C2.cell 0
  have hzz := z9
  clear z0 z1 z2 z3 z4 z5 z6 z7 z8 z9 hbd hw0
  have Z := Lib.hid (And.intro (dn_pos' (vl (bs .u32) x2)) (dn_pos' (vl (bs .u32) x4)))
  have hfin : ∀ (wz : World), Below w13.heap.size w13 wz → Below w.heap.size w wz := fun wz hb => hzz.trans (hb.mono hzz.size)
  have hfin := Lib.hid hfin

  by_cases hs : s1 = s2
  · subst hs
    go_upto_region 3 with fail
    have hq8a := hzz
    have K1 : w13.cell? ⟨w.heap.size, 0, none⟩ = some (.bool s1) ∧ w13.cell? ⟨w.heap.size, 1, none⟩ = some (.slice A1 n1 c1) ∧ w13.cell? ⟨w.heap.size, 2, none⟩ = some (.slice A2 n2 c2) ∧ w13.cell? ⟨w.heap.size + 1, 0, none⟩ = some (.bool s1) ∧ w13.cell? ⟨w.heap.size + 1, 1, none⟩ = some (.slice A3 n3 c3) ∧ w13.cell? ⟨w.heap.size + 1, 2, none⟩ = some (.slice A4 n4 c4) := ⟨C1.cell 0, C1.cell 1, C1.cell 2, C2.cell 0, C2.cell 1, C2.cell 2⟩
    obtain ⟨k0, k1, k2, k3, k4, k5⟩ := K1
    go_region_held3 (fun wx => wx.cell? ⟨w.heap.size, 0, none⟩ = some (.bool s1) ∧ wx.cell? ⟨w.heap.size, 1, none⟩ = some (.slice A1 n1 c1) ∧ wx.cell? ⟨w.heap.size, 2, none⟩ = some (.slice A2 n2 c2) ∧ wx.cell? ⟨w.heap.size + 1, 0, none⟩ = some (.bool s1) ∧ wx.cell? ⟨w.heap.size + 1, 1, none⟩ = some (.slice A3 n3 c3) ∧ wx.cell? ⟨w.heap.size + 1, 2, none⟩ = some (.slice A4 n4 c4))
      (first | exact ⟨k0, k1, k2, k3, k4, k5⟩ | exact Kw14 | exact Kw15 | exact K9.out _ _ _)
      (first
        | (go_at_call 91; refine (plus_any _ _ _ _ _ _ _ _ _ D7.drew D10.drew (by omega) (by omega)).mono ?_; rintro e w14 ⟨A14, m14, c14, y14, rfl, D14, N14, V14, M14, hb14⟩; have Kw14 : w14.cell? ⟨w.heap.size, 0, none⟩ = some (.bool s1) ∧ w14.cell? ⟨w.heap.size, 1, none⟩ = some (.slice A1 n1 c1) ∧ w14.cell? ⟨w.heap.size, 2, none⟩ = some (.slice A2 n2 c2) ∧ w14.cell? ⟨w.heap.size + 1, 0, none⟩ = some (.bool s1) ∧ w14.cell? ⟨w.heap.size + 1, 1, none⟩ = some (.slice A3 n3 c3) ∧ w14.cell? ⟨w.heap.size + 1, 2, none⟩ = some (.slice A4 n4 c4) := ⟨((C1.drew).below hb14).cell 0, ((C1.drew).below hb14).cell 1, ((C1.drew).below hb14).cell 2, ((C2.drew).below hb14).cell 0, ((C2.drew).below hb14).cell 1, ((C2.drew).below hb14).cell 2⟩)
        | (go_at_call 77; refine (make1Q _ _ _ _ _ _ _ _ _ _ D14 ((D13.drew).below hb14) (by omega) (by omega)).mono ?_; rintro e w15 ⟨_, rfl, hq8, hb15⟩; rw [V14.out, V7.out, V10.out, V13.out, dn_mul, add_same Z.out.1 Z.out.2, hq1.out, hq2.out] at hq8; have hq8 := hq8.le (show max m14 m13 + 1 ≤ L1 + L2 + 3 by omega); obtain ⟨s8, A15, m15, c15, A16, m16, c16, rfl⟩ := hq8.form; have Kw15 : w15.cell? ⟨w.heap.size, 0, none⟩ = some (.bool s1) ∧ w15.cell? ⟨w.heap.size, 1, none⟩ = some (.slice A1 n1 c1) ∧ w15.cell? ⟨w.heap.size, 2, none⟩ = some (.slice A2 n2 c2) ∧ w15.cell? ⟨w.heap.size + 1, 0, none⟩ = some (.bool s1) ∧ w15.cell? ⟨w.heap.size + 1, 1, none⟩ = some (.slice A3 n3 c3) ∧ w15.cell? ⟨w.heap.size + 1, 2, none⟩ = some (.slice A4 n4 c4) := ⟨(((C1.drew).below hb14).below hb15).cell 0, (((C1.drew).below hb14).below hb15).cell 1, (((C1.drew).below hb14).below hb15).cell 2, (((C2.drew).below hb14).below hb15).cell 0, (((C2.drew).below hb14).below hb15).cell 1, (((C2.drew).below hb14).below hb15).cell 2⟩; have K9 := Lib.hid (show ∀ a b d, (((w15.setCell ⟨w.heap.size + 1 + 1, 0, none⟩ a).setCell ⟨w.heap.size + 1 + 1, 1, none⟩ b).setCell ⟨w.heap.size + 1 + 1, 2, none⟩ d).cell? ⟨w.heap.size, 0, none⟩ = some (.bool s1) ∧ (((w15.setCell ⟨w.heap.size + 1 + 1, 0, none⟩ a).setCell ⟨w.heap.size + 1 + 1, 1, none⟩ b).setCell ⟨w.heap.size + 1 + 1, 2, none⟩ d).cell? ⟨w.heap.size, 1, none⟩ = some (.slice A1 n1 c1) ∧ (((w15.setCell ⟨w.heap.size + 1 + 1, 0, none⟩ a).setCell ⟨w.heap.size + 1 + 1, 1, none⟩ b).setCell ⟨w.heap.size + 1 + 1, 2, none⟩ d).cell? ⟨w.heap.size, 2, none⟩ = some (.slice A2 n2 c2) ∧ (((w15.setCell ⟨w.heap.size + 1 + 1, 0, none⟩ a).setCell ⟨w.heap.size + 1 + 1, 1, none⟩ b).setCell ⟨w.heap.size + 1 + 1, 2, none⟩ d).cell? ⟨w.heap.size + 1, 0, none⟩ = some (.bool s1) ∧ (((w15.setCell ⟨w.heap.size + 1 + 1, 0, none⟩ a).setCell ⟨w.heap.size + 1 + 1, 1, none⟩ b).setCell ⟨w.heap.size + 1 + 1, 2, none⟩ d).cell? ⟨w.heap.size + 1, 1, none⟩ = some (.slice A3 n3 c3) ∧ (((w15.setCell ⟨w.heap.size + 1 + 1, 0, none⟩ a).setCell ⟨w.heap.size + 1 + 1, 1, none⟩ b).setCell ⟨w.heap.size + 1 + 1, 2, none⟩ d).cell? ⟨w.heap.size + 1, 2, none⟩ = some (.slice A4 n4 c4) from fun a b d => ⟨(cell_set3 _ _ _ _ _ _ (by show w.heap.size ≠ _; omega)).trans Kw15.1, (cell_set3 _ _ _ _ _ _ (by show w.heap.size ≠ _; omega)).trans Kw15.2.1, (cell_set3 _ _ _ _ _ _ (by show w.heap.size ≠ _; omega)).trans Kw15.2.2.1, (cell_set3 _ _ _ _ _ _ (by show w.heap.size + 1 ≠ _; omega)).trans Kw15.2.2.2.1, (cell_set3 _ _ _ _ _ _ (by show w.heap.size + 1 ≠ _; omega)).trans Kw15.2.2.2.2.1, (cell_set3 _ _ _ _ _ _ (by show w.heap.size + 1 ≠ _; omega)).trans Kw15.2.2.2.2.2⟩); have P3 := ((C3.drew).below hb14).below hb15; have r0 := P3.cell 0; have r1 := P3.cell 1; have r2 := P3.cell 2; have f0 := P3.frozen 0; have f1 := P3.frozen 1; have f2 := P3.frozen 2))
    have hz2 := ((hzz.drew).trans (hb14.mono hzz.drew.size)).trans (hb15.mono ((hzz.drew).trans (hb14.mono hzz.drew.size)).size)
    go_wp2
    exact ret_frac rfl rfl (((P3.set_ 0 _).set_ 1 _).set_ 2 _) rfl ⟨_, rfl, hq8.set3 P3 _ _ _, bel_set3 hz2 (by omega) _ _ _⟩

  · have hsb : (s1 == s2) = false := by rw [beq_eq_false_iff_ne]; exact hs
    go_wp2_with fail
    refine (order_any _ _ _ _ _ _ _ _ _ D7 D10).mono ?_
    rintro e w14 ⟨nd, rfl, rfl⟩
    have C1 := C1.drewN nd
    have C2 := C2.drewN nd
    have C3 := C3.drewN nd
    have D7 := D7.drewN nd
    have D10 := D10.drewN nd
    have D13 := D13.drewN nd
    have hzz := bel_drewN hzz nd
    clear hfin
    generalize w13.drewN nd = w13 at *
    rw [V7.out, V10.out]
    by_cases hlo : vl (bs .u32) x1 * dn (vl (bs .u32) x4) < vl (bs .u32) x3 * dn (vl (bs .u32) x2)
    · have ho := ord_neg hlo
      have hHlo := Lib.hid hlo
      clear hlo
      have r0 := C1.cell 0
      have r3 := C2.cell 0
      go_upto_region 6 with fail
      have hq8a := hzz
      have K1 : w13.cell? ⟨w.heap.size, 0, none⟩ = some (.bool s1) ∧ w13.cell? ⟨w.heap.size, 1, none⟩ = some (.slice A1 n1 c1) ∧ w13.cell? ⟨w.heap.size, 2, none⟩ = some (.slice A2 n2 c2) ∧ w13.cell? ⟨w.heap.size + 1, 0, none⟩ = some (.bool s2) ∧ w13.cell? ⟨w.heap.size + 1, 1, none⟩ = some (.slice A3 n3 c3) ∧ w13.cell? ⟨w.heap.size + 1, 2, none⟩ = some (.slice A4 n4 c4) := ⟨C1.cell 0, C1.cell 1, C1.cell 2, C2.cell 0, C2.cell 1, C2.cell 2⟩
      obtain ⟨k0, k1, k2, k3, k4, k5⟩ := K1
      go_region_held3 (fun wx => wx.cell? ⟨w.heap.size, 0, none⟩ = some (.bool s1) ∧ wx.cell? ⟨w.heap.size, 1, none⟩ = some (.slice A1 n1 c1) ∧ wx.cell? ⟨w.heap.size, 2, none⟩ = some (.slice A2 n2 c2) ∧ wx.cell? ⟨w.heap.size + 1, 0, none⟩ = some (.bool s2) ∧ wx.cell? ⟨w.heap.size + 1, 1, none⟩ = some (.slice A3 n3 c3) ∧ wx.cell? ⟨w.heap.size + 1, 2, none⟩ = some (.slice A4 n4 c4))
        (first | exact ⟨k0, k1, k2, k3, k4, k5⟩ | exact Kw14 | exact Kw15 | exact K9.out _ _ _)
        (first
          | (go_at_call 95; refine (minus_any _ _ _ _ _ _ _ _ _ D10.drew D7.drew (by omega) (by rw [V7.out, V10.out]; exact Nat.le_of_lt hHlo.out)).mono ?_; rintro e w14 ⟨A14, m14, c14, y14, rfl, D14, N14, V14, M14, hb14⟩; have Kw14 : w14.cell? ⟨w.heap.size, 0, none⟩ = some (.bool s1) ∧ w14.cell? ⟨w.heap.size, 1, none⟩ = some (.slice A1 n1 c1) ∧ w14.cell? ⟨w.heap.size, 2, none⟩ = some (.slice A2 n2 c2) ∧ w14.cell? ⟨w.heap.size + 1, 0, none⟩ = some (.bool s2) ∧ w14.cell? ⟨w.heap.size + 1, 1, none⟩ = some (.slice A3 n3 c3) ∧ w14.cell? ⟨w.heap.size + 1, 2, none⟩ = some (.slice A4 n4 c4) := ⟨((C1.drew).below hb14).cell 0, ((C1.drew).below hb14).cell 1, ((C1.drew).below hb14).cell 2, ((C2.drew).below hb14).cell 0, ((C2.drew).below hb14).cell 1, ((C2.drew).below hb14).cell 2⟩)
          | (go_at_call 77; refine (make1Q _ _ _ _ _ _ _ _ _ _ D14 ((D13.drew).below hb14) (by omega) (by omega)).mono ?_; rintro e w15 ⟨_, rfl, hq8, hb15⟩; rw [V14.out, V7.out, V10.out, V13.out, dn_mul, add_lt_q Z.out.1 Z.out.2 hs (Nat.le_of_lt hHlo.out), hq1.out, hq2.out] at hq8; have hq8 := hq8.le (show max m14 m13 + 1 ≤ L1 + L2 + 3 by omega); obtain ⟨s8, A15, m15, c15, A16, m16, c16, rfl⟩ := hq8.form; have Kw15 : w15.cell? ⟨w.heap.size, 0, none⟩ = some (.bool s1) ∧ w15.cell? ⟨w.heap.size, 1, none⟩ = some (.slice A1 n1 c1) ∧ w15.cell? ⟨w.heap.size, 2, none⟩ = some (.slice A2 n2 c2) ∧ w15.cell? ⟨w.heap.size + 1, 0, none⟩ = some (.bool s2) ∧ w15.cell? ⟨w.heap.size + 1, 1, none⟩ = some (.slice A3 n3 c3) ∧ w15.cell? ⟨w.heap.size + 1, 2, none⟩ = some (.slice A4 n4 c4) := ⟨(((C1.drew).below hb14).below hb15).cell 0, (((C1.drew).below hb14).below hb15).cell 1, (((C1.drew).below hb14).below hb15).cell 2, (((C2.drew).below hb14).below hb15).cell 0, (((C2.drew).below hb14).below hb15).cell 1, (((C2.drew).below hb14).below hb15).cell 2⟩; have K9 := Lib.hid (show ∀ a b d, (((w15.setCell ⟨w.heap.size + 1 + 1, 0, none⟩ a).setCell ⟨w.heap.size + 1 + 1, 1, none⟩ b).setCell ⟨w.heap.size + 1 + 1, 2, none⟩ d).cell? ⟨w.heap.size, 0, none⟩ = some (.bool s1) ∧ (((w15.setCell ⟨w.heap.size + 1 + 1, 0, none⟩ a).setCell ⟨w.heap.size + 1 + 1, 1, none⟩ b).setCell ⟨w.heap.size + 1 + 1, 2, none⟩ d).cell? ⟨w.heap.size, 1, none⟩ = some (.slice A1 n1 c1) ∧ (((w15.setCell ⟨w.heap.size + 1 + 1, 0, none⟩ a).setCell ⟨w.heap.size + 1 + 1, 1, none⟩ b).setCell ⟨w.heap.size + 1 + 1, 2, none⟩ d).cell? ⟨w.heap.size, 2, none⟩ = some (.slice A2 n2 c2) ∧ (((w15.setCell ⟨w.heap.size + 1 + 1, 0, none⟩ a).setCell ⟨w.heap.size + 1 + 1, 1, none⟩ b).setCell ⟨w.heap.size + 1 + 1, 2, none⟩ d).cell? ⟨w.heap.size + 1, 0, none⟩ = some (.bool s2) ∧ (((w15.setCell ⟨w.heap.size + 1 + 1, 0, none⟩ a).setCell ⟨w.heap.size + 1 + 1, 1, none⟩ b).setCell ⟨w.heap.size + 1 + 1, 2, none⟩ d).cell? ⟨w.heap.size + 1, 1, none⟩ = some (.slice A3 n3 c3) ∧ (((w15.setCell ⟨w.heap.size + 1 + 1, 0, none⟩ a).setCell ⟨w.heap.size + 1 + 1, 1, none⟩ b).setCell ⟨w.heap.size + 1 + 1, 2, none⟩ d).cell? ⟨w.heap.size + 1, 2, none⟩ = some (.slice A4 n4 c4) from fun a b d => ⟨(cell_set3 _ _ _ _ _ _ (by show w.heap.size ≠ _; omega)).trans Kw15.1, (cell_set3 _ _ _ _ _ _ (by show w.heap.size ≠ _; omega)).trans Kw15.2.1, (cell_set3 _ _ _ _ _ _ (by show w.heap.size ≠ _; omega)).trans Kw15.2.2.1, (cell_set3 _ _ _ _ _ _ (by show w.heap.size + 1 ≠ _; omega)).trans Kw15.2.2.2.1, (cell_set3 _ _ _ _ _ _ (by show w.heap.size + 1 ≠ _; omega)).trans Kw15.2.2.2.2.1, (cell_set3 _ _ _ _ _ _ (by show w.heap.size + 1 ≠ _; omega)).trans Kw15.2.2.2.2.2⟩); have P3 := ((C3.drew).below hb14).below hb15; have r0 := P3.cell 0; have r1 := P3.cell 1; have r2 := P3.cell 2; have f0 := P3.frozen 0; have f1 := P3.frozen 1; have f2 := P3.frozen 2))
      have hz2 := ((hzz.drew).trans (hb14.mono hzz.drew.size)).trans (hb15.mono ((hzz.drew).trans (hb14.mono hzz.drew.size)).size)
      go_wp2
      exact ret_frac rfl rfl (((P3.set_ 0 _).set_ 1 _).set_ 2 _) rfl ⟨_, rfl, hq8.set3 P3 _ _ _, bel_set3 hz2 (by omega) _ _ _⟩

    · have ho := ord_nn (Nat.le_of_not_lt hlo)
      have hHlo := Lib.hid (Nat.le_of_not_lt hlo)
      clear hlo
      have r0 := C1.cell 0
      have r3 := C2.cell 0
      go_upto_region 5 with fail
      have hq8a := hzz
      have K1 : w13.cell? ⟨w.heap.size, 0, none⟩ = some (.bool s1) ∧ w13.cell? ⟨w.heap.size, 1, none⟩ = some (.slice A1 n1 c1) ∧ w13.cell? ⟨w.heap.size, 2, none⟩ = some (.slice A2 n2 c2) ∧ w13.cell? ⟨w.heap.size + 1, 0, none⟩ = some (.bool s2) ∧ w13.cell? ⟨w.heap.size + 1, 1, none⟩ = some (.slice A3 n3 c3) ∧ w13.cell? ⟨w.heap.size + 1, 2, none⟩ = some (.slice A4 n4 c4) := ⟨C1.cell 0, C1.cell 1, C1.cell 2, C2.cell 0, C2.cell 1, C2.cell 2⟩
      obtain ⟨k0, k1, k2, k3, k4, k5⟩ := K1
      go_region_held3 (fun wx => wx.cell? ⟨w.heap.size, 0, none⟩ = some (.bool s1) ∧ wx.cell? ⟨w.heap.size, 1, none⟩ = some (.slice A1 n1 c1) ∧ wx.cell? ⟨w.heap.size, 2, none⟩ = some (.slice A2 n2 c2) ∧ wx.cell? ⟨w.heap.size + 1, 0, none⟩ = some (.bool s2) ∧ wx.cell? ⟨w.heap.size + 1, 1, none⟩ = some (.slice A3 n3 c3) ∧ wx.cell? ⟨w.heap.size + 1, 2, none⟩ = some (.slice A4 n4 c4))
        (first | exact ⟨k0, k1, k2, k3, k4, k5⟩ | exact Kw14 | exact Kw15 | exact K9.out _ _ _)
        (first
          | (go_at_call 95; refine (minus_any _ _ _ _ _ _ _ _ _ D7.drew D10.drew (by omega) (by rw [V7.out, V10.out]; exact hHlo.out)).mono ?_; rintro e w14 ⟨A14, m14, c14, y14, rfl, D14, N14, V14, M14, hb14⟩; have Kw14 : w14.cell? ⟨w.heap.size, 0, none⟩ = some (.bool s1) ∧ w14.cell? ⟨w.heap.size, 1, none⟩ = some (.slice A1 n1 c1) ∧ w14.cell? ⟨w.heap.size, 2, none⟩ = some (.slice A2 n2 c2) ∧ w14.cell? ⟨w.heap.size + 1, 0, none⟩ = some (.bool s2) ∧ w14.cell? ⟨w.heap.size + 1, 1, none⟩ = some (.slice A3 n3 c3) ∧ w14.cell? ⟨w.heap.size + 1, 2, none⟩ = some (.slice A4 n4 c4) := ⟨((C1.drew).below hb14).cell 0, ((C1.drew).below hb14).cell 1, ((C1.drew).below hb14).cell 2, ((C2.drew).below hb14).cell 0, ((C2.drew).below hb14).cell 1, ((C2.drew).below hb14).cell 2⟩)
          | (go_at_call 77; refine (make1Q _ _ _ _ _ _ _ _ _ _ D14 ((D13.drew).below hb14) (by omega) (by omega)).mono ?_; rintro e w15 ⟨_, rfl, hq8, hb15⟩; rw [V14.out, V7.out, V10.out, V13.out, dn_mul, add_ge_q Z.out.1 Z.out.2 hs hHlo.out, hq1.out, hq2.out] at hq8; have hq8 := hq8.le (show max m14 m13 + 1 ≤ L1 + L2 + 3 by omega); obtain ⟨s8, A15, m15, c15, A16, m16, c16, rfl⟩ := hq8.form; have Kw15 : w15.cell? ⟨w.heap.size, 0, none⟩ = some (.bool s1) ∧ w15.cell? ⟨w.heap.size, 1, none⟩ = some (.slice A1 n1 c1) ∧ w15.cell? ⟨w.heap.size, 2, none⟩ = some (.slice A2 n2 c2) ∧ w15.cell? ⟨w.heap.size + 1, 0, none⟩ = some (.bool s2) ∧ w15.cell? ⟨w.heap.size + 1, 1, none⟩ = some (.slice A3 n3 c3) ∧ w15.cell? ⟨w.heap.size + 1, 2, none⟩ = some (.slice A4 n4 c4) := ⟨(((C1.drew).below hb14).below hb15).cell 0, (((C1.drew).below hb14).below hb15).cell 1, (((C1.drew).below hb14).below hb15).cell 2, (((C2.drew).below hb14).below hb15).cell 0, (((C2.drew).below hb14).below hb15).cell 1, (((C2.drew).below hb14).below hb15).cell 2⟩; have K9 := Lib.hid (show ∀ a b d, (((w15.setCell ⟨w.heap.size + 1 + 1, 0, none⟩ a).setCell ⟨w.heap.size + 1 + 1, 1, none⟩ b).setCell ⟨w.heap.size + 1 + 1, 2, none⟩ d).cell? ⟨w.heap.size, 0, none⟩ = some (.bool s1) ∧ (((w15.setCell ⟨w.heap.size + 1 + 1, 0, none⟩ a).setCell ⟨w.heap.size + 1 + 1, 1, none⟩ b).setCell ⟨w.heap.size + 1 + 1, 2, none⟩ d).cell? ⟨w.heap.size, 1, none⟩ = some (.slice A1 n1 c1) ∧ (((w15.setCell ⟨w.heap.size + 1 + 1, 0, none⟩ a).setCell ⟨w.heap.size + 1 + 1, 1, none⟩ b).setCell ⟨w.heap.size + 1 + 1, 2, none⟩ d).cell? ⟨w.heap.size, 2, none⟩ = some (.slice A2 n2 c2) ∧ (((w15.setCell ⟨w.heap.size + 1 + 1, 0, none⟩ a).setCell ⟨w.heap.size + 1 + 1, 1, none⟩ b).setCell ⟨w.heap.size + 1 + 1, 2, none⟩ d).cell? ⟨w.heap.size + 1, 0, none⟩ = some (.bool s2) ∧ (((w15.setCell ⟨w.heap.size + 1 + 1, 0, none⟩ a).setCell ⟨w.heap.size + 1 + 1, 1, none⟩ b).setCell ⟨w.heap.size + 1 + 1, 2, none⟩ d).cell? ⟨w.heap.size + 1, 1, none⟩ = some (.slice A3 n3 c3) ∧ (((w15.setCell ⟨w.heap.size + 1 + 1, 0, none⟩ a).setCell ⟨w.heap.size + 1 + 1, 1, none⟩ b).setCell ⟨w.heap.size + 1 + 1, 2, none⟩ d).cell? ⟨w.heap.size + 1, 2, none⟩ = some (.slice A4 n4 c4) from fun a b d => ⟨(cell_set3 _ _ _ _ _ _ (by show w.heap.size ≠ _; omega)).trans Kw15.1, (cell_set3 _ _ _ _ _ _ (by show w.heap.size ≠ _; omega)).trans Kw15.2.1, (cell_set3 _ _ _ _ _ _ (by show w.heap.size ≠ _; omega)).trans Kw15.2.2.1, (cell_set3 _ _ _ _ _ _ (by show w.heap.size + 1 ≠ _; omega)).trans Kw15.2.2.2.1, (cell_set3 _ _ _ _ _ _ (by show w.heap.size + 1 ≠ _; omega)).trans Kw15.2.2.2.2.1, (cell_set3 _ _ _ _ _ _ (by show w.heap.size + 1 ≠ _; omega)).trans Kw15.2.2.2.2.2⟩); have P3 := ((C3.drew).below hb14).below hb15; have r0 := P3.cell 0; have r1 := P3.cell 1; have r2 := P3.cell 2; have f0 := P3.frozen 0; have f1 := P3.frozen 1; have f2 := P3.frozen 2))
      have hz2 := ((hzz.drew).trans (hb14.mono hzz.drew.size)).trans (hb15.mono ((hzz.drew).trans (hb14.mono hzz.drew.size)).size)
      go_wp2
      exact ret_frac rfl rfl (((P3.set_ 0 _).set_ 1 _).set_ 2 _) rfl ⟨_, rfl, hq8.set3 P3 _ _ _, bel_set3 hz2 (by omega) _ _ _⟩

set_option maxHeartbeats 6400000 in
set_option maxRecDepth 100000 in
theorem refSubQ (v1 v2 : Value) (q1 q2 : Rat) (L1 L2 : Nat) (w : World) (h1 : AF w v1 q1 L1) (h2 : AF w v2 q2 L2) (hL : L1 + L2 ≤ 20000) :
    Calls Tryz.prog 39 #[v1, v2] w (RetFQ w (q1 + -q2) (L1 + (L2 + 1) + 3)) := by
  obtain ⟨s1, A1, n1, c1, A2, n2, c2, rfl⟩ := h1.form
  obtain ⟨s2, A3, n3, c3, A4, n4, c4, rfl⟩ := h2.form
  have B1 := ((Blk.new w 24 #[.bool s1, .slice A1 n1 c1, .slice A2 n2 c2]).alloc (.cells #[.bool s2, .slice A3 n3 c3, .slice A4 n4 c4] 24)).alloc (.cells #[.bool false, .slice none 0 0, .slice none 0 0] 24)
  have B2 := (Blk.new (w.alloc (.cells #[.bool s1, .slice A1 n1 c1, .slice A2 n2 c2] 24)) 24 #[.bool s2, .slice A3 n3 c3, .slice A4 n4 c4]).alloc (.cells #[.bool false, .slice none 0 0, .slice none 0 0] 24)
  have B3 := Blk.new ((w.alloc (.cells #[.bool s1, .slice A1 n1 c1, .slice A2 n2 c2] 24)).alloc (.cells #[.bool s2, .slice A3 n3 c3, .slice A4 n4 c4] 24)) 24 #[.bool false, .slice none 0 0, .slice none 0 0]
  have e1 : (w.alloc (.cells #[.bool s1, .slice A1 n1 c1, .slice A2 n2 c2] 24)).heap.size = w.heap.size + 1 := by simp
  have e2 : ((w.alloc (.cells #[.bool s1, .slice A1 n1 c1, .slice A2 n2 c2] 24)).alloc (.cells #[.bool s2, .slice A3 n3 c3, .slice A4 n4 c4] 24)).heap.size = w.heap.size + 1 + 1 := by simp
  have hw0 := (((Below.refl w.heap.size w).alloc (Nat.le_refl _) (.cells #[.bool s1, .slice A1 n1 c1, .slice A2 n2 c2] 24)).alloc (by rw [e1]; omega) (.cells #[.bool s2, .slice A3 n3 c3, .slice A4 n4 c4] 24)).alloc (by rw [e2]; omega) (.cells #[.bool false, .slice none 0 0, .slice none 0 0] 24)
  rw [e1] at B2
  rw [e2] at B3
  clear e1 e2
  have h1 := h1.below hw0
  have h2 := h2.below hw0
  go_enter Tryz.func39, Tryz.ntmps39
  go_upto_region 1 with fail
  generalize ((w.alloc (.cells #[.bool s1, .slice A1 n1 c1, .slice A2 n2 c2] 24)).alloc (.cells #[.bool s2, .slice A3 n3 c3, .slice A4 n4 c4] 24)).alloc (.cells #[.bool false, .slice none 0 0, .slice none 0 0] 24) = w1 at *
  have hbd : Below w1.heap.size w1 w1.drew := (Below.refl _ _).drew
  have K1 : w1.cell? ⟨w.heap.size, 0, none⟩ = some (.bool s1) ∧ w1.cell? ⟨w.heap.size, 1, none⟩ = some (.slice A1 n1 c1) ∧ w1.cell? ⟨w.heap.size, 2, none⟩ = some (.slice A2 n2 c2) ∧ w1.cell? ⟨w.heap.size + 1, 0, none⟩ = some (.bool s2) ∧ w1.cell? ⟨w.heap.size + 1, 1, none⟩ = some (.slice A3 n3 c3) ∧ w1.cell? ⟨w.heap.size + 1, 2, none⟩ = some (.slice A4 n4 c4) := ⟨B1.cell 0, B1.cell 1, B1.cell 2, B2.cell 0, B2.cell 1, B2.cell 2⟩
  obtain ⟨k0, k1, k2, k3, k4, k5⟩ := K1
  go_region_held3 (fun wx => wx.cell? ⟨w.heap.size, 0, none⟩ = some (.bool s1) ∧ wx.cell? ⟨w.heap.size, 1, none⟩ = some (.slice A1 n1 c1) ∧ wx.cell? ⟨w.heap.size, 2, none⟩ = some (.slice A2 n2 c2) ∧ wx.cell? ⟨w.heap.size + 1, 0, none⟩ = some (.bool s2) ∧ wx.cell? ⟨w.heap.size + 1, 1, none⟩ = some (.slice A3 n3 c3) ∧ wx.cell? ⟨w.heap.size + 1, 2, none⟩ = some (.slice A4 n4 c4))
    (first | exact ⟨k0, k1, k2, k3, k4, k5⟩ | exact Kw5 | exact Kw6 | exact K9.out _ _ _)
    (first
      | (go_at_call 41; refine (refNegQ _ q2 L2 _ (h2.below hbd) (by omega)).mono ?_; rintro e w5 ⟨_, rfl, hq5, hb5⟩; have hq5 := hq5.af; obtain ⟨s5, A5, m5, c5, A6, m6, c6, rfl⟩ := hq5.form; have Kw5 : w5.cell? ⟨w.heap.size, 0, none⟩ = some (.bool s1) ∧ w5.cell? ⟨w.heap.size, 1, none⟩ = some (.slice A1 n1 c1) ∧ w5.cell? ⟨w.heap.size, 2, none⟩ = some (.slice A2 n2 c2) ∧ w5.cell? ⟨w.heap.size + 1, 0, none⟩ = some (.bool s2) ∧ w5.cell? ⟨w.heap.size + 1, 1, none⟩ = some (.slice A3 n3 c3) ∧ w5.cell? ⟨w.heap.size + 1, 2, none⟩ = some (.slice A4 n4 c4) := ⟨((B1.drew).below hb5).cell 0, ((B1.drew).below hb5).cell 1, ((B1.drew).below hb5).cell 2, ((B2.drew).below hb5).cell 0, ((B2.drew).below hb5).cell 1, ((B2.drew).below hb5).cell 2⟩)
      | (go_at_call 37; refine (refAddQ _ _ q1 (-q2) L1 (L2 + 1) _ ((h1.below hbd).below hb5) hq5 (by omega)).mono ?_; rintro e w6 ⟨_, rfl, hq8, hb6⟩; obtain ⟨s8, A13, m13, c13, A14, m14, c14, rfl⟩ := hq8.form; have Kw6 : w6.cell? ⟨w.heap.size, 0, none⟩ = some (.bool s1) ∧ w6.cell? ⟨w.heap.size, 1, none⟩ = some (.slice A1 n1 c1) ∧ w6.cell? ⟨w.heap.size, 2, none⟩ = some (.slice A2 n2 c2) ∧ w6.cell? ⟨w.heap.size + 1, 0, none⟩ = some (.bool s2) ∧ w6.cell? ⟨w.heap.size + 1, 1, none⟩ = some (.slice A3 n3 c3) ∧ w6.cell? ⟨w.heap.size + 1, 2, none⟩ = some (.slice A4 n4 c4) := ⟨(((B1.drew).below hb5).below hb6).cell 0, (((B1.drew).below hb5).below hb6).cell 1, (((B1.drew).below hb5).below hb6).cell 2, (((B2.drew).below hb5).below hb6).cell 0, (((B2.drew).below hb5).below hb6).cell 1, (((B2.drew).below hb5).below hb6).cell 2⟩; have K9 := Lib.hid (show ∀ a b d, (((w6.setCell ⟨w.heap.size + 1 + 1, 0, none⟩ a).setCell ⟨w.heap.size + 1 + 1, 1, none⟩ b).setCell ⟨w.heap.size + 1 + 1, 2, none⟩ d).cell? ⟨w.heap.size, 0, none⟩ = some (.bool s1) ∧ (((w6.setCell ⟨w.heap.size + 1 + 1, 0, none⟩ a).setCell ⟨w.heap.size + 1 + 1, 1, none⟩ b).setCell ⟨w.heap.size + 1 + 1, 2, none⟩ d).cell? ⟨w.heap.size, 1, none⟩ = some (.slice A1 n1 c1) ∧ (((w6.setCell ⟨w.heap.size + 1 + 1, 0, none⟩ a).setCell ⟨w.heap.size + 1 + 1, 1, none⟩ b).setCell ⟨w.heap.size + 1 + 1, 2, none⟩ d).cell? ⟨w.heap.size, 2, none⟩ = some (.slice A2 n2 c2) ∧ (((w6.setCell ⟨w.heap.size + 1 + 1, 0, none⟩ a).setCell ⟨w.heap.size + 1 + 1, 1, none⟩ b).setCell ⟨w.heap.size + 1 + 1, 2, none⟩ d).cell? ⟨w.heap.size + 1, 0, none⟩ = some (.bool s2) ∧ (((w6.setCell ⟨w.heap.size + 1 + 1, 0, none⟩ a).setCell ⟨w.heap.size + 1 + 1, 1, none⟩ b).setCell ⟨w.heap.size + 1 + 1, 2, none⟩ d).cell? ⟨w.heap.size + 1, 1, none⟩ = some (.slice A3 n3 c3) ∧ (((w6.setCell ⟨w.heap.size + 1 + 1, 0, none⟩ a).setCell ⟨w.heap.size + 1 + 1, 1, none⟩ b).setCell ⟨w.heap.size + 1 + 1, 2, none⟩ d).cell? ⟨w.heap.size + 1, 2, none⟩ = some (.slice A4 n4 c4) from fun a b d => ⟨(cell_set3 _ _ _ _ _ _ (by show w.heap.size ≠ _; omega)).trans Kw6.1, (cell_set3 _ _ _ _ _ _ (by show w.heap.size ≠ _; omega)).trans Kw6.2.1, (cell_set3 _ _ _ _ _ _ (by show w.heap.size ≠ _; omega)).trans Kw6.2.2.1, (cell_set3 _ _ _ _ _ _ (by show w.heap.size + 1 ≠ _; omega)).trans Kw6.2.2.2.1, (cell_set3 _ _ _ _ _ _ (by show w.heap.size + 1 ≠ _; omega)).trans Kw6.2.2.2.2.1, (cell_set3 _ _ _ _ _ _ (by show w.heap.size + 1 ≠ _; omega)).trans Kw6.2.2.2.2.2⟩); have P3 := ((B3.drew).below hb5).below hb6; have r0 := P3.cell 0; have r1 := P3.cell 1; have r2 := P3.cell 2; have f0 := P3.frozen 0; have f1 := P3.frozen 1; have f2 := P3.frozen 2))
  have z0 := hw0.drew
  have z1 := z0.trans (hb5.mono z0.size)
  have z2 := z1.trans (hb6.mono z1.size)
  go_wp2
  exact ret_frac rfl rfl (((P3.set_ 0 _).set_ 1 _).set_ 2 _) rfl ⟨_, rfl, (hq8).set3 P3 _ _ _, bel_set3 z2 (by omega) _ _ _⟩

set_option maxHeartbeats 1600000 in
theorem refCmpQ (v1 v2 : Value) (q1 q2 : Rat) (L1 L2 : Nat) (w : World) (h1 : AF w v1 q1 L1) (h2 : AF w v2 q2 L2) (hL : L1 + L2 ≤ 20000) :
    Calls Tryz.prog 51 #[v1, v2] w fun e w' => e = .returned (.int .i64 (cq q1 q2)) ∧ Below w.heap.size w w' := by
  obtain ⟨s1, A1, n1, c1, A2, n2, c2, rfl⟩ := h1.form
  obtain ⟨s2, A3, n3, c3, A4, n4, c4, rfl⟩ := h2.form
  obtain ⟨B1, B2, hw0⟩ := two_blk w 24 #[.bool s1, .slice A1 n1 c1, .slice A2 n2 c2] #[.bool s2, .slice A3 n3 c3, .slice A4 n4 c4]
  have h1 := h1.below hw0
  have h2 := h2.below hw0
  rw [← cq_sub]
  go_enter Tryz.func51, Tryz.ntmps51
  go_upto_region 1 with fail
  generalize (w.alloc (.cells #[.bool s1, .slice A1 n1 c1, .slice A2 n2 c2] 24)).alloc (.cells #[.bool s2, .slice A3 n3 c3, .slice A4 n4 c4] 24) = w1 at *
  have r0 := B1.cell 0
  have r1 := B1.cell 1
  have r2 := B1.cell 2
  have r3 := B2.cell 0
  have r4 := B2.cell 1
  have r5 := B2.cell 2
  go_wp2_with fail
  refine (refSubQ _ _ q1 q2 L1 L2 _ h1 h2 hL).mono ?_
  rintro e w2 ⟨_, rfl, hq2, hb2⟩
  have hw2 := hw0.trans (hb2.mono hw0.size)
  obtain ⟨s5, A5, m5, c5, A6, m6, c6, rfl⟩ := hq2.form
  go_wp2_with fail
  refine (refSignQ _ _ _ _ hq2.af).mono ?_
  rintro e w3 ⟨rfl, hb3⟩
  have hw3 := hw2.trans (hb3.mono hw2.size)
  go_wp2
  go_ret
  exact ⟨rfl, hw3⟩
end Go.Proofs.YtbgihlfblmilmaaGreatDoor.Fr
