/- The reference's products, quotients, sums. -/
import Derived.Test.YtbgihlfblmilmaaGreatDoorR1
namespace Go.Proofs.YtbgihlfblmilmaaGreatDoor.Fr
open Go.RowKit Num

theorem dn_mul (a b : Nat) : dn (dn a * dn b) = dn a * dn b := dn_pos (Nat.mul_pos (dn_pos' a) (dn_pos' b))
theorem fq_mul2 (s1 s2 : Bool) (N1 D1 N2 D2 : Nat) : fq s1 N1 D1 * fq s2 N2 D2 = fq (!(s1 == s2)) (N1 * N2) (D1 * D2) := fq_mul s1 s2 N1 D1 N2 D2
theorem dn_dn (a : Nat) : dn (dn a) = dn a := dn_pos (dn_pos' a)


set_option maxHeartbeats 6400000 in
set_option maxRecDepth 100000 in
theorem refMulQ (v1 v2 : Value) (q1 q2 : Rat) (L1 L2 : Nat) (w : World) (h1 : AF w v1 q1 L1) (h2 : AF w v2 q2 L2) (hL : L1 + L2 ≤ 50000) :
    Calls Tryz.prog 44 #[v1, v2] w (RetFQ w (q1 * q2) (L1 + L2 + 3)) := by
  obtain ⟨s1, A1, n1, c1, A2, n2, c2, x1, x2, rfl, d1, d2, l1, l2, hq1⟩ := h1
  obtain ⟨s2, A3, n3, c3, A4, n4, c4, x3, x4, rfl, d3, d4, l3, l4, hq2⟩ := h2
  have B1 := ((Blk.new w 24 #[.bool s1, .slice A1 n1 c1, .slice A2 n2 c2]).alloc (.cells #[.bool s2, .slice A3 n3 c3, .slice A4 n4 c4] 24)).alloc (.cells #[.bool false, .slice none 0 0, .slice none 0 0] 24)
  have B2 := (Blk.new (w.alloc (.cells #[.bool s1, .slice A1 n1 c1, .slice A2 n2 c2] 24)) 24 #[.bool s2, .slice A3 n3 c3, .slice A4 n4 c4]).alloc (.cells #[.bool false, .slice none 0 0, .slice none 0 0] 24)
  have B3 := Blk.new ((w.alloc (.cells #[.bool s1, .slice A1 n1 c1, .slice A2 n2 c2] 24)).alloc (.cells #[.bool s2, .slice A3 n3 c3, .slice A4 n4 c4] 24)) 24 #[.bool false, .slice none 0 0, .slice none 0 0]
  have e1 : (w.alloc (.cells #[.bool s1, .slice A1 n1 c1, .slice A2 n2 c2] 24)).heap.size = w.heap.size + 1 := by simp
  have e2 : ((w.alloc (.cells #[.bool s1, .slice A1 n1 c1, .slice A2 n2 c2] 24)).alloc (.cells #[.bool s2, .slice A3 n3 c3, .slice A4 n4 c4] 24)).heap.size = w.heap.size + 1 + 1 := by simp
  have hw0 := (((Below.refl w.heap.size w).alloc (Nat.le_refl _) (.cells #[.bool s1, .slice A1 n1 c1, .slice A2 n2 c2] 24)).alloc (by rw [e1]; omega) (.cells #[.bool s2, .slice A3 n3 c3, .slice A4 n4 c4] 24)).alloc (by rw [e2]; omega) (.cells #[.bool false, .slice none 0 0, .slice none 0 0] 24)
  rw [e1] at B2
  rw [e2] at B3
  clear e1 e2
  have d1 := d1.below hw0
  have d2 := d2.below hw0
  have d3 := d3.below hw0
  have d4 := d4.below hw0
  go_enter Tryz.func44, Tryz.ntmps44
  go_upto_region 1 with fail
  generalize ((w.alloc (.cells #[.bool s1, .slice A1 n1 c1, .slice A2 n2 c2] 24)).alloc (.cells #[.bool s2, .slice A3 n3 c3, .slice A4 n4 c4] 24)).alloc (.cells #[.bool false, .slice none 0 0, .slice none 0 0] 24) = w1 at *
  have hbd : Below w1.heap.size w1 w1.drew := (Below.refl _ _).drew
  have K1 : w1.cell? ⟨w.heap.size, 0, none⟩ = some (.bool s1) ∧ w1.cell? ⟨w.heap.size, 1, none⟩ = some (.slice A1 n1 c1) ∧ w1.cell? ⟨w.heap.size, 2, none⟩ = some (.slice A2 n2 c2) ∧ w1.cell? ⟨w.heap.size + 1, 0, none⟩ = some (.bool s2) ∧ w1.cell? ⟨w.heap.size + 1, 1, none⟩ = some (.slice A3 n3 c3) ∧ w1.cell? ⟨w.heap.size + 1, 2, none⟩ = some (.slice A4 n4 c4) := ⟨B1.cell 0, B1.cell 1, B1.cell 2, B2.cell 0, B2.cell 1, B2.cell 2⟩
  obtain ⟨k0, k1, k2, k3, k4, k5⟩ := K1
  go_region_held3 (fun wx => wx.cell? ⟨w.heap.size, 0, none⟩ = some (.bool s1) ∧ wx.cell? ⟨w.heap.size, 1, none⟩ = some (.slice A1 n1 c1) ∧ wx.cell? ⟨w.heap.size, 2, none⟩ = some (.slice A2 n2 c2) ∧ wx.cell? ⟨w.heap.size + 1, 0, none⟩ = some (.bool s2) ∧ wx.cell? ⟨w.heap.size + 1, 1, none⟩ = some (.slice A3 n3 c3) ∧ wx.cell? ⟨w.heap.size + 1, 2, none⟩ = some (.slice A4 n4 c4))
    (first | exact ⟨k0, k1, k2, k3, k4, k5⟩ | exact Kw5 | exact Kw6 | exact Kw7 | exact Kw8 | exact Kw9 | exact Kw10 | exact Kw11 | exact K9.out _ _ _)
    (first
      | (go_at_call_of 89 (Value.slice A1 n1 c1); refine (trimB _ _ _ _ _ ((d1).below hbd)).mono ?_; rintro e w5 ⟨m5, y5, rfl, D5, N5, V5, M5, hb5⟩; have Kw5 : w5.cell? ⟨w.heap.size, 0, none⟩ = some (.bool s1) ∧ w5.cell? ⟨w.heap.size, 1, none⟩ = some (.slice A1 n1 c1) ∧ w5.cell? ⟨w.heap.size, 2, none⟩ = some (.slice A2 n2 c2) ∧ w5.cell? ⟨w.heap.size + 1, 0, none⟩ = some (.bool s2) ∧ w5.cell? ⟨w.heap.size + 1, 1, none⟩ = some (.slice A3 n3 c3) ∧ w5.cell? ⟨w.heap.size + 1, 2, none⟩ = some (.slice A4 n4 c4) := ⟨((B1.drew).below hb5).cell 0, ((B1.drew).below hb5).cell 1, ((B1.drew).below hb5).cell 2, ((B2.drew).below hb5).cell 0, ((B2.drew).below hb5).cell 1, ((B2.drew).below hb5).cell 2⟩)
      | (go_at_call_of 89 (Value.slice A3 n3 c3); refine (trimB _ _ _ _ _ (((d3).below hbd).below hb5)).mono ?_; rintro e w6 ⟨m6, y6, rfl, D6, N6, V6, M6, hb6⟩; have Kw6 : w6.cell? ⟨w.heap.size, 0, none⟩ = some (.bool s1) ∧ w6.cell? ⟨w.heap.size, 1, none⟩ = some (.slice A1 n1 c1) ∧ w6.cell? ⟨w.heap.size, 2, none⟩ = some (.slice A2 n2 c2) ∧ w6.cell? ⟨w.heap.size + 1, 0, none⟩ = some (.bool s2) ∧ w6.cell? ⟨w.heap.size + 1, 1, none⟩ = some (.slice A3 n3 c3) ∧ w6.cell? ⟨w.heap.size + 1, 2, none⟩ = some (.slice A4 n4 c4) := ⟨(((B1.drew).below hb5).below hb6).cell 0, (((B1.drew).below hb5).below hb6).cell 1, (((B1.drew).below hb5).below hb6).cell 2, (((B2.drew).below hb5).below hb6).cell 0, (((B2.drew).below hb5).below hb6).cell 1, (((B2.drew).below hb5).below hb6).cell 2⟩)
      | (go_at_call_of 93 (Value.slice A1 m5 c1); refine (times_any _ _ _ _ _ _ _ _ _ (D5.below hb6) (D6) (by omega) (by omega)).mono ?_; rintro e w7 ⟨A7, m7, c7, y7, rfl, D7, N7, V7, M7, hb7⟩; have Kw7 : w7.cell? ⟨w.heap.size, 0, none⟩ = some (.bool s1) ∧ w7.cell? ⟨w.heap.size, 1, none⟩ = some (.slice A1 n1 c1) ∧ w7.cell? ⟨w.heap.size, 2, none⟩ = some (.slice A2 n2 c2) ∧ w7.cell? ⟨w.heap.size + 1, 0, none⟩ = some (.bool s2) ∧ w7.cell? ⟨w.heap.size + 1, 1, none⟩ = some (.slice A3 n3 c3) ∧ w7.cell? ⟨w.heap.size + 1, 2, none⟩ = some (.slice A4 n4 c4) := ⟨((((B1.drew).below hb5).below hb6).below hb7).cell 0, ((((B1.drew).below hb5).below hb6).below hb7).cell 1, ((((B1.drew).below hb5).below hb6).below hb7).cell 2, ((((B2.drew).below hb5).below hb6).below hb7).cell 0, ((((B2.drew).below hb5).below hb6).below hb7).cell 1, ((((B2.drew).below hb5).below hb6).below hb7).cell 2⟩)
      | (go_at_call_of 81 (Value.agg #[.bool s1, .slice A1 n1 c1, .slice A2 n2 c2]); refine (lowQ _ _ _ _ _ _ _ _ _ (((((d2).below hbd).below hb5).below hb6).below hb7)).mono ?_; rintro e w8 ⟨A8, m8, c8, y8, rfl, D8, N8, V8, M8, hb8⟩; have Kw8 : w8.cell? ⟨w.heap.size, 0, none⟩ = some (.bool s1) ∧ w8.cell? ⟨w.heap.size, 1, none⟩ = some (.slice A1 n1 c1) ∧ w8.cell? ⟨w.heap.size, 2, none⟩ = some (.slice A2 n2 c2) ∧ w8.cell? ⟨w.heap.size + 1, 0, none⟩ = some (.bool s2) ∧ w8.cell? ⟨w.heap.size + 1, 1, none⟩ = some (.slice A3 n3 c3) ∧ w8.cell? ⟨w.heap.size + 1, 2, none⟩ = some (.slice A4 n4 c4) := ⟨(((((B1.drew).below hb5).below hb6).below hb7).below hb8).cell 0, (((((B1.drew).below hb5).below hb6).below hb7).below hb8).cell 1, (((((B1.drew).below hb5).below hb6).below hb7).below hb8).cell 2, (((((B2.drew).below hb5).below hb6).below hb7).below hb8).cell 0, (((((B2.drew).below hb5).below hb6).below hb7).below hb8).cell 1, (((((B2.drew).below hb5).below hb6).below hb7).below hb8).cell 2⟩)
      | (go_at_call_of 81 (Value.agg #[.bool s2, .slice A3 n3 c3, .slice A4 n4 c4]); refine (lowQ _ _ _ _ _ _ _ _ _ ((((((d4).below hbd).below hb5).below hb6).below hb7).below hb8)).mono ?_; rintro e w9 ⟨A9, m9, c9, y9, rfl, D9, N9, V9, M9, hb9⟩; have Kw9 : w9.cell? ⟨w.heap.size, 0, none⟩ = some (.bool s1) ∧ w9.cell? ⟨w.heap.size, 1, none⟩ = some (.slice A1 n1 c1) ∧ w9.cell? ⟨w.heap.size, 2, none⟩ = some (.slice A2 n2 c2) ∧ w9.cell? ⟨w.heap.size + 1, 0, none⟩ = some (.bool s2) ∧ w9.cell? ⟨w.heap.size + 1, 1, none⟩ = some (.slice A3 n3 c3) ∧ w9.cell? ⟨w.heap.size + 1, 2, none⟩ = some (.slice A4 n4 c4) := ⟨((((((B1.drew).below hb5).below hb6).below hb7).below hb8).below hb9).cell 0, ((((((B1.drew).below hb5).below hb6).below hb7).below hb8).below hb9).cell 1, ((((((B1.drew).below hb5).below hb6).below hb7).below hb8).below hb9).cell 2, ((((((B2.drew).below hb5).below hb6).below hb7).below hb8).below hb9).cell 0, ((((((B2.drew).below hb5).below hb6).below hb7).below hb8).below hb9).cell 1, ((((((B2.drew).below hb5).below hb6).below hb7).below hb8).below hb9).cell 2⟩)
      | (go_at_call_of 93 (Value.slice A8 m8 c8); refine (times_any _ _ _ _ _ _ _ _ _ (D8.below hb9) (D9) (by omega) (by omega)).mono ?_; rintro e w10 ⟨A10, m10, c10, y10, rfl, D10, N10, V10, M10, hb10⟩; have Kw10 : w10.cell? ⟨w.heap.size, 0, none⟩ = some (.bool s1) ∧ w10.cell? ⟨w.heap.size, 1, none⟩ = some (.slice A1 n1 c1) ∧ w10.cell? ⟨w.heap.size, 2, none⟩ = some (.slice A2 n2 c2) ∧ w10.cell? ⟨w.heap.size + 1, 0, none⟩ = some (.bool s2) ∧ w10.cell? ⟨w.heap.size + 1, 1, none⟩ = some (.slice A3 n3 c3) ∧ w10.cell? ⟨w.heap.size + 1, 2, none⟩ = some (.slice A4 n4 c4) := ⟨(((((((B1.drew).below hb5).below hb6).below hb7).below hb8).below hb9).below hb10).cell 0, (((((((B1.drew).below hb5).below hb6).below hb7).below hb8).below hb9).below hb10).cell 1, (((((((B1.drew).below hb5).below hb6).below hb7).below hb8).below hb9).below hb10).cell 2, (((((((B2.drew).below hb5).below hb6).below hb7).below hb8).below hb9).below hb10).cell 0, (((((((B2.drew).below hb5).below hb6).below hb7).below hb8).below hb9).below hb10).cell 1, (((((((B2.drew).below hb5).below hb6).below hb7).below hb8).below hb9).below hb10).cell 2⟩)
      | (go_at_call 77; refine (make1Q _ _ _ _ _ _ _ _ _ _ (((D7.below hb8).below hb9).below hb10) D10 (by omega) (by omega)).mono ?_; rintro e w11 ⟨_, rfl, hq8, hb11⟩; rw [V7.out, V5.out, V6.out, V10.out, V8.out, V9.out, dn_mul, ← fq_mul2, hq1.out, hq2.out] at hq8; have hq8 := hq8.le (show max m7 m10 + 1 ≤ L1 + L2 + 3 by omega); obtain ⟨s8, A13, m13, c13, A14, m14, c14, rfl⟩ := hq8.form; have Kw11 : w11.cell? ⟨w.heap.size, 0, none⟩ = some (.bool s1) ∧ w11.cell? ⟨w.heap.size, 1, none⟩ = some (.slice A1 n1 c1) ∧ w11.cell? ⟨w.heap.size, 2, none⟩ = some (.slice A2 n2 c2) ∧ w11.cell? ⟨w.heap.size + 1, 0, none⟩ = some (.bool s2) ∧ w11.cell? ⟨w.heap.size + 1, 1, none⟩ = some (.slice A3 n3 c3) ∧ w11.cell? ⟨w.heap.size + 1, 2, none⟩ = some (.slice A4 n4 c4) := ⟨((((((((B1.drew).below hb5).below hb6).below hb7).below hb8).below hb9).below hb10).below hb11).cell 0, ((((((((B1.drew).below hb5).below hb6).below hb7).below hb8).below hb9).below hb10).below hb11).cell 1, ((((((((B1.drew).below hb5).below hb6).below hb7).below hb8).below hb9).below hb10).below hb11).cell 2, ((((((((B2.drew).below hb5).below hb6).below hb7).below hb8).below hb9).below hb10).below hb11).cell 0, ((((((((B2.drew).below hb5).below hb6).below hb7).below hb8).below hb9).below hb10).below hb11).cell 1, ((((((((B2.drew).below hb5).below hb6).below hb7).below hb8).below hb9).below hb10).below hb11).cell 2⟩; have K9 := Lib.hid (show ∀ a b d, (((w11.setCell ⟨w.heap.size + 1 + 1, 0, none⟩ a).setCell ⟨w.heap.size + 1 + 1, 1, none⟩ b).setCell ⟨w.heap.size + 1 + 1, 2, none⟩ d).cell? ⟨w.heap.size, 0, none⟩ = some (.bool s1) ∧ (((w11.setCell ⟨w.heap.size + 1 + 1, 0, none⟩ a).setCell ⟨w.heap.size + 1 + 1, 1, none⟩ b).setCell ⟨w.heap.size + 1 + 1, 2, none⟩ d).cell? ⟨w.heap.size, 1, none⟩ = some (.slice A1 n1 c1) ∧ (((w11.setCell ⟨w.heap.size + 1 + 1, 0, none⟩ a).setCell ⟨w.heap.size + 1 + 1, 1, none⟩ b).setCell ⟨w.heap.size + 1 + 1, 2, none⟩ d).cell? ⟨w.heap.size, 2, none⟩ = some (.slice A2 n2 c2) ∧ (((w11.setCell ⟨w.heap.size + 1 + 1, 0, none⟩ a).setCell ⟨w.heap.size + 1 + 1, 1, none⟩ b).setCell ⟨w.heap.size + 1 + 1, 2, none⟩ d).cell? ⟨w.heap.size + 1, 0, none⟩ = some (.bool s2) ∧ (((w11.setCell ⟨w.heap.size + 1 + 1, 0, none⟩ a).setCell ⟨w.heap.size + 1 + 1, 1, none⟩ b).setCell ⟨w.heap.size + 1 + 1, 2, none⟩ d).cell? ⟨w.heap.size + 1, 1, none⟩ = some (.slice A3 n3 c3) ∧ (((w11.setCell ⟨w.heap.size + 1 + 1, 0, none⟩ a).setCell ⟨w.heap.size + 1 + 1, 1, none⟩ b).setCell ⟨w.heap.size + 1 + 1, 2, none⟩ d).cell? ⟨w.heap.size + 1, 2, none⟩ = some (.slice A4 n4 c4) from fun a b d => ⟨(cell_set3 _ _ _ _ _ _ (by show w.heap.size ≠ _; omega)).trans Kw11.1, (cell_set3 _ _ _ _ _ _ (by show w.heap.size ≠ _; omega)).trans Kw11.2.1, (cell_set3 _ _ _ _ _ _ (by show w.heap.size ≠ _; omega)).trans Kw11.2.2.1, (cell_set3 _ _ _ _ _ _ (by show w.heap.size + 1 ≠ _; omega)).trans Kw11.2.2.2.1, (cell_set3 _ _ _ _ _ _ (by show w.heap.size + 1 ≠ _; omega)).trans Kw11.2.2.2.2.1, (cell_set3 _ _ _ _ _ _ (by show w.heap.size + 1 ≠ _; omega)).trans Kw11.2.2.2.2.2⟩); have P3 := (((((((B3.drew).below hb5).below hb6).below hb7).below hb8).below hb9).below hb10).below hb11; have r0 := P3.cell 0; have r1 := P3.cell 1; have r2 := P3.cell 2; have f0 := P3.frozen 0; have f1 := P3.frozen 1; have f2 := P3.frozen 2))
  have z0 := hw0.drew
  have z1 := z0.trans (hb5.mono z0.size)
  have z2 := z1.trans (hb6.mono z1.size)
  have z3 := z2.trans (hb7.mono z2.size)
  have z4 := z3.trans (hb8.mono z3.size)
  have z5 := z4.trans (hb9.mono z4.size)
  have z6 := z5.trans (hb10.mono z5.size)
  have z7 := z6.trans (hb11.mono z6.size)
  go_wp2
  exact ret_frac rfl rfl (((P3.set_ 0 _).set_ 1 _).set_ 2 _) rfl ⟨_, rfl, hq8.set3 P3 _ _ _, bel_set3 z7 (by omega) _ _ _⟩

set_option maxHeartbeats 6400000 in
set_option maxRecDepth 100000 in
theorem refInvQ (v1 : Value) (q1 : Rat) (L : Nat) (w : World) (h1 : AF w v1 q1 L) (hL : L ≤ 50000) (hz : q1 ≠ 0) :
    Calls Tryz.prog 98 #[v1] w (RetFQ w q1⁻¹ (L + 2)) := by
  obtain ⟨s1, A1, n1, c1, A2, n2, c2, x1, x2, rfl, d1, d2, l1, l2, hq1⟩ := h1
  have hX : 0 < vl (bs .u32) x1 := by
    rcases Nat.eq_zero_or_pos (vl (bs .u32) x1) with h0 | h0
    · exact absurd (by rw [← hq1.out]; exact (fq_zero (dn_pos' _)).2 h0) hz
    · exact h0
  have hinv := Lib.hid (show fq s1 (dn (vl (bs .u32) x2)) (dn (vl (bs .u32) x1)) = q1⁻¹ by rw [dn_pos hX, ← hq1.out, fq_inv hX (dn_pos' _)])
  obtain ⟨B1, B3, hw0⟩ := two_blk w 24 #[.bool s1, .slice A1 n1 c1, .slice A2 n2 c2] #[.bool false, .slice none 0 0, .slice none 0 0]
  have d1 := d1.below hw0
  have d2 := d2.below hw0
  go_enter Tryz.func98, Tryz.ntmps98
  go_upto_region 1 with fail
  generalize (w.alloc (.cells #[.bool s1, .slice A1 n1 c1, .slice A2 n2 c2] 24)).alloc (.cells #[.bool false, .slice none 0 0, .slice none 0 0] 24) = w1 at *
  have hbd : Below w1.heap.size w1 w1.drew := (Below.refl _ _).drew
  have K1 : w1.cell? ⟨w.heap.size, 0, none⟩ = some (.bool s1) ∧ w1.cell? ⟨w.heap.size, 1, none⟩ = some (.slice A1 n1 c1) ∧ w1.cell? ⟨w.heap.size, 2, none⟩ = some (.slice A2 n2 c2) := ⟨B1.cell 0, B1.cell 1, B1.cell 2⟩
  obtain ⟨k0, k1, k2⟩ := K1
  go_region_held3 (fun wx => wx.cell? ⟨w.heap.size, 0, none⟩ = some (.bool s1) ∧ wx.cell? ⟨w.heap.size, 1, none⟩ = some (.slice A1 n1 c1) ∧ wx.cell? ⟨w.heap.size, 2, none⟩ = some (.slice A2 n2 c2))
    (first | exact ⟨k0, k1, k2⟩ | exact Kw5 | exact Kw6 | exact Kw7 | exact K9.out _ _ _)
    (first
      | (go_at_call_of 81 (Value.agg #[.bool s1, .slice A1 n1 c1, .slice A2 n2 c2]); refine (lowQ _ _ _ _ _ _ _ _ _ ((d2).below hbd)).mono ?_; rintro e w5 ⟨A5, m5, c5, y5, rfl, D5, N5, V5, M5, hb5⟩; have Kw5 : w5.cell? ⟨w.heap.size, 0, none⟩ = some (.bool s1) ∧ w5.cell? ⟨w.heap.size, 1, none⟩ = some (.slice A1 n1 c1) ∧ w5.cell? ⟨w.heap.size, 2, none⟩ = some (.slice A2 n2 c2) := ⟨((B1.drew).below hb5).cell 0, ((B1.drew).below hb5).cell 1, ((B1.drew).below hb5).cell 2⟩)
      | (go_at_call_of 89 (Value.slice A1 n1 c1); refine (trimB _ _ _ _ _ (((d1).below hbd).below hb5)).mono ?_; rintro e w6 ⟨m6, y6, rfl, D6, N6, V6, M6, hb6⟩; have Kw6 : w6.cell? ⟨w.heap.size, 0, none⟩ = some (.bool s1) ∧ w6.cell? ⟨w.heap.size, 1, none⟩ = some (.slice A1 n1 c1) ∧ w6.cell? ⟨w.heap.size, 2, none⟩ = some (.slice A2 n2 c2) := ⟨(((B1.drew).below hb5).below hb6).cell 0, (((B1.drew).below hb5).below hb6).cell 1, (((B1.drew).below hb5).below hb6).cell 2⟩)
      | (go_at_call 77; refine (make1Q _ _ _ _ _ _ _ _ _ _ (D5.below hb6) D6 (by omega) (by omega)).mono ?_; rintro e w7 ⟨_, rfl, hq8, hb7⟩; rw [V5.out, V6.out, hinv.out] at hq8; have hq8 := hq8.le (show max m5 m6 + 1 ≤ L + 2 by omega); obtain ⟨s8, A13, m13, c13, A14, m14, c14, rfl⟩ := hq8.form; have Kw7 : w7.cell? ⟨w.heap.size, 0, none⟩ = some (.bool s1) ∧ w7.cell? ⟨w.heap.size, 1, none⟩ = some (.slice A1 n1 c1) ∧ w7.cell? ⟨w.heap.size, 2, none⟩ = some (.slice A2 n2 c2) := ⟨((((B1.drew).below hb5).below hb6).below hb7).cell 0, ((((B1.drew).below hb5).below hb6).below hb7).cell 1, ((((B1.drew).below hb5).below hb6).below hb7).cell 2⟩; have K9 := Lib.hid (show ∀ a b d, (((w7.setCell ⟨w.heap.size + 1, 0, none⟩ a).setCell ⟨w.heap.size + 1, 1, none⟩ b).setCell ⟨w.heap.size + 1, 2, none⟩ d).cell? ⟨w.heap.size, 0, none⟩ = some (.bool s1) ∧ (((w7.setCell ⟨w.heap.size + 1, 0, none⟩ a).setCell ⟨w.heap.size + 1, 1, none⟩ b).setCell ⟨w.heap.size + 1, 2, none⟩ d).cell? ⟨w.heap.size, 1, none⟩ = some (.slice A1 n1 c1) ∧ (((w7.setCell ⟨w.heap.size + 1, 0, none⟩ a).setCell ⟨w.heap.size + 1, 1, none⟩ b).setCell ⟨w.heap.size + 1, 2, none⟩ d).cell? ⟨w.heap.size, 2, none⟩ = some (.slice A2 n2 c2) from fun a b d => ⟨(cell_set3 _ _ _ _ _ _ (by show w.heap.size ≠ _; omega)).trans Kw7.1, (cell_set3 _ _ _ _ _ _ (by show w.heap.size ≠ _; omega)).trans Kw7.2.1, (cell_set3 _ _ _ _ _ _ (by show w.heap.size ≠ _; omega)).trans Kw7.2.2⟩); have P3 := (((B3.drew).below hb5).below hb6).below hb7; have r0 := P3.cell 0; have r1 := P3.cell 1; have r2 := P3.cell 2; have f0 := P3.frozen 0; have f1 := P3.frozen 1; have f2 := P3.frozen 2))
  have z0 := hw0.drew
  have z1 := z0.trans (hb5.mono z0.size)
  have z2 := z1.trans (hb6.mono z1.size)
  have z3 := z2.trans (hb7.mono z2.size)
  go_wp2
  exact ret_frac rfl rfl (((P3.set_ 0 _).set_ 1 _).set_ 2 _) rfl ⟨_, rfl, (hq8).set3 P3 _ _ _, bel_set3 z3 (by omega) _ _ _⟩

set_option maxHeartbeats 6400000 in
set_option maxRecDepth 100000 in
theorem refDivQ (v1 v2 : Value) (q1 q2 : Rat) (L1 L2 : Nat) (w : World) (h1 : AF w v1 q1 L1) (h2 : AF w v2 q2 L2) (hL : L1 + L2 ≤ 20000) (hz : q2 ≠ 0) :
    Calls Tryz.prog 46 #[v1, v2] w (RetFQ w (q1 * q2⁻¹) (L1 + (L2 + 2) + 3)) := by
  obtain ⟨s1, A1, n1, c1, A2, n2, c2, rfl⟩ := h1.form
  obtain ⟨s2, A3, n3, c3, A4, n4, c4, rfl⟩ := h2.form
  have B1 := ((Blk.new w 24 #[.bool s1, .slice A1 n1 c1, .slice A2 n2 c2]).alloc (.cells #[.bool s2, .slice A3 n3 c3, .slice A4 n4 c4] 24)).alloc (.cells #[.bool false, .slice none 0 0, .slice none 0 0] 24)
  have B2 := (Blk.new (w.alloc (.cells #[.bool s1, .slice A1 n1 c1, .slice A2 n2 c2] 24)) 24 #[.bool s2, .slice A3 n3 c3, .slice A4 n4 c4]).alloc (.cells #[.bool false, .slice none 0 0, .slice none 0 0] 24)
  have B3 := Blk.new ((w.alloc (.cells #[.bool s1, .slice A1 n1 c1, .slice A2 n2 c2] 24)).alloc (.cells #[.bool s2, .slice A3 n3 c3, .slice A4 n4 c4] 24)) 24 #[.bool false, .slice none 0 0, .slice none 0 0]
  have e1 : (w.alloc (.cells #[.bool s1, .slice A1 n1 c1, .slice A2 n2 c2] 24)).heap.size = w.heap.size + 1 := by simp
  have e2 : ((w.alloc (.cells #[.bool s1, .slice A1 n1 c1, .slice A2 n2 c2] 24)).alloc (.cells #[.bool s2, .slice A3 n3 c3, .slice A4 n4 c4] 24)).heap.size = w.heap.size + 1 + 1 := by simp
  have hw0 := (((Below.refl w.heap.size w).alloc (Nat.le_refl _) (.cells #[.bool s1, .slice A1 n1 c1, .slice A2 n2 c2] 24)).alloc (by rw [e1]; omega) (.cells #[.bool s2, .slice A3 n3 c3, .slice A4 n4 c4] 24)).alloc (by rw [e2]; omega) (.cells #[.bool false, .slice none 0 0, .slice none 0 0] 24)
  rw [e1] at B2
  rw [e2] at B3
  clear e1 e2
  have h1 := h1.below hw0
  have h2 := h2.below hw0
  go_enter Tryz.func46, Tryz.ntmps46
  go_upto_region 1 with fail
  generalize ((w.alloc (.cells #[.bool s1, .slice A1 n1 c1, .slice A2 n2 c2] 24)).alloc (.cells #[.bool s2, .slice A3 n3 c3, .slice A4 n4 c4] 24)).alloc (.cells #[.bool false, .slice none 0 0, .slice none 0 0] 24) = w1 at *
  have hbd : Below w1.heap.size w1 w1.drew := (Below.refl _ _).drew
  have K1 : w1.cell? ⟨w.heap.size, 0, none⟩ = some (.bool s1) ∧ w1.cell? ⟨w.heap.size, 1, none⟩ = some (.slice A1 n1 c1) ∧ w1.cell? ⟨w.heap.size, 2, none⟩ = some (.slice A2 n2 c2) ∧ w1.cell? ⟨w.heap.size + 1, 0, none⟩ = some (.bool s2) ∧ w1.cell? ⟨w.heap.size + 1, 1, none⟩ = some (.slice A3 n3 c3) ∧ w1.cell? ⟨w.heap.size + 1, 2, none⟩ = some (.slice A4 n4 c4) := ⟨B1.cell 0, B1.cell 1, B1.cell 2, B2.cell 0, B2.cell 1, B2.cell 2⟩
  obtain ⟨k0, k1, k2, k3, k4, k5⟩ := K1
  go_region_held3 (fun wx => wx.cell? ⟨w.heap.size, 0, none⟩ = some (.bool s1) ∧ wx.cell? ⟨w.heap.size, 1, none⟩ = some (.slice A1 n1 c1) ∧ wx.cell? ⟨w.heap.size, 2, none⟩ = some (.slice A2 n2 c2) ∧ wx.cell? ⟨w.heap.size + 1, 0, none⟩ = some (.bool s2) ∧ wx.cell? ⟨w.heap.size + 1, 1, none⟩ = some (.slice A3 n3 c3) ∧ wx.cell? ⟨w.heap.size + 1, 2, none⟩ = some (.slice A4 n4 c4))
    (first | exact ⟨k0, k1, k2, k3, k4, k5⟩ | exact Kw5 | exact Kw6 | exact K9.out _ _ _)
    (first
      | (go_at_call 98; refine (refInvQ _ q2 L2 _ (h2.below hbd) (by omega) hz).mono ?_; rintro e w5 ⟨_, rfl, hq5, hb5⟩; have hq5 := hq5.af; obtain ⟨s5, A5, m5, c5, A6, m6, c6, rfl⟩ := hq5.form; have Kw5 : w5.cell? ⟨w.heap.size, 0, none⟩ = some (.bool s1) ∧ w5.cell? ⟨w.heap.size, 1, none⟩ = some (.slice A1 n1 c1) ∧ w5.cell? ⟨w.heap.size, 2, none⟩ = some (.slice A2 n2 c2) ∧ w5.cell? ⟨w.heap.size + 1, 0, none⟩ = some (.bool s2) ∧ w5.cell? ⟨w.heap.size + 1, 1, none⟩ = some (.slice A3 n3 c3) ∧ w5.cell? ⟨w.heap.size + 1, 2, none⟩ = some (.slice A4 n4 c4) := ⟨((B1.drew).below hb5).cell 0, ((B1.drew).below hb5).cell 1, ((B1.drew).below hb5).cell 2, ((B2.drew).below hb5).cell 0, ((B2.drew).below hb5).cell 1, ((B2.drew).below hb5).cell 2⟩)
      | (go_at_call 44; refine (refMulQ _ _ q1 q2⁻¹ L1 (L2 + 2) _ ((h1.below hbd).below hb5) hq5 (by omega)).mono ?_; rintro e w6 ⟨_, rfl, hq8, hb6⟩; obtain ⟨s8, A13, m13, c13, A14, m14, c14, rfl⟩ := hq8.form; have Kw6 : w6.cell? ⟨w.heap.size, 0, none⟩ = some (.bool s1) ∧ w6.cell? ⟨w.heap.size, 1, none⟩ = some (.slice A1 n1 c1) ∧ w6.cell? ⟨w.heap.size, 2, none⟩ = some (.slice A2 n2 c2) ∧ w6.cell? ⟨w.heap.size + 1, 0, none⟩ = some (.bool s2) ∧ w6.cell? ⟨w.heap.size + 1, 1, none⟩ = some (.slice A3 n3 c3) ∧ w6.cell? ⟨w.heap.size + 1, 2, none⟩ = some (.slice A4 n4 c4) := ⟨(((B1.drew).below hb5).below hb6).cell 0, (((B1.drew).below hb5).below hb6).cell 1, (((B1.drew).below hb5).below hb6).cell 2, (((B2.drew).below hb5).below hb6).cell 0, (((B2.drew).below hb5).below hb6).cell 1, (((B2.drew).below hb5).below hb6).cell 2⟩; have K9 := Lib.hid (show ∀ a b d, (((w6.setCell ⟨w.heap.size + 1 + 1, 0, none⟩ a).setCell ⟨w.heap.size + 1 + 1, 1, none⟩ b).setCell ⟨w.heap.size + 1 + 1, 2, none⟩ d).cell? ⟨w.heap.size, 0, none⟩ = some (.bool s1) ∧ (((w6.setCell ⟨w.heap.size + 1 + 1, 0, none⟩ a).setCell ⟨w.heap.size + 1 + 1, 1, none⟩ b).setCell ⟨w.heap.size + 1 + 1, 2, none⟩ d).cell? ⟨w.heap.size, 1, none⟩ = some (.slice A1 n1 c1) ∧ (((w6.setCell ⟨w.heap.size + 1 + 1, 0, none⟩ a).setCell ⟨w.heap.size + 1 + 1, 1, none⟩ b).setCell ⟨w.heap.size + 1 + 1, 2, none⟩ d).cell? ⟨w.heap.size, 2, none⟩ = some (.slice A2 n2 c2) ∧ (((w6.setCell ⟨w.heap.size + 1 + 1, 0, none⟩ a).setCell ⟨w.heap.size + 1 + 1, 1, none⟩ b).setCell ⟨w.heap.size + 1 + 1, 2, none⟩ d).cell? ⟨w.heap.size + 1, 0, none⟩ = some (.bool s2) ∧ (((w6.setCell ⟨w.heap.size + 1 + 1, 0, none⟩ a).setCell ⟨w.heap.size + 1 + 1, 1, none⟩ b).setCell ⟨w.heap.size + 1 + 1, 2, none⟩ d).cell? ⟨w.heap.size + 1, 1, none⟩ = some (.slice A3 n3 c3) ∧ (((w6.setCell ⟨w.heap.size + 1 + 1, 0, none⟩ a).setCell ⟨w.heap.size + 1 + 1, 1, none⟩ b).setCell ⟨w.heap.size + 1 + 1, 2, none⟩ d).cell? ⟨w.heap.size + 1, 2, none⟩ = some (.slice A4 n4 c4) from fun a b d => ⟨(cell_set3 _ _ _ _ _ _ (by show w.heap.size ≠ _; omega)).trans Kw6.1, (cell_set3 _ _ _ _ _ _ (by show w.heap.size ≠ _; omega)).trans Kw6.2.1, (cell_set3 _ _ _ _ _ _ (by show w.heap.size ≠ _; omega)).trans Kw6.2.2.1, (cell_set3 _ _ _ _ _ _ (by show w.heap.size + 1 ≠ _; omega)).trans Kw6.2.2.2.1, (cell_set3 _ _ _ _ _ _ (by show w.heap.size + 1 ≠ _; omega)).trans Kw6.2.2.2.2.1, (cell_set3 _ _ _ _ _ _ (by show w.heap.size + 1 ≠ _; omega)).trans Kw6.2.2.2.2.2⟩); have P3 := ((B3.drew).below hb5).below hb6; have r0 := P3.cell 0; have r1 := P3.cell 1; have r2 := P3.cell 2; have f0 := P3.frozen 0; have f1 := P3.frozen 1; have f2 := P3.frozen 2))
  have z0 := hw0.drew
  have z1 := z0.trans (hb5.mono z0.size)
  have z2 := z1.trans (hb6.mono z1.size)
  go_wp2
  exact ret_frac rfl rfl (((P3.set_ 0 _).set_ 1 _).set_ 2 _) rfl ⟨_, rfl, (hq8).set3 P3 _ _ _, bel_set3 z2 (by omega) _ _ _⟩
end Go.Proofs.YtbgihlfblmilmaaGreatDoor.Fr
