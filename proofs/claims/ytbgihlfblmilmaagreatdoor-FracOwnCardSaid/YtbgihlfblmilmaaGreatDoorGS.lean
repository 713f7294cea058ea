/- Quotients, numbers rounded down to a denominator. -/
import Derived.Test.YtbgihlfblmilmaaGreatDoorGQ
namespace Go.Proofs.YtbgihlfblmilmaaGreatDoor.Fr
open Go.RowKit Num

/-- a number and an error -/
def RetFE (w : World) (q : Rat) (L : Nat) (er : Int) (e : Ending) (w' : World) : Prop := ∃ v, e = .returned (.tuple #[v, .int .i64 er]) ∧ FQ w' v q L ∧ Below w.heap.size w w'
theorem Dg.nothing (w : World) : Dg .u32 w none 0 0 [] := Dg.nil .u32 w
theorem FQ.zero (w : World) : FQ w (.agg #[.bool false, .slice none 0 0, .slice none 0 0]) 0 0 :=
  ⟨_, _, rfl, NV.mk (Dg.nothing w) Nrm.nil (show _ = _ from rfl) (Nat.le_refl _), NV.mk (Dg.nothing w) Nrm.nil (show _ = _ from rfl) (Nat.le_refl _)⟩


set_option maxHeartbeats 6400000 in
set_option maxRecDepth 100000 in
theorem divQ (v1 v2 : Value) (q1 q2 : Rat) (L : Nat) (w : World) (h1 : AF w v1 q1 L) (h2 : AF w v2 q2 L) (hL : 2 * L + 1 + (2 * L + 1) ≤ 100000) :
    Calls Tryz.prog 42 #[v1, v2] w fun e w' => (q2 = 0 → RetFE w 0 0 3 e w') ∧ (q2 ≠ 0 → RetFE w (q1 * q2⁻¹) (2 * (2 * L + 1 + (2 * L + 1))) 0 e w') := by
  obtain ⟨s1, A1, n1, c1, A2, n2, c2, rfl⟩ := h1.form
  obtain ⟨s2, A3, n3, c3, A4, n4, c4, rfl⟩ := h2.form
  have B1 := ((Blk.new w 24 #[.bool s1, .slice A1 n1 c1, .slice A2 n2 c2]).alloc (.cells #[.bool s2, .slice A3 n3 c3, .slice A4 n4 c4] 24)).alloc (.cells #[.bool false, .slice none 0 0, .slice none 0 0] 24)
  have B3 := Blk.new ((w.alloc (.cells #[.bool s1, .slice A1 n1 c1, .slice A2 n2 c2] 24)).alloc (.cells #[.bool s2, .slice A3 n3 c3, .slice A4 n4 c4] 24)) 24 #[.bool false, .slice none 0 0, .slice none 0 0]
  have e1 : (w.alloc (.cells #[.bool s1, .slice A1 n1 c1, .slice A2 n2 c2] 24)).heap.size = w.heap.size + 1 := by simp
  have e2 : ((w.alloc (.cells #[.bool s1, .slice A1 n1 c1, .slice A2 n2 c2] 24)).alloc (.cells #[.bool s2, .slice A3 n3 c3, .slice A4 n4 c4] 24)).heap.size = w.heap.size + 1 + 1 := by simp
  have hw0 := (((Below.refl w.heap.size w).alloc (Nat.le_refl _) (.cells #[.bool s1, .slice A1 n1 c1, .slice A2 n2 c2] 24)).alloc (by rw [e1]; omega) (.cells #[.bool s2, .slice A3 n3 c3, .slice A4 n4 c4] 24)).alloc (by rw [e2]; omega) (.cells #[.bool false, .slice none 0 0, .slice none 0 0] 24)
  rw [e2] at B3
  clear e1 e2
  have h1 := h1.below hw0
  have h2 := h2.below hw0
  go_enter Tryz.func42, Tryz.ntmps42
  go_wp2_with fail
  generalize ((w.alloc (.cells #[.bool s1, .slice A1 n1 c1, .slice A2 n2 c2] 24)).alloc (.cells #[.bool s2, .slice A3 n3 c3, .slice A4 n4 c4] 24)).alloc (.cells #[.bool false, .slice none 0 0, .slice none 0 0] 24) = w1 at *
  refine (loadQ _ q2 L _ h2 (by omega)).mono ?_
  rintro e w2 ⟨_, rfl, hq3, hb2⟩
  obtain ⟨s3, A7, n7, c7, A8, n8, c8, rfl⟩ := hq3.form
  have hw2 := hw0.trans (hb2.mono hw0.size)
  have hlt : w.heap.size + 1 + 1 < w2.heap.size := by have := hb2.size; have := B3.lt; omega
  have B4 := Blk.new w2 67 #[.bool s3, .slice A7 n7 c7, .slice A8 n8 c8]
  have hba := (Below.refl w2.heap.size w2).alloc (Nat.le_refl _) (.cells #[.bool s3, .slice A7 n7 c7, .slice A8 n8 c8] 67)
  have hw3 := hw2.trans (hba.mono hw2.size)
  have B1 := (B1.below hb2).below hba
  have B3 := (B3.below hb2).below hba
  have h1 := (h1.below hb2).below hba
  have hq3 := hq3.below hba
  go_wp2_with fail
  generalize w2.alloc (.cells #[.bool s3, .slice A7 n7 c7, .slice A8 n8 c8] 67) = w4 at *
  refine (signQ _ q2 _ _ hq3).mono ?_
  rintro e w9 ⟨rfl, hb9⟩
  have hw9 := hw3.trans (hb9.mono hw3.size)
  have B1 := B1.below hb9
  have B3 := B3.below hb9
  have B4 := B4.below hb9
  have h1 := h1.below hb9
  have hq3 := hq3.below hb9
  have hqb := qs_bound q2
  by_cases hz : q2 = 0
  · have hs : qs q2 = 0 := qs_zero.2 hz
    rw [hs]
    have r0 := B3.cell 0
    have r1 := B3.cell 1
    have r2 := B3.cell 2
    have f0 := B3.frozen 0
    have f1 := B3.frozen 1
    have f2 := B3.frozen 2
    go_wp2
    exact ret_frac2 rfl rfl (((B3.set_ 0 _).set_ 1 _).set_ 2 _) rfl ⟨fun _ => ⟨_, rfl, FQ.zero _, bel_set3 hw9 (by omega) _ _ _⟩, fun h => absurd hz h⟩
  · have hs : qs q2 ≠ 0 := fun h => hz (qs_zero.1 h)
    generalize qs q2 = t at *
    have hsb : (t == 0) = false := by rw [beq_eq_false_iff_ne]; exact hs
    go_upto_region 4 with fail
    have hbd : Below w9.heap.size w9 w9.drew := (Below.refl _ _).drew
    have K1 : w9.cell? ⟨w.heap.size, 0, none⟩ = some (.bool s1) ∧ w9.cell? ⟨w.heap.size, 1, none⟩ = some (.slice A1 n1 c1) ∧ w9.cell? ⟨w.heap.size, 2, none⟩ = some (.slice A2 n2 c2) ∧ w9.cell? ⟨w2.heap.size, 0, none⟩ = some (.bool s3) ∧ w9.cell? ⟨w2.heap.size, 1, none⟩ = some (.slice A7 n7 c7) ∧ w9.cell? ⟨w2.heap.size, 2, none⟩ = some (.slice A8 n8 c8) := ⟨B1.cell 0, B1.cell 1, B1.cell 2, B4.cell 0, B4.cell 1, B4.cell 2⟩
    obtain ⟨k0, k1, k2, k3, k4, k5⟩ := K1
    go_region_held3 (fun wx => wx.cell? ⟨w.heap.size, 0, none⟩ = some (.bool s1) ∧ wx.cell? ⟨w.heap.size, 1, none⟩ = some (.slice A1 n1 c1) ∧ wx.cell? ⟨w.heap.size, 2, none⟩ = some (.slice A2 n2 c2) ∧ wx.cell? ⟨w2.heap.size, 0, none⟩ = some (.bool s3) ∧ wx.cell? ⟨w2.heap.size, 1, none⟩ = some (.slice A7 n7 c7) ∧ wx.cell? ⟨w2.heap.size, 2, none⟩ = some (.slice A8 n8 c8))
      (first | exact ⟨k0, k1, k2, k3, k4, k5⟩ | exact Kw5 | exact Kw6 | exact Kw7 | exact Kw8 | exact K9.out _ _ _)
      (first
        | (go_at_call 70; refine (loadQ _ q1 L _ (h1.below hbd) (by omega)).mono ?_; rintro e w5 ⟨_, rfl, hq5, hb5⟩; obtain ⟨s5, A5, m5, c5, A6, m6, c6, rfl⟩ := hq5.form; have Kw5 : w5.cell? ⟨w.heap.size, 0, none⟩ = some (.bool s1) ∧ w5.cell? ⟨w.heap.size, 1, none⟩ = some (.slice A1 n1 c1) ∧ w5.cell? ⟨w.heap.size, 2, none⟩ = some (.slice A2 n2 c2) ∧ w5.cell? ⟨w2.heap.size, 0, none⟩ = some (.bool s3) ∧ w5.cell? ⟨w2.heap.size, 1, none⟩ = some (.slice A7 n7 c7) ∧ w5.cell? ⟨w2.heap.size, 2, none⟩ = some (.slice A8 n8 c8) := ⟨((B1.drew).below hb5).cell 0, ((B1.drew).below hb5).cell 1, ((B1.drew).below hb5).cell 2, ((B4.drew).below hb5).cell 0, ((B4.drew).below hb5).cell 1, ((B4.drew).below hb5).cell 2⟩)
        | (go_at_call 84; refine (invertQ _ q2 (2 * L + 1) _ ((hq3.below hbd).below hb5) hz).mono ?_; rintro e w6 ⟨_, rfl, hq6, hb6⟩; have hq5 := hq5.below hb6; obtain ⟨s6, A9, m9, c9, A10, m10, c10, rfl⟩ := hq6.form; have Kw6 : w6.cell? ⟨w.heap.size, 0, none⟩ = some (.bool s1) ∧ w6.cell? ⟨w.heap.size, 1, none⟩ = some (.slice A1 n1 c1) ∧ w6.cell? ⟨w.heap.size, 2, none⟩ = some (.slice A2 n2 c2) ∧ w6.cell? ⟨w2.heap.size, 0, none⟩ = some (.bool s3) ∧ w6.cell? ⟨w2.heap.size, 1, none⟩ = some (.slice A7 n7 c7) ∧ w6.cell? ⟨w2.heap.size, 2, none⟩ = some (.slice A8 n8 c8) := ⟨(((B1.drew).below hb5).below hb6).cell 0, (((B1.drew).below hb5).below hb6).cell 1, (((B1.drew).below hb5).below hb6).cell 2, (((B4.drew).below hb5).below hb6).cell 0, (((B4.drew).below hb5).below hb6).cell 1, (((B4.drew).below hb5).below hb6).cell 2⟩)
        | (go_at_call 83; refine (timesQ _ _ q1 q2⁻¹ (2 * L + 1) (2 * L + 1) _ hq5 hq6 (by omega) (by omega)).mono ?_; rintro e w7 ⟨_, rfl, hq7, hb7⟩; obtain ⟨s7, A11, m11, c11, A12, m12, c12, rfl⟩ := hq7.form; have Kw7 : w7.cell? ⟨w.heap.size, 0, none⟩ = some (.bool s1) ∧ w7.cell? ⟨w.heap.size, 1, none⟩ = some (.slice A1 n1 c1) ∧ w7.cell? ⟨w.heap.size, 2, none⟩ = some (.slice A2 n2 c2) ∧ w7.cell? ⟨w2.heap.size, 0, none⟩ = some (.bool s3) ∧ w7.cell? ⟨w2.heap.size, 1, none⟩ = some (.slice A7 n7 c7) ∧ w7.cell? ⟨w2.heap.size, 2, none⟩ = some (.slice A8 n8 c8) := ⟨((((B1.drew).below hb5).below hb6).below hb7).cell 0, ((((B1.drew).below hb5).below hb6).below hb7).cell 1, ((((B1.drew).below hb5).below hb6).below hb7).cell 2, ((((B4.drew).below hb5).below hb6).below hb7).cell 0, ((((B4.drew).below hb5).below hb6).below hb7).cell 1, ((((B4.drew).below hb5).below hb6).below hb7).cell 2⟩)
        | (go_at_call 71; refine (storeQ _ _ (2 * L + 1 + (2 * L + 1)) _ hq7 (by omega)).mono ?_; rintro e w8 ⟨_, rfl, hq8, hb8⟩; obtain ⟨s8, A13, m13, c13, A14, m14, c14, rfl⟩ := hq8.form; have Kw8 : w8.cell? ⟨w.heap.size, 0, none⟩ = some (.bool s1) ∧ w8.cell? ⟨w.heap.size, 1, none⟩ = some (.slice A1 n1 c1) ∧ w8.cell? ⟨w.heap.size, 2, none⟩ = some (.slice A2 n2 c2) ∧ w8.cell? ⟨w2.heap.size, 0, none⟩ = some (.bool s3) ∧ w8.cell? ⟨w2.heap.size, 1, none⟩ = some (.slice A7 n7 c7) ∧ w8.cell? ⟨w2.heap.size, 2, none⟩ = some (.slice A8 n8 c8) := ⟨(((((B1.drew).below hb5).below hb6).below hb7).below hb8).cell 0, (((((B1.drew).below hb5).below hb6).below hb7).below hb8).cell 1, (((((B1.drew).below hb5).below hb6).below hb7).below hb8).cell 2, (((((B4.drew).below hb5).below hb6).below hb7).below hb8).cell 0, (((((B4.drew).below hb5).below hb6).below hb7).below hb8).cell 1, (((((B4.drew).below hb5).below hb6).below hb7).below hb8).cell 2⟩; have K9 := Lib.hid (show ∀ a b d, (((w8.setCell ⟨w.heap.size + 1 + 1, 0, none⟩ a).setCell ⟨w.heap.size + 1 + 1, 1, none⟩ b).setCell ⟨w.heap.size + 1 + 1, 2, none⟩ d).cell? ⟨w.heap.size, 0, none⟩ = some (.bool s1) ∧ (((w8.setCell ⟨w.heap.size + 1 + 1, 0, none⟩ a).setCell ⟨w.heap.size + 1 + 1, 1, none⟩ b).setCell ⟨w.heap.size + 1 + 1, 2, none⟩ d).cell? ⟨w.heap.size, 1, none⟩ = some (.slice A1 n1 c1) ∧ (((w8.setCell ⟨w.heap.size + 1 + 1, 0, none⟩ a).setCell ⟨w.heap.size + 1 + 1, 1, none⟩ b).setCell ⟨w.heap.size + 1 + 1, 2, none⟩ d).cell? ⟨w.heap.size, 2, none⟩ = some (.slice A2 n2 c2) ∧ (((w8.setCell ⟨w.heap.size + 1 + 1, 0, none⟩ a).setCell ⟨w.heap.size + 1 + 1, 1, none⟩ b).setCell ⟨w.heap.size + 1 + 1, 2, none⟩ d).cell? ⟨w2.heap.size, 0, none⟩ = some (.bool s3) ∧ (((w8.setCell ⟨w.heap.size + 1 + 1, 0, none⟩ a).setCell ⟨w.heap.size + 1 + 1, 1, none⟩ b).setCell ⟨w.heap.size + 1 + 1, 2, none⟩ d).cell? ⟨w2.heap.size, 1, none⟩ = some (.slice A7 n7 c7) ∧ (((w8.setCell ⟨w.heap.size + 1 + 1, 0, none⟩ a).setCell ⟨w.heap.size + 1 + 1, 1, none⟩ b).setCell ⟨w.heap.size + 1 + 1, 2, none⟩ d).cell? ⟨w2.heap.size, 2, none⟩ = some (.slice A8 n8 c8) from fun a b d => ⟨(cell_set3 _ _ _ _ _ _ (by show w.heap.size ≠ _; omega)).trans Kw8.1, (cell_set3 _ _ _ _ _ _ (by show w.heap.size ≠ _; omega)).trans Kw8.2.1, (cell_set3 _ _ _ _ _ _ (by show w.heap.size ≠ _; omega)).trans Kw8.2.2.1, (cell_set3 _ _ _ _ _ _ (by show w2.heap.size ≠ _; omega)).trans Kw8.2.2.2.1, (cell_set3 _ _ _ _ _ _ (by show w2.heap.size ≠ _; omega)).trans Kw8.2.2.2.2.1, (cell_set3 _ _ _ _ _ _ (by show w2.heap.size ≠ _; omega)).trans Kw8.2.2.2.2.2⟩); have P3 := ((((B3.drew).below hb5).below hb6).below hb7).below hb8; have r0 := P3.cell 0; have r1 := P3.cell 1; have r2 := P3.cell 2; have f0 := P3.frozen 0; have f1 := P3.frozen 1; have f2 := P3.frozen 2))

    have z0 := hw9.drew
    have z1 := z0.trans (hb5.mono z0.size)
    have z2 := z1.trans (hb6.mono z1.size)
    have z3 := z2.trans (hb7.mono z2.size)
    have z4 := z3.trans (hb8.mono z3.size)
    go_wp2
    exact ret_frac2 rfl rfl (((P3.set_ 0 _).set_ 1 _).set_ 2 _) rfl ⟨fun h => absurd h hz, fun _ => ⟨_, rfl, hq8.set3 P3 _ _ _, bel_set3 z4 (by omega) _ _ _⟩⟩

set_option maxHeartbeats 6400000 in
set_option maxRecDepth 100000 in
theorem FloorQ (v1 : Value) (q1 : Rat) (d : Int) (L : Nat) (w : World) (h1 : AF w v1 q1 L) (hd : -9223372036854775808 ≤ d ∧ d ≤ 9223372036854775807) (hL : 2 * L + 1 + 1 + 2 + 1 ≤ 100000) :
    Calls Tryz.prog 61 #[v1, .int .i64 d] w fun e w' => (d < 1 → RetFE w 0 0 2 e w') ∧ (1 ≤ d → RetFE w (((q1 * (d : Rat)).floor : Rat) * (d : Rat)⁻¹) (2 * (2 * L + 1 + 1 + 2 + 1)) 0 e w') := by
  obtain ⟨s1, A1, n1, c1, A2, n2, c2, rfl⟩ := h1.form
  obtain ⟨B1, B3, hw0⟩ := two_blk w 24 #[.bool s1, .slice A1 n1 c1, .slice A2 n2 c2] #[.bool false, .slice none 0 0, .slice none 0 0]
  have h1 := h1.below hw0
  go_enter Tryz.func61, Tryz.ntmps61
  go_upto_region 1 with fail
  generalize (w.alloc (.cells #[.bool s1, .slice A1 n1 c1, .slice A2 n2 c2] 24)).alloc (.cells #[.bool false, .slice none 0 0, .slice none 0 0] 24) = w1 at *
  by_cases hz : d < 1
  · have r0 := B3.cell 0
    have r1 := B3.cell 1
    have r2 := B3.cell 2
    have f0 := B3.frozen 0
    have f1 := B3.frozen 1
    have f2 := B3.frozen 2
    go_wp2_with fail
    exact ret_frac2 rfl rfl (((B3.set_ 0 _).set_ 1 _).set_ 2 _) rfl ⟨fun _ => ⟨_, rfl, FQ.zero _, bel_set3 hw0 (by omega) _ _ _⟩, fun h => absurd hz (by omega)⟩
  · have hdq : (d : Rat) ≠ 0 := by intro h; have := Rat.intCast_eq_zero_iff.1 h; omega
    go_wp2_with fail
    refine (wholeQ d _ hd).mono ?_
    rintro e w2 ⟨_, rfl, hq3, hb2⟩
    obtain ⟨s3, A7, n7, c7, A8, n8, c8, rfl⟩ := hq3.form
    have hw2 := hw0.trans (hb2.mono hw0.size)
    have hlt : w.heap.size + 1 < w2.heap.size := by have := hb2.size; have := B3.lt; omega
    have B4 := Blk.new w2 67 #[.bool s3, .slice A7 n7 c7, .slice A8 n8 c8]
    have hba := (Below.refl w2.heap.size w2).alloc (Nat.le_refl _) (.cells #[.bool s3, .slice A7 n7 c7, .slice A8 n8 c8] 67)
    have hw9 := hw2.trans (hba.mono hw2.size)
    have B1 := (B1.below hb2).below hba
    have B3 := (B3.below hb2).below hba
    have h1 := (h1.below hb2).below hba
    have hq3 := hq3.below hba
    go_upto_region 4 with fail
    generalize w2.alloc (.cells #[.bool s3, .slice A7 n7 c7, .slice A8 n8 c8] 67) = w9 at *
    have hbd : Below w9.heap.size w9 w9.drew := (Below.refl _ _).drew
    have K1 : w9.cell? ⟨w.heap.size, 0, none⟩ = some (.bool s1) ∧ w9.cell? ⟨w.heap.size, 1, none⟩ = some (.slice A1 n1 c1) ∧ w9.cell? ⟨w.heap.size, 2, none⟩ = some (.slice A2 n2 c2) ∧ w9.cell? ⟨w2.heap.size, 0, none⟩ = some (.bool s3) ∧ w9.cell? ⟨w2.heap.size, 1, none⟩ = some (.slice A7 n7 c7) ∧ w9.cell? ⟨w2.heap.size, 2, none⟩ = some (.slice A8 n8 c8) := ⟨B1.cell 0, B1.cell 1, B1.cell 2, B4.cell 0, B4.cell 1, B4.cell 2⟩
    obtain ⟨k0, k1, k2, k3, k4, k5⟩ := K1
    go_region_held3 (fun wx => wx.cell? ⟨w.heap.size, 0, none⟩ = some (.bool s1) ∧ wx.cell? ⟨w.heap.size, 1, none⟩ = some (.slice A1 n1 c1) ∧ wx.cell? ⟨w.heap.size, 2, none⟩ = some (.slice A2 n2 c2) ∧ wx.cell? ⟨w2.heap.size, 0, none⟩ = some (.bool s3) ∧ wx.cell? ⟨w2.heap.size, 1, none⟩ = some (.slice A7 n7 c7) ∧ wx.cell? ⟨w2.heap.size, 2, none⟩ = some (.slice A8 n8 c8))
      (first | exact ⟨k0, k1, k2, k3, k4, k5⟩ | exact Kw5 | exact Kw6 | exact Kwf | exact Kwi | exact Kw7 | exact Kw8 | exact K9.out _ _ _)
      (first
        | (go_at_call 70; refine (loadQ _ q1 L _ (h1.below hbd) (by omega)).mono ?_; rintro e w5 ⟨_, rfl, hq5, hb5⟩; obtain ⟨s5, A5, m5, c5, A6, m6, c6, rfl⟩ := hq5.form; have Kw5 : w5.cell? ⟨w.heap.size, 0, none⟩ = some (.bool s1) ∧ w5.cell? ⟨w.heap.size, 1, none⟩ = some (.slice A1 n1 c1) ∧ w5.cell? ⟨w.heap.size, 2, none⟩ = some (.slice A2 n2 c2) ∧ w5.cell? ⟨w2.heap.size, 0, none⟩ = some (.bool s3) ∧ w5.cell? ⟨w2.heap.size, 1, none⟩ = some (.slice A7 n7 c7) ∧ w5.cell? ⟨w2.heap.size, 2, none⟩ = some (.slice A8 n8 c8) := ⟨((B1.drew).below hb5).cell 0, ((B1.drew).below hb5).cell 1, ((B1.drew).below hb5).cell 2, ((B4.drew).below hb5).cell 0, ((B4.drew).below hb5).cell 1, ((B4.drew).below hb5).cell 2⟩)
        | (go_at_call_of 83 (Value.agg #[.bool s5, .slice A5 m5 c5, .slice A6 m6 c6]); refine (timesQ _ _ q1 (d : Rat) (2 * L + 1) 1 _ hq5 ((hq3.below hbd).below hb5) (by omega) (by omega)).mono ?_; rintro e w6 ⟨_, rfl, hq6, hb6⟩; obtain ⟨s6, A9, m9, c9, A10, m10, c10, rfl⟩ := hq6.form; have Kw6 : w6.cell? ⟨w.heap.size, 0, none⟩ = some (.bool s1) ∧ w6.cell? ⟨w.heap.size, 1, none⟩ = some (.slice A1 n1 c1) ∧ w6.cell? ⟨w.heap.size, 2, none⟩ = some (.slice A2 n2 c2) ∧ w6.cell? ⟨w2.heap.size, 0, none⟩ = some (.bool s3) ∧ w6.cell? ⟨w2.heap.size, 1, none⟩ = some (.slice A7 n7 c7) ∧ w6.cell? ⟨w2.heap.size, 2, none⟩ = some (.slice A8 n8 c8) := ⟨(((B1.drew).below hb5).below hb6).cell 0, (((B1.drew).below hb5).below hb6).cell 1, (((B1.drew).below hb5).below hb6).cell 2, (((B4.drew).below hb5).below hb6).cell 0, (((B4.drew).below hb5).below hb6).cell 1, (((B4.drew).below hb5).below hb6).cell 2⟩)
        | (go_at_call 88; refine (floorQ _ (q1 * (d : Rat)) (2 * L + 1 + 1) _ hq6 (by omega)).mono ?_; rintro e wf ⟨_, rfl, hqf, hbf⟩; obtain ⟨sf, Af, mf, cf, Ag, mg, cg, rfl⟩ := hqf.form; have Kwf : wf.cell? ⟨w.heap.size, 0, none⟩ = some (.bool s1) ∧ wf.cell? ⟨w.heap.size, 1, none⟩ = some (.slice A1 n1 c1) ∧ wf.cell? ⟨w.heap.size, 2, none⟩ = some (.slice A2 n2 c2) ∧ wf.cell? ⟨w2.heap.size, 0, none⟩ = some (.bool s3) ∧ wf.cell? ⟨w2.heap.size, 1, none⟩ = some (.slice A7 n7 c7) ∧ wf.cell? ⟨w2.heap.size, 2, none⟩ = some (.slice A8 n8 c8) := ⟨((((B1.drew).below hb5).below hb6).below hbf).cell 0, ((((B1.drew).below hb5).below hb6).below hbf).cell 1, ((((B1.drew).below hb5).below hb6).below hbf).cell 2, ((((B4.drew).below hb5).below hb6).below hbf).cell 0, ((((B4.drew).below hb5).below hb6).below hbf).cell 1, ((((B4.drew).below hb5).below hb6).below hbf).cell 2⟩)
        | (go_at_call 84; refine (invertQ _ (d : Rat) 1 _ ((((hq3.below hbd).below hb5).below hb6).below hbf) hdq).mono ?_; rintro e wi ⟨_, rfl, hqi, hbi⟩; have hqf := hqf.below hbi; obtain ⟨si, Ai, mi, ci, Aj, mj, cj, rfl⟩ := hqi.form; have Kwi : wi.cell? ⟨w.heap.size, 0, none⟩ = some (.bool s1) ∧ wi.cell? ⟨w.heap.size, 1, none⟩ = some (.slice A1 n1 c1) ∧ wi.cell? ⟨w.heap.size, 2, none⟩ = some (.slice A2 n2 c2) ∧ wi.cell? ⟨w2.heap.size, 0, none⟩ = some (.bool s3) ∧ wi.cell? ⟨w2.heap.size, 1, none⟩ = some (.slice A7 n7 c7) ∧ wi.cell? ⟨w2.heap.size, 2, none⟩ = some (.slice A8 n8 c8) := ⟨(((((B1.drew).below hb5).below hb6).below hbf).below hbi).cell 0, (((((B1.drew).below hb5).below hb6).below hbf).below hbi).cell 1, (((((B1.drew).below hb5).below hb6).below hbf).below hbi).cell 2, (((((B4.drew).below hb5).below hb6).below hbf).below hbi).cell 0, (((((B4.drew).below hb5).below hb6).below hbf).below hbi).cell 1, (((((B4.drew).below hb5).below hb6).below hbf).below hbi).cell 2⟩)
        | (go_at_call_of 83 (Value.agg #[.bool sf, .slice Af mf cf, .slice Ag mg cg]); refine (timesQ _ _ _ _ (2 * L + 1 + 1 + 2) 1 _ hqf hqi (by omega) (by omega)).mono ?_; rintro e w7 ⟨_, rfl, hq7, hb7⟩; obtain ⟨s7, A11, m11, c11, A12, m12, c12, rfl⟩ := hq7.form; have Kw7 : w7.cell? ⟨w.heap.size, 0, none⟩ = some (.bool s1) ∧ w7.cell? ⟨w.heap.size, 1, none⟩ = some (.slice A1 n1 c1) ∧ w7.cell? ⟨w.heap.size, 2, none⟩ = some (.slice A2 n2 c2) ∧ w7.cell? ⟨w2.heap.size, 0, none⟩ = some (.bool s3) ∧ w7.cell? ⟨w2.heap.size, 1, none⟩ = some (.slice A7 n7 c7) ∧ w7.cell? ⟨w2.heap.size, 2, none⟩ = some (.slice A8 n8 c8) := ⟨((((((B1.drew).below hb5).below hb6).below hbf).below hbi).below hb7).cell 0, ((((((B1.drew).below hb5).below hb6).below hbf).below hbi).below hb7).cell 1, ((((((B1.drew).below hb5).below hb6).below hbf).below hbi).below hb7).cell 2, ((((((B4.drew).below hb5).below hb6).below hbf).below hbi).below hb7).cell 0, ((((((B4.drew).below hb5).below hb6).below hbf).below hbi).below hb7).cell 1, ((((((B4.drew).below hb5).below hb6).below hbf).below hbi).below hb7).cell 2⟩)
        | (go_at_call 71; refine (storeQ _ _ (2 * L + 1 + 1 + 2 + 1) _ hq7 (by omega)).mono ?_; rintro e w8 ⟨_, rfl, hq8, hb8⟩; obtain ⟨s8, A13, m13, c13, A14, m14, c14, rfl⟩ := hq8.form; have Kw8 : w8.cell? ⟨w.heap.size, 0, none⟩ = some (.bool s1) ∧ w8.cell? ⟨w.heap.size, 1, none⟩ = some (.slice A1 n1 c1) ∧ w8.cell? ⟨w.heap.size, 2, none⟩ = some (.slice A2 n2 c2) ∧ w8.cell? ⟨w2.heap.size, 0, none⟩ = some (.bool s3) ∧ w8.cell? ⟨w2.heap.size, 1, none⟩ = some (.slice A7 n7 c7) ∧ w8.cell? ⟨w2.heap.size, 2, none⟩ = some (.slice A8 n8 c8) := ⟨(((((((B1.drew).below hb5).below hb6).below hbf).below hbi).below hb7).below hb8).cell 0, (((((((B1.drew).below hb5).below hb6).below hbf).below hbi).below hb7).below hb8).cell 1, (((((((B1.drew).below hb5).below hb6).below hbf).below hbi).below hb7).below hb8).cell 2, (((((((B4.drew).below hb5).below hb6).below hbf).below hbi).below hb7).below hb8).cell 0, (((((((B4.drew).below hb5).below hb6).below hbf).below hbi).below hb7).below hb8).cell 1, (((((((B4.drew).below hb5).below hb6).below hbf).below hbi).below hb7).below hb8).cell 2⟩; have K9 := Lib.hid (show ∀ a b d, (((w8.setCell ⟨w.heap.size + 1, 0, none⟩ a).setCell ⟨w.heap.size + 1, 1, none⟩ b).setCell ⟨w.heap.size + 1, 2, none⟩ d).cell? ⟨w.heap.size, 0, none⟩ = some (.bool s1) ∧ (((w8.setCell ⟨w.heap.size + 1, 0, none⟩ a).setCell ⟨w.heap.size + 1, 1, none⟩ b).setCell ⟨w.heap.size + 1, 2, none⟩ d).cell? ⟨w.heap.size, 1, none⟩ = some (.slice A1 n1 c1) ∧ (((w8.setCell ⟨w.heap.size + 1, 0, none⟩ a).setCell ⟨w.heap.size + 1, 1, none⟩ b).setCell ⟨w.heap.size + 1, 2, none⟩ d).cell? ⟨w.heap.size, 2, none⟩ = some (.slice A2 n2 c2) ∧ (((w8.setCell ⟨w.heap.size + 1, 0, none⟩ a).setCell ⟨w.heap.size + 1, 1, none⟩ b).setCell ⟨w.heap.size + 1, 2, none⟩ d).cell? ⟨w2.heap.size, 0, none⟩ = some (.bool s3) ∧ (((w8.setCell ⟨w.heap.size + 1, 0, none⟩ a).setCell ⟨w.heap.size + 1, 1, none⟩ b).setCell ⟨w.heap.size + 1, 2, none⟩ d).cell? ⟨w2.heap.size, 1, none⟩ = some (.slice A7 n7 c7) ∧ (((w8.setCell ⟨w.heap.size + 1, 0, none⟩ a).setCell ⟨w.heap.size + 1, 1, none⟩ b).setCell ⟨w.heap.size + 1, 2, none⟩ d).cell? ⟨w2.heap.size, 2, none⟩ = some (.slice A8 n8 c8) from fun a b d => ⟨(cell_set3 _ _ _ _ _ _ (by show w.heap.size ≠ _; omega)).trans Kw8.1, (cell_set3 _ _ _ _ _ _ (by show w.heap.size ≠ _; omega)).trans Kw8.2.1, (cell_set3 _ _ _ _ _ _ (by show w.heap.size ≠ _; omega)).trans Kw8.2.2.1, (cell_set3 _ _ _ _ _ _ (by show w2.heap.size ≠ _; omega)).trans Kw8.2.2.2.1, (cell_set3 _ _ _ _ _ _ (by show w2.heap.size ≠ _; omega)).trans Kw8.2.2.2.2.1, (cell_set3 _ _ _ _ _ _ (by show w2.heap.size ≠ _; omega)).trans Kw8.2.2.2.2.2⟩); have P3 := ((((((B3.drew).below hb5).below hb6).below hbf).below hbi).below hb7).below hb8; have r0 := P3.cell 0; have r1 := P3.cell 1; have r2 := P3.cell 2; have f0 := P3.frozen 0; have f1 := P3.frozen 1; have f2 := P3.frozen 2))

    have z0 := hw9.drew
    have z1 := z0.trans (hb5.mono z0.size)
    have z2 := z1.trans (hb6.mono z1.size)
    have z3 := z2.trans (hbf.mono z2.size)
    have z4 := z3.trans (hbi.mono z3.size)
    have z5 := z4.trans (hb7.mono z4.size)
    have z6 := z5.trans (hb8.mono z5.size)
    go_wp2
    exact ret_frac2 rfl rfl (((P3.set_ 0 _).set_ 1 _).set_ 2 _) rfl ⟨fun h => absurd h (by omega), fun _ => ⟨_, rfl, hq8.set3 P3 _ _ _, bel_set3 z6 (by omega) _ _ _⟩⟩
end Go.Proofs.YtbgihlfblmilmaaGreatDoor.Fr

/- The greatest integer that is not greater, as an int. -/
namespace Go.Proofs.YtbgihlfblmilmaaGreatDoor.Fr
open Go.RowKit Num

theorem ret_w2 {a b : Int} {x : Value} (h : a = b) : Ending.returned (.tuple #[.int .i64 a, x]) = Ending.returned (.tuple #[.int .i64 b, x]) := by rw [h]
set_option maxHeartbeats 6400000 in
theorem WholeQ (v1 : Value) (q1 : Rat) (L : Nat) (w : World) (h1 : AF w v1 q1 L) (hL : 2 * L + 1 ≤ 400000) :
    Calls Tryz.prog 32 #[v1] w fun e w' => Below w.heap.size w w' ∧ (-9223372036854775808 ≤ q1.floor ∧ q1.floor ≤ 9223372036854775807 → e = .returned (.tuple #[.int .i64 q1.floor, .int .i64 0])) ∧
      (¬ (-9223372036854775808 ≤ q1.floor ∧ q1.floor ≤ 9223372036854775807) → e = .returned (.tuple #[.int .i64 0, .int .i64 6])) := by
  obtain ⟨f, hf⟩ : ∃ f, f = q1.floor := ⟨_, rfl⟩
  rw [← hf]
  obtain ⟨s1, A1, n1, c1, A2, n2, c2, rfl⟩ := h1.form
  have B1 := Blk.new w 24 #[.bool s1, .slice A1 n1 c1, .slice A2 n2 c2]
  have hw0 := (Below.refl w.heap.size w).alloc (Nat.le_refl _) (.cells #[.bool s1, .slice A1 n1 c1, .slice A2 n2 c2] 24)
  have h1 := h1.below hw0
  go_enter Tryz.func32, Tryz.ntmps32
  go_wp2_with fail
  generalize w.alloc (.cells #[.bool s1, .slice A1 n1 c1, .slice A2 n2 c2] 24) = w1 at *
  refine (loadQ _ q1 L _ h1 (by omega)).mono ?_
  rintro e w2 ⟨_, rfl, hq2, hb2⟩
  obtain ⟨s2, A3, n3, c3, A4, n4, c4, rfl⟩ := hq2.form
  have hw2 := hw0.trans (hb2.mono hw0.size)
  go_wp2_with fail
  refine (floorL _ q1 _ _ hq2 (by omega)).mono ?_
  rintro r w4 ⟨_, rfl, ⟨_, _, rfl, ⟨A5, m5, c5, us5, rfl, hD5, hN5, hv5, hm5⟩, ⟨A6, m6, c6, us6, rfl, hD6, hN6, hv6, hm6⟩⟩, hb4⟩
  rw [← hf, Rat.num_intCast] at hv5
  rw [← hf, Rat.num_intCast]
  clear hf
  have hw4 := hw2.trans (hb4.mono hw2.size)
  cases hs : decide (f < 0)
  all_goals
    have hsf := hs
    simp at hsf
  all_goals
    generalize hsb : Value.bool _ = sb
  all_goals
    subst hsb
  · have E3 := Blk.new w4 67 #[.bool false, .slice A5 m5 c5, .slice A6 m6 c6]
    have hD5 := hD5.alloc (.cells #[.bool false, .slice A5 m5 c5, .slice A6 m6 c6] 67)
    have hw5 := hw4.alloc hw4.size (.cells #[.bool false, .slice A5 m5 c5, .slice A6 m6 c6] 67)
    have ht := hD5.cap
    have ht2 := hD5.top
    go_upto_region 2 with fail
    generalize w4.alloc (.cells #[.bool false, .slice A5 m5 c5, .slice A6 m6 c6] 67) = w5 at *
    have k0 : w5.cell? ⟨w4.heap.size, 0, none⟩ = some (.bool false) := E3.cell 0
    have k1 : w5.cell? ⟨w4.heap.size, 1, none⟩ = some (.slice A5 m5 c5) := E3.cell 1
    rcases Nat.eq_zero_or_pos m5 with hz | hz
    · subst hz
      have hf0 : f = 0 := by
        have h0 : us5 = [] := List.eq_nil_of_length_eq_zero hD5.len
        have h1 := hv5.out
        rw [h0] at h1
        have h2 : f.natAbs = 0 := h1.symm
        omega
      subst hf0
      go_wp2
      go_ret2
      exact ⟨hw5, fun _ => rfl, fun h => absurd (by decide) h⟩
    · have hne : ((m5 : Int) == 0) = false := by rw [beq_eq_false_iff_ne]; omega
      obtain ⟨ad, y, rfl, hcx, hy⟩ := hD5.at_ (j := 0) hz
      have hcx : w5.cell? ad = some (.int .u64 y) := hcx
      have hyb : y ≤ 18446744073709551615 := Nat.le_of_lt_succ hy.out.2
      by_cases h1 : m5 = 1
      · subst h1
        have hv : y = f.natAbs := (nrm_one64 hD5.len hy.out.1).symm.trans hv5.out
        clear hy hD5 hN5 hv5 E3
        by_cases hc : y ≤ 9223372036854775807
        · have e1 : IntKind.i64.wrap (y : Int) = f := by rw [IntWalk.i64_in _ (by omega)]; omega
          go_wp2
          go_ret2
          exact ⟨hw5, fun _ => ret_w2 (by first | exact e1 | omega), fun h => absurd (by omega) h⟩
        · go_wp2
          go_ret2
          exact ⟨hw5, fun h => absurd h (by omega), fun _ => rfl⟩
      · have hbig : 18446744073709551616 ≤ f.natAbs := by
          rcases Nat.lt_or_ge f.natAbs 18446744073709551616 with h | h
          · have := len_of_lt hN5 hv5.out (k := 1) h
            rw [hD5.len] at this
            omega
          · exact h
        have hgt : (1 : Int) < (m5 : Int) := by omega
        clear hv5
        go_wp2
        go_ret2
        exact ⟨hw5, fun h => absurd h (by omega), fun _ => rfl⟩

  · have E3 := Blk.new w4 67 #[.bool true, .slice A5 m5 c5, .slice A6 m6 c6]
    have hD5 := hD5.alloc (.cells #[.bool true, .slice A5 m5 c5, .slice A6 m6 c6] 67)
    have hw5 := hw4.alloc hw4.size (.cells #[.bool true, .slice A5 m5 c5, .slice A6 m6 c6] 67)
    have ht := hD5.cap
    have ht2 := hD5.top
    go_upto_region 2 with fail
    generalize w4.alloc (.cells #[.bool true, .slice A5 m5 c5, .slice A6 m6 c6] 67) = w5 at *
    have k0 : w5.cell? ⟨w4.heap.size, 0, none⟩ = some (.bool true) := E3.cell 0
    have k1 : w5.cell? ⟨w4.heap.size, 1, none⟩ = some (.slice A5 m5 c5) := E3.cell 1
    rcases Nat.eq_zero_or_pos m5 with hz | hz
    · subst hz
      have hf0 : f = 0 := by
        have h0 : us5 = [] := List.eq_nil_of_length_eq_zero hD5.len
        have h1 := hv5.out
        rw [h0] at h1
        have h2 : f.natAbs = 0 := h1.symm
        omega
      omega
    · have hne : ((m5 : Int) == 0) = false := by rw [beq_eq_false_iff_ne]; omega
      obtain ⟨ad, y, rfl, hcx, hy⟩ := hD5.at_ (j := 0) hz
      have hcx : w5.cell? ad = some (.int .u64 y) := hcx
      have hyb : y ≤ 18446744073709551615 := Nat.le_of_lt_succ hy.out.2
      by_cases h1 : m5 = 1
      · subst h1
        have hv : y = f.natAbs := (nrm_one64 hD5.len hy.out.1).symm.trans hv5.out
        clear hy hD5 hN5 hv5 E3
        by_cases hc : y ≤ 9223372036854775807
        · have e1 : IntKind.i64.wrap (y : Int) = (y : Int) := IntWalk.i64_in _ (by omega)
          have e2 : IntKind.i64.wrap (-(y : Int)) = f := by rw [IntWalk.i64_in _ (by omega)]; omega
          go_wp2
          go_ret2
          exact ⟨hw5, fun _ => ret_w2 (by first | exact e2 | (rw [e1, e2]; done) | omega), fun h => absurd (by omega) h⟩
        · by_cases hc2 : y = 9223372036854775808
          · have hf0 : f = -9223372036854775808 := by omega
            subst hf0
            subst hc2
            go_wp2
            go_ret2
            exact ⟨hw5, fun _ => ret_w2 (by first | decide | (unfold RowKit.wrap64; decide) | (simp [RowKit.wrap64]; done) | (unfold RowKit.wrap64; omega)), fun h => absurd (by omega) h⟩
          · go_wp2
            go_ret2
            exact ⟨hw5, fun h => absurd h (by omega), fun _ => rfl⟩
      · have hbig : 18446744073709551616 ≤ f.natAbs := by
          rcases Nat.lt_or_ge f.natAbs 18446744073709551616 with h | h
          · have := len_of_lt hN5 hv5.out (k := 1) h
            rw [hD5.len] at this
            omega
          · exact h
        have hgt : (1 : Int) < (m5 : Int) := by omega
        clear hv5
        go_wp2
        go_ret2
        exact ⟨hw5, fun h => absurd h (by omega), fun _ => rfl⟩

end Go.Proofs.YtbgihlfblmilmaaGreatDoor.Fr
