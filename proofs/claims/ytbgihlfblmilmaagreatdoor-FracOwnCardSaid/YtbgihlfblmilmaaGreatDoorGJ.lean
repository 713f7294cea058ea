/- Products, orders, lowest terms and canonical forms of numbers with any number of digits. -/
import Derived.Test.YtbgihlfblmilmaaGreatDoorGE
import Derived.Test.YtbgihlfblmilmaaGreatDoorGG
import Derived.Test.YtbgihlfblmilmaaGreatDoorP8
import Derived.Test.YtbgihlfblmilmaaGreatDoorPD
namespace Go.Proofs.YtbgihlfblmilmaaGreatDoor.Fr
open Go.RowKit Num

set_option maxHeartbeats 3200000 in
set_option maxRecDepth 100000 in
theorem times_all (s1 s2 : Bool) (A1 A2 A3 A4 : Option Addr) (n1 c1 n2 c2 n3 c3 n4 c4 : Nat) (x1 x2 x3 x4 : List Nat) (w : World)
    (h1 : Dg .u64 w A1 n1 c1 x1) (h2 : Dg .u64 w A2 n2 c2 x2) (h3 : Dg .u64 w A3 n3 c3 x3) (h4 : Dg .u64 w A4 n4 c4 x4)
    (b1 : n1 ≤ 400000) (b2 : n2 ≤ 400000) (b3 : n3 ≤ 400000) (b4 : n4 ≤ 400000) :
    Calls Tryz.prog 83 #[.agg #[.bool s1, .slice A1 n1 c1, .slice A2 n2 c2], .agg #[.bool s2, .slice A3 n3 c3, .slice A4 n4 c4]] w
      (RetR w ((s1 != s2) && decide (0 < vl (bs .u64) x1 * vl (bs .u64) x3)) (vl (bs .u64) x1 * vl (bs .u64) x3) (vl (bs .u64) x2 * vl (bs .u64) x4) (max (n1 + n3) (n2 + n4))) := by
  have B1 := ((Blk.new w 67 #[.bool s1, .slice A1 n1 c1, .slice A2 n2 c2]).alloc (.cells #[.bool s2, .slice A3 n3 c3, .slice A4 n4 c4] 67)).alloc (.cells #[.bool false, .slice none 0 0, .slice none 0 0] 67)
  have B2 := (Blk.new (w.alloc (.cells #[.bool s1, .slice A1 n1 c1, .slice A2 n2 c2] 67)) 67 #[.bool s2, .slice A3 n3 c3, .slice A4 n4 c4]).alloc (.cells #[.bool false, .slice none 0 0, .slice none 0 0] 67)
  have B3 := Blk.new ((w.alloc (.cells #[.bool s1, .slice A1 n1 c1, .slice A2 n2 c2] 67)).alloc (.cells #[.bool s2, .slice A3 n3 c3, .slice A4 n4 c4] 67)) 67 #[.bool false, .slice none 0 0, .slice none 0 0]
  have e1 : (w.alloc (.cells #[.bool s1, .slice A1 n1 c1, .slice A2 n2 c2] 67)).heap.size = w.heap.size + 1 := by simp
  have e2 : ((w.alloc (.cells #[.bool s1, .slice A1 n1 c1, .slice A2 n2 c2] 67)).alloc (.cells #[.bool s2, .slice A3 n3 c3, .slice A4 n4 c4] 67)).heap.size = w.heap.size + 1 + 1 := by simp
  have hw0 := (((Below.refl w.heap.size w).alloc (Nat.le_refl _) (.cells #[.bool s1, .slice A1 n1 c1, .slice A2 n2 c2] 67)).alloc (by rw [e1]; omega) (.cells #[.bool s2, .slice A3 n3 c3, .slice A4 n4 c4] 67)).alloc (by rw [e2]; omega) (.cells #[.bool false, .slice none 0 0, .slice none 0 0] 67)
  rw [e1] at B2
  rw [e2] at B3
  clear e1 e2
  have h1 := h1.below hw0
  have h2 := h2.below hw0
  have h3 := h3.below hw0
  have h4 := h4.below hw0
  go_enter Tryz.func83, Tryz.ntmps83
  go_upto_region 1 with fail
  generalize ((w.alloc (.cells #[.bool s1, .slice A1 n1 c1, .slice A2 n2 c2] 67)).alloc (.cells #[.bool s2, .slice A3 n3 c3, .slice A4 n4 c4] 67)).alloc (.cells #[.bool false, .slice none 0 0, .slice none 0 0] 67) = w1 at *
  have K1 : w1.cell? ⟨w.heap.size, 0, none⟩ = some (.bool s1) ∧ w1.cell? ⟨w.heap.size, 1, none⟩ = some (.slice A1 n1 c1) ∧ w1.cell? ⟨w.heap.size, 2, none⟩ = some (.slice A2 n2 c2) ∧ w1.cell? ⟨w.heap.size + 1, 0, none⟩ = some (.bool s2) ∧ w1.cell? ⟨w.heap.size + 1, 1, none⟩ = some (.slice A3 n3 c3) ∧ w1.cell? ⟨w.heap.size + 1, 2, none⟩ = some (.slice A4 n4 c4) := ⟨B1.cell 0, B1.cell 1, B1.cell 2, B2.cell 0, B2.cell 1, B2.cell 2⟩
  obtain ⟨k0, k1, k2, k3, k4, k5⟩ := K1
  go_region_held3 (fun wx => wx.cell? ⟨w.heap.size, 0, none⟩ = some (.bool s1) ∧ wx.cell? ⟨w.heap.size, 1, none⟩ = some (.slice A1 n1 c1) ∧ wx.cell? ⟨w.heap.size, 2, none⟩ = some (.slice A2 n2 c2) ∧ wx.cell? ⟨w.heap.size + 1, 0, none⟩ = some (.bool s2) ∧ wx.cell? ⟨w.heap.size + 1, 1, none⟩ = some (.slice A3 n3 c3) ∧ wx.cell? ⟨w.heap.size + 1, 2, none⟩ = some (.slice A4 n4 c4))
    (first | exact ⟨k0, k1, k2, k3, k4, k5⟩ | exact K5 | exact K6 | exact K7 | exact K8.out _ _ _)
    (first
      | (go_at_call_of 112 (Value.slice A1 n1 c1); refine (mul64_any _ _ _ _ _ _ _ _ _ h1.drew h3.drew (by omega) (by omega)).mono ?_; rintro e w5 ⟨A5, m5, c5, us5, rfl, hD5, hN5, hv5, hm5, hb5, hf5⟩; have P1 := B1.drew.below hb5; have P2 := B2.drew.below hb5; have K5 : w5.cell? ⟨w.heap.size, 0, none⟩ = some (.bool s1) ∧ w5.cell? ⟨w.heap.size, 1, none⟩ = some (.slice A1 n1 c1) ∧ w5.cell? ⟨w.heap.size, 2, none⟩ = some (.slice A2 n2 c2) ∧ w5.cell? ⟨w.heap.size + 1, 0, none⟩ = some (.bool s2) ∧ w5.cell? ⟨w.heap.size + 1, 1, none⟩ = some (.slice A3 n3 c3) ∧ w5.cell? ⟨w.heap.size + 1, 2, none⟩ = some (.slice A4 n4 c4) := ⟨P1.cell 0, P1.cell 1, P1.cell 2, P2.cell 0, P2.cell 1, P2.cell 2⟩)
      | (go_at_call_of 112 (Value.slice A2 n2 c2); refine (mul64_any _ _ _ _ _ _ _ _ _ (h2.drew.below hb5) (h4.drew.below hb5) (by omega) (by omega)).mono ?_; rintro e w6 ⟨A6, m6, c6, us6, rfl, hD6, hN6, hv6, hm6, hb6, hf6⟩; have P1 := (B1.drew.below hb5).below hb6; have P2 := (B2.drew.below hb5).below hb6; have K6 : w6.cell? ⟨w.heap.size, 0, none⟩ = some (.bool s1) ∧ w6.cell? ⟨w.heap.size, 1, none⟩ = some (.slice A1 n1 c1) ∧ w6.cell? ⟨w.heap.size, 2, none⟩ = some (.slice A2 n2 c2) ∧ w6.cell? ⟨w.heap.size + 1, 0, none⟩ = some (.bool s2) ∧ w6.cell? ⟨w.heap.size + 1, 1, none⟩ = some (.slice A3 n3 c3) ∧ w6.cell? ⟨w.heap.size + 1, 2, none⟩ = some (.slice A4 n4 c4) := ⟨P1.cell 0, P1.cell 1, P1.cell 2, P2.cell 0, P2.cell 1, P2.cell 2⟩)
      | (go_at_call 99; refine (signed_any _ _ _ _ _ _ _ _ (by omega)).mono ?_; rintro e w7 ⟨rfl, hb7⟩; have P1 := ((B1.drew.below hb5).below hb6).below hb7; have P2 := ((B2.drew.below hb5).below hb6).below hb7; have K7 : w7.cell? ⟨w.heap.size, 0, none⟩ = some (.bool s1) ∧ w7.cell? ⟨w.heap.size, 1, none⟩ = some (.slice A1 n1 c1) ∧ w7.cell? ⟨w.heap.size, 2, none⟩ = some (.slice A2 n2 c2) ∧ w7.cell? ⟨w.heap.size + 1, 0, none⟩ = some (.bool s2) ∧ w7.cell? ⟨w.heap.size + 1, 1, none⟩ = some (.slice A3 n3 c3) ∧ w7.cell? ⟨w.heap.size + 1, 2, none⟩ = some (.slice A4 n4 c4) := ⟨P1.cell 0, P1.cell 1, P1.cell 2, P2.cell 0, P2.cell 1, P2.cell 2⟩; have K8 := Lib.hid (show ∀ a b d, (((w7.setCell ⟨w.heap.size + 1 + 1, 0, none⟩ a).setCell ⟨w.heap.size + 1 + 1, 1, none⟩ b).setCell ⟨w.heap.size + 1 + 1, 2, none⟩ d).cell? ⟨w.heap.size, 0, none⟩ = some (.bool s1) ∧ (((w7.setCell ⟨w.heap.size + 1 + 1, 0, none⟩ a).setCell ⟨w.heap.size + 1 + 1, 1, none⟩ b).setCell ⟨w.heap.size + 1 + 1, 2, none⟩ d).cell? ⟨w.heap.size, 1, none⟩ = some (.slice A1 n1 c1) ∧ (((w7.setCell ⟨w.heap.size + 1 + 1, 0, none⟩ a).setCell ⟨w.heap.size + 1 + 1, 1, none⟩ b).setCell ⟨w.heap.size + 1 + 1, 2, none⟩ d).cell? ⟨w.heap.size, 2, none⟩ = some (.slice A2 n2 c2) ∧ (((w7.setCell ⟨w.heap.size + 1 + 1, 0, none⟩ a).setCell ⟨w.heap.size + 1 + 1, 1, none⟩ b).setCell ⟨w.heap.size + 1 + 1, 2, none⟩ d).cell? ⟨w.heap.size + 1, 0, none⟩ = some (.bool s2) ∧ (((w7.setCell ⟨w.heap.size + 1 + 1, 0, none⟩ a).setCell ⟨w.heap.size + 1 + 1, 1, none⟩ b).setCell ⟨w.heap.size + 1 + 1, 2, none⟩ d).cell? ⟨w.heap.size + 1, 1, none⟩ = some (.slice A3 n3 c3) ∧ (((w7.setCell ⟨w.heap.size + 1 + 1, 0, none⟩ a).setCell ⟨w.heap.size + 1 + 1, 1, none⟩ b).setCell ⟨w.heap.size + 1 + 1, 2, none⟩ d).cell? ⟨w.heap.size + 1, 2, none⟩ = some (.slice A4 n4 c4) from fun a b d => ⟨(cell_set3 _ _ _ _ _ _ (by show w.heap.size ≠ _; omega)).trans K7.1, (cell_set3 _ _ _ _ _ _ (by show w.heap.size ≠ _; omega)).trans K7.2.1, (cell_set3 _ _ _ _ _ _ (by show w.heap.size ≠ _; omega)).trans K7.2.2.1, (cell_set3 _ _ _ _ _ _ (by show w.heap.size + 1 ≠ _; omega)).trans K7.2.2.2.1, (cell_set3 _ _ _ _ _ _ (by show w.heap.size + 1 ≠ _; omega)).trans K7.2.2.2.2.1, (cell_set3 _ _ _ _ _ _ (by show w.heap.size + 1 ≠ _; omega)).trans K7.2.2.2.2.2⟩); have P3 := ((B3.drew.below hb5).below hb6).below hb7; have r0 := P3.cell 0; have r1 := P3.cell 1; have r2 := P3.cell 2; have f0 := P3.frozen 0; have f1 := P3.frozen 1; have f2 := P3.frozen 2))
  have hw5 := (hw0.drew).trans (hb5.mono hw0.size)
  have hw6 := hw5.trans (hb6.mono hw5.size)
  have hw7 := hw6.trans (hb7.mono hw6.size)
  have hD5 := (hD5.below hb6).below hb7
  have hD6 := hD6.below hb7
  have hp := nv_pos hD5 hN5 (by decide) hv5
  have hlt := B3.lt
  have hlt5 := hb5.size
  have g5 := Lib.hid (show ∀ ad, A5 = some ad → w.heap.size + 1 + 1 < ad.block from fun ad he => Nat.lt_of_lt_of_le hlt (hf5.out ad he))
  have g6 := Lib.hid (show ∀ ad, A6 = some ad → w.heap.size + 1 + 1 < ad.block from fun ad he => Nat.lt_of_lt_of_le hlt (Nat.le_trans hlt5 (hf6.out ad he)))
  have Hp := Lib.hid hp
  clear hp
  go_wp2
  exact ret_rat rfl rfl (((P3.set_ 0 _).set_ 1 _).set_ 2 _) rfl ⟨_, rfl, ⟨_, _, by rw [← Hp.out]; rfl, NV.mk (((hD5.far g5.out 0 _).far g5.out 1 _).far g5.out 2 _) hN5 hv5 (by omega), NV.mk (((hD6.far g6.out 0 _).far g6.out 1 _).far g6.out 2 _) hN6 hv6 (by omega)⟩, bel_set3 hw7 (by omega) _ _ _⟩

set_option maxHeartbeats 3200000 in
set_option maxRecDepth 100000 in
theorem cmpR_all (s1 s2 : Bool) (A1 A2 A3 A4 : Option Addr) (n1 c1 n2 c2 n3 c3 n4 c4 : Nat) (x1 x2 x3 x4 : List Nat) (w : World)
    (h1 : Dg .u64 w A1 n1 c1 x1) (h2 : Dg .u64 w A2 n2 c2 x2) (h3 : Dg .u64 w A3 n3 c3 x3) (h4 : Dg .u64 w A4 n4 c4 x4) (N1 : Nrm x1) (N3 : Nrm x3)
    (X1 X2 X3 X4 : Nat) (v1 : Hid (vl (bs .u64) x1 = X1)) (v2 : Hid (vl (bs .u64) x2 = X2)) (v3 : Hid (vl (bs .u64) x3 = X3)) (v4 : Hid (vl (bs .u64) x4 = X4))
    (b1 : n1 ≤ 400000) (b2 : n2 ≤ 400000) (b3 : n3 ≤ 400000) (b4 : n4 ≤ 400000) :
    Calls Tryz.prog 101 #[.agg #[.bool s1, .slice A1 n1 c1, .slice A2 n2 c2], .agg #[.bool s2, .slice A3 n3 c3, .slice A4 n4 c4]] w
      fun e w' => e = .returned (.int .i64 (rord s1 X1 X2 s2 X3 X4)) ∧ Below w.heap.size w w' := by
  have B1 := (Blk.new w 67 #[.bool s1, .slice A1 n1 c1, .slice A2 n2 c2]).alloc (.cells #[.bool s2, .slice A3 n3 c3, .slice A4 n4 c4] 67)
  have B2 := Blk.new (w.alloc (.cells #[.bool s1, .slice A1 n1 c1, .slice A2 n2 c2] 67)) 67 #[.bool s2, .slice A3 n3 c3, .slice A4 n4 c4]
  have e1 : (w.alloc (.cells #[.bool s1, .slice A1 n1 c1, .slice A2 n2 c2] 67)).heap.size = w.heap.size + 1 := by simp
  have hw0 := ((Below.refl w.heap.size w).alloc (Nat.le_refl _) (.cells #[.bool s1, .slice A1 n1 c1, .slice A2 n2 c2] 67)).alloc (by rw [e1]; omega) (.cells #[.bool s2, .slice A3 n3 c3, .slice A4 n4 c4] 67)
  rw [e1] at B2
  clear e1
  have h1 := h1.below hw0
  have h2 := h2.below hw0
  have h3 := h3.below hw0
  have h4 := h4.below hw0
  go_enter Tryz.func101, Tryz.ntmps101
  go_upto_region 1 with fail
  generalize (w.alloc (.cells #[.bool s1, .slice A1 n1 c1, .slice A2 n2 c2] 67)).alloc (.cells #[.bool s2, .slice A3 n3 c3, .slice A4 n4 c4] 67) = w1 at *
  have K1 : w1.cell? ⟨w.heap.size, 0, none⟩ = some (.bool s1) ∧ w1.cell? ⟨w.heap.size, 1, none⟩ = some (.slice A1 n1 c1) ∧ w1.cell? ⟨w.heap.size, 2, none⟩ = some (.slice A2 n2 c2) ∧ w1.cell? ⟨w.heap.size + 1, 0, none⟩ = some (.bool s2) ∧ w1.cell? ⟨w.heap.size + 1, 1, none⟩ = some (.slice A3 n3 c3) ∧ w1.cell? ⟨w.heap.size + 1, 2, none⟩ = some (.slice A4 n4 c4) := ⟨B1.cell 0, B1.cell 1, B1.cell 2, B2.cell 0, B2.cell 1, B2.cell 2⟩
  obtain ⟨k0, k1, k2, k3, k4, k5⟩ := K1
  go_region_held3 (fun wx => wx.cell? ⟨w.heap.size, 0, none⟩ = some (.bool s1) ∧ wx.cell? ⟨w.heap.size, 1, none⟩ = some (.slice A1 n1 c1) ∧ wx.cell? ⟨w.heap.size, 2, none⟩ = some (.slice A2 n2 c2) ∧ wx.cell? ⟨w.heap.size + 1, 0, none⟩ = some (.bool s2) ∧ wx.cell? ⟨w.heap.size + 1, 1, none⟩ = some (.slice A3 n3 c3) ∧ wx.cell? ⟨w.heap.size + 1, 2, none⟩ = some (.slice A4 n4 c4))
    (first | exact ⟨k0, k1, k2, k3, k4, k5⟩ | exact K5 | exact K6 | exact K7)
    (first
      | (go_at_call_of 97 (Value.agg #[.bool s1, .slice A1 n1 c1, .slice A2 n2 c2]); refine (sign_bel _ _ _ _ _ _ _ _ _ h1.drew N1 X1 v1).mono ?_; rintro e w5 ⟨rfl, hb5⟩; have P1 := B1.drew.below hb5; have P2 := B2.drew.below hb5; have K5 : w5.cell? ⟨w.heap.size, 0, none⟩ = some (.bool s1) ∧ w5.cell? ⟨w.heap.size, 1, none⟩ = some (.slice A1 n1 c1) ∧ w5.cell? ⟨w.heap.size, 2, none⟩ = some (.slice A2 n2 c2) ∧ w5.cell? ⟨w.heap.size + 1, 0, none⟩ = some (.bool s2) ∧ w5.cell? ⟨w.heap.size + 1, 1, none⟩ = some (.slice A3 n3 c3) ∧ w5.cell? ⟨w.heap.size + 1, 2, none⟩ = some (.slice A4 n4 c4) := ⟨P1.cell 0, P1.cell 1, P1.cell 2, P2.cell 0, P2.cell 1, P2.cell 2⟩)
      | (go_at_call_of 97 (Value.agg #[.bool s2, .slice A3 n3 c3, .slice A4 n4 c4]); refine (sign_bel _ _ _ _ _ _ _ _ _ (h3.drew.below hb5) N3 X3 v3).mono ?_; rintro e w6 ⟨rfl, hb6⟩; have P1 := (B1.drew.below hb5).below hb6; have P2 := (B2.drew.below hb5).below hb6; have K6 : w6.cell? ⟨w.heap.size, 0, none⟩ = some (.bool s1) ∧ w6.cell? ⟨w.heap.size, 1, none⟩ = some (.slice A1 n1 c1) ∧ w6.cell? ⟨w.heap.size, 2, none⟩ = some (.slice A2 n2 c2) ∧ w6.cell? ⟨w.heap.size + 1, 0, none⟩ = some (.bool s2) ∧ w6.cell? ⟨w.heap.size + 1, 1, none⟩ = some (.slice A3 n3 c3) ∧ w6.cell? ⟨w.heap.size + 1, 2, none⟩ = some (.slice A4 n4 c4) := ⟨P1.cell 0, P1.cell 1, P1.cell 2, P2.cell 0, P2.cell 1, P2.cell 2⟩)
      | (go_at_call 131; refine (compare_any _ _ _).mono ?_; rintro e w7 ⟨rfl, rfl⟩))
  have hw5 := (hw0.drew).trans (hb5.mono hw0.size)
  have hw6 := hw5.trans (hb6.mono hw5.size)
  have h1 := (h1.drew.below hb5).below hb6
  have h2 := (h2.drew.below hb5).below hb6
  have h3 := (h3.drew.below hb5).below hb6
  have h4 := (h4.drew.below hb5).below hb6
  have Q1 := (B1.drew.below hb5).below hb6
  have Q2 := (B2.drew.below hb5).below hb6
  clear B1 B2 hb5 hb6 hw5 k0 k1 k2 k3 k4 k5 K5
  by_cases hc : Lib.compareInt (sgn s1 X1) (sgn s2 X3) = 0
  · have Hr := Lib.hid (show rord s1 X1 X2 s2 X3 X4 = if s1 then -ord (X1 * X4) (X3 * X2) else ord (X1 * X4) (X3 * X2) by unfold rord; rw [if_pos hc])
    have hne : (Lib.compareInt (sgn s1 X1) (sgn s2 X3) != 0) = false := by rw [hc]; rfl
    clear hc
    obtain ⟨k0, k1, k2, k3, k4, k5⟩ := K6
    go_upto_region 4 with fail
    go_region_held3 (fun wx => wx.cell? ⟨w.heap.size, 0, none⟩ = some (.bool s1) ∧ wx.cell? ⟨w.heap.size, 1, none⟩ = some (.slice A1 n1 c1) ∧ wx.cell? ⟨w.heap.size, 2, none⟩ = some (.slice A2 n2 c2) ∧ wx.cell? ⟨w.heap.size + 1, 0, none⟩ = some (.bool s2) ∧ wx.cell? ⟨w.heap.size + 1, 1, none⟩ = some (.slice A3 n3 c3) ∧ wx.cell? ⟨w.heap.size + 1, 2, none⟩ = some (.slice A4 n4 c4))
      (first | exact ⟨k0, k1, k2, k3, k4, k5⟩ | exact K5 | exact K7 | exact K8)
      (first
        | (go_at_call_of 112 (Value.slice A1 n1 c1); refine (mul64_any _ _ _ _ _ _ _ _ _ h1.drew h4.drew (by omega) (by omega)).mono ?_; rintro e w7 ⟨A5, m5, c5, us5, rfl, hD5, hN5, hv5, hm5, hb5, hf5⟩; have P1 := Q1.drew.below hb5; have P2 := Q2.drew.below hb5; have K5 : w7.cell? ⟨w.heap.size, 0, none⟩ = some (.bool s1) ∧ w7.cell? ⟨w.heap.size, 1, none⟩ = some (.slice A1 n1 c1) ∧ w7.cell? ⟨w.heap.size, 2, none⟩ = some (.slice A2 n2 c2) ∧ w7.cell? ⟨w.heap.size + 1, 0, none⟩ = some (.bool s2) ∧ w7.cell? ⟨w.heap.size + 1, 1, none⟩ = some (.slice A3 n3 c3) ∧ w7.cell? ⟨w.heap.size + 1, 2, none⟩ = some (.slice A4 n4 c4) := ⟨P1.cell 0, P1.cell 1, P1.cell 2, P2.cell 0, P2.cell 1, P2.cell 2⟩)
        | (go_at_call_of 112 (Value.slice A3 n3 c3); refine (mul64_any _ _ _ _ _ _ _ _ _ (h3.drew.below hb5) (h2.drew.below hb5) (by omega) (by omega)).mono ?_; rintro e w8 ⟨A6, m6, c6, us6, rfl, hD6, hN6, hv6, hm6, hb6, hf6⟩; have P1 := (Q1.drew.below hb5).below hb6; have P2 := (Q2.drew.below hb5).below hb6; have K7 : w8.cell? ⟨w.heap.size, 0, none⟩ = some (.bool s1) ∧ w8.cell? ⟨w.heap.size, 1, none⟩ = some (.slice A1 n1 c1) ∧ w8.cell? ⟨w.heap.size, 2, none⟩ = some (.slice A2 n2 c2) ∧ w8.cell? ⟨w.heap.size + 1, 0, none⟩ = some (.bool s2) ∧ w8.cell? ⟨w.heap.size + 1, 1, none⟩ = some (.slice A3 n3 c3) ∧ w8.cell? ⟨w.heap.size + 1, 2, none⟩ = some (.slice A4 n4 c4) := ⟨P1.cell 0, P1.cell 1, P1.cell 2, P2.cell 0, P2.cell 1, P2.cell 2⟩)
        | (go_at_call 107; refine (cmp64_any _ _ _ _ _ _ _ _ _ (hD5.below hb6) hD6 hN5 hN6 _ _ hv5 hv6).mono ?_; rintro e w9 ⟨nd, rfl, rfl⟩; have P1 := ((Q1.drew.below hb5).below hb6).drewN nd; have P2 := ((Q2.drew.below hb5).below hb6).drewN nd; have K8 : (w8.drewN nd).cell? ⟨w.heap.size, 0, none⟩ = some (.bool s1) ∧ (w8.drewN nd).cell? ⟨w.heap.size, 1, none⟩ = some (.slice A1 n1 c1) ∧ (w8.drewN nd).cell? ⟨w.heap.size, 2, none⟩ = some (.slice A2 n2 c2) ∧ (w8.drewN nd).cell? ⟨w.heap.size + 1, 0, none⟩ = some (.bool s2) ∧ (w8.drewN nd).cell? ⟨w.heap.size + 1, 1, none⟩ = some (.slice A3 n3 c3) ∧ (w8.drewN nd).cell? ⟨w.heap.size + 1, 2, none⟩ = some (.slice A4 n4 c4) := ⟨P1.cell 0, P1.cell 1, P1.cell 2, P2.cell 0, P2.cell 1, P2.cell 2⟩))
    rw [v1.out, v2.out, v3.out, v4.out] at *
    have hw7 := (hw6.drew).trans (hb5.mono hw6.size)
    have hw8 := hw7.trans (hb6.mono hw7.size)
    have hw9 := bel_drewN hw8 nd
    have ob : -1 ≤ ord (X1 * X4) (X3 * X2) ∧ ord (X1 * X4) (X3 * X2) ≤ 1 := by rcases ord_cases (X1 * X4) (X3 * X2) with h | h | h <;> rw [h] <;> omega
    obtain ⟨ob1, ob2⟩ := ob
    generalize ord (X1 * X4) (X3 * X2) = od at *
    obtain ⟨k0, _, _, _, _, _⟩ := K8
    cases s1 with
    | true =>
      go_wp2
      go_ret
      exact ⟨ret_i64 (by rw [Hr.out]; rfl), hw9⟩
    | false =>
      go_wp2
      go_ret
      exact ⟨ret_i64 (by rw [Hr.out]; rfl), hw9⟩
  · have Hr := Lib.hid (show rord s1 X1 X2 s2 X3 X4 = Lib.compareInt (sgn s1 X1) (sgn s2 X3) by unfold rord; rw [if_neg hc])
    have hne : (Lib.compareInt (sgn s1 X1) (sgn s2 X3) != 0) = true := by rw [bne_iff_ne]; exact hc
    clear hc
    go_wp2
    go_ret
    exact ⟨ret_i64 Hr.out.symm, hw6⟩

set_option maxHeartbeats 1600000 in
set_option maxRecDepth 100000 in
theorem reduce_all (s : Bool) (A A' : Option Addr) (n c n' c' : Nat) (xs ys : List Nat) (w : World) (h : Dg .u64 w A n c xs) (h' : Dg .u64 w A' n' c' ys) (hN : Nrm xs) (hN' : Nrm ys) (X Y : Nat) (hX : Hid (vl (bs .u64) xs = X)) (hY : Hid (vl (bs .u64) ys = Y))
    (hn : n ≤ 300000) (hn' : n' ≤ 300000) (hY0 : 0 < Y) :
    Calls Tryz.prog 78 #[.agg #[.bool s, .slice A n c, .slice A' n' c']] w (RetR w s (X / X.gcd Y) (Y / X.gcd Y) (max n n')) := by
  have B1 := (Blk.new w 67 #[.bool s, .slice A n c, .slice A' n' c']).alloc (.cells #[.bool false, .slice none 0 0, .slice none 0 0] 67)
  have B2 := Blk.new (w.alloc (.cells #[.bool s, .slice A n c, .slice A' n' c'] 67)) 67 #[.bool false, .slice none 0 0, .slice none 0 0]
  have e1 : (w.alloc (.cells #[.bool s, .slice A n c, .slice A' n' c'] 67)).heap.size = w.heap.size + 1 := by simp
  have hw0 := ((Below.refl w.heap.size w).alloc (Nat.le_refl _) (.cells #[.bool s, .slice A n c, .slice A' n' c'] 67)).alloc (by rw [e1]; omega) (.cells #[.bool false, .slice none 0 0, .slice none 0 0] 67)
  rw [e1] at B2
  clear e1
  have h1 := h.below hw0
  have h2 := h'.below hw0
  have hG0 : 0 < X.gcd Y := Nat.gcd_pos_of_pos_right _ hY0
  go_enter Tryz.func78, Tryz.ntmps78
  go_upto_region 1 with fail
  generalize (w.alloc (.cells #[.bool s, .slice A n c, .slice A' n' c'] 67)).alloc (.cells #[.bool false, .slice none 0 0, .slice none 0 0] 67) = w1 at *
  have k0 : w1.cell? ⟨w.heap.size, 0, none⟩ = some (.bool s) := B1.cell 0
  have k1 : w1.cell? ⟨w.heap.size, 1, none⟩ = some (.slice A n c) := B1.cell 1
  have k2 : w1.cell? ⟨w.heap.size, 2, none⟩ = some (.slice A' n' c') := B1.cell 2
  go_wp2_with fail
  by_cases hY1 : Y = 1
  · have HY1 := Lib.hid hY1
    clear hY1
    refine (isOne_any _ _ _ _ _ h2 hN' _ hY true (decide_eq_true HY1.out)).mono ?_
    rintro e w' ⟨rfl, rfl⟩
    have r0 := B2.cell 0
    have r1 := B2.cell 1
    have r2 := B2.cell 2
    have f0 := B2.frozen 0
    have f1 := B2.frozen 1
    have f2 := B2.frozen 2
    go_wp2
    have hne1 := Lib.hid (show 0 < n → ∀ ad, A = some ad → ad.block ≠ w.heap.size + 1 from fun hp ad he => by have := h.blt hp ad he; omega)
    have hne2 := Lib.hid (show 0 < n' → ∀ ad, A' = some ad → ad.block ≠ w.heap.size + 1 from fun hp ad he => by have := h'.blt hp ad he; omega)
    exact ret_rat rfl rfl (((B2.set_ 0 _).set_ 1 _).set_ 2 _) rfl ⟨_, rfl, ⟨_, _, rfl, NV.mk (((h1.farp hne1.out 0 _).farp hne1.out 1 _).farp hne1.out 2 _) hN (show _ = _ by rw [hX.out, HY1.out, Nat.gcd_one_right, Nat.div_one]) (by omega), NV.mk (((h2.farp hne2.out 0 _).farp hne2.out 1 _).farp hne2.out 2 _) hN' (show _ = _ by rw [hY.out, HY1.out, Nat.gcd_one_right]) (by omega)⟩, bel_set3 hw0 (by omega) _ _ _⟩
  have HY1 := Lib.hid hY1
  clear hY1
  refine (isOne_any _ _ _ _ _ h2 hN' _ hY false (decide_eq_false HY1.out)).mono ?_
  rintro e w' ⟨rfl, rfl⟩
  go_wp2_with fail
  refine (gcd64_any _ _ _ _ _ _ _ _ _ h1 h2 hN hN' X Y hX hY (by omega) (by omega)).mono ?_
  rintro e w2 ⟨A3, m3, c3, us3, rfl, hD3, hN3, hv3, hm3, hb2⟩
  have C1 := B1.below hb2
  have C2 := B2.below hb2
  have hw2 := hw0.trans (hb2.mono hw0.size)
  have q1 := h1.below hb2
  have q2 := h2.below hb2
  have k0 : w2.cell? ⟨w.heap.size, 0, none⟩ = some (.bool s) := C1.cell 0
  have k1 : w2.cell? ⟨w.heap.size, 1, none⟩ = some (.slice A n c) := C1.cell 1
  have k2 : w2.cell? ⟨w.heap.size, 2, none⟩ = some (.slice A' n' c') := C1.cell 2
  have hfx := Lib.hid (fun (hp : 0 < n) => h1.blt hp)
  by_cases hG1 : X.gcd Y = 1
  · have HG1 := Lib.hid hG1
    clear hG1
    go_wp2_with fail
    refine (isOne_any _ _ _ _ _ hD3 hN3 _ hv3 true (decide_eq_true HG1.out)).mono ?_
    rintro e w' ⟨rfl, rfl⟩
    have r0 := C2.cell 0
    have r1 := C2.cell 1
    have r2 := C2.cell 2
    have f0 := C2.frozen 0
    have f1 := C2.frozen 1
    have f2 := C2.frozen 2
    go_wp2
    have hne1 := Lib.hid (show 0 < n → ∀ ad, A = some ad → ad.block ≠ w.heap.size + 1 from fun hp ad he => by have := h.blt hp ad he; omega)
    have hne2 := Lib.hid (show 0 < n' → ∀ ad, A' = some ad → ad.block ≠ w.heap.size + 1 from fun hp ad he => by have := h'.blt hp ad he; omega)
    exact ret_rat rfl rfl (((C2.set_ 0 _).set_ 1 _).set_ 2 _) rfl ⟨_, rfl, ⟨_, _, rfl, NV.mk (((q1.farp hne1.out 0 _).farp hne1.out 1 _).farp hne1.out 2 _) hN (show _ = _ by rw [hX.out, HG1.out, Nat.div_one]) (by omega), NV.mk (((q2.farp hne2.out 0 _).farp hne2.out 1 _).farp hne2.out 2 _) hN' (show _ = _ by rw [hY.out, HG1.out, Nat.div_one]) (by omega)⟩, bel_set3 hw2 (by omega) _ _ _⟩
  · have HG1 := Lib.hid hG1
    clear hG1
    go_wp2_with fail
    refine (isOne_any _ _ _ _ _ hD3 hN3 _ hv3 false (decide_eq_false HG1.out)).mono ?_
    rintro e w' ⟨rfl, rfl⟩
    go_wp2_with fail
    refine (divide64_any _ _ _ _ _ _ _ _ _ q1 hD3 hN hN3 X _ hX hv3 (by omega) hG0).mono ?_
    rintro e w4 ⟨_, _, rfl, ⟨A4, m4, c4, us4, rfl, hD4, hN4, hv4, hm4⟩, ⟨A5, m5, c5, us5, rfl, _, _, _, _⟩, hb4, hf4⟩
    have D1 := C1.below hb4
    have D2 := C2.below hb4
    have hw4 := hw2.trans (hb4.mono hw2.size)
    have k0 : w4.cell? ⟨w.heap.size, 0, none⟩ = some (.bool s) := D1.cell 0
    have k2 : w4.cell? ⟨w.heap.size, 2, none⟩ = some (.slice A' n' c') := D1.cell 2
    go_wp2_with fail
    refine (divide64_any _ _ _ _ _ _ _ _ _ (q2.below hb4) (hD3.below hb4) hN' hN3 Y _ hY hv3 (by omega) hG0).mono ?_
    rintro e w6 ⟨_, _, rfl, ⟨A6, m6, c6, us6, rfl, hD6, hN6, hv6, hm6⟩, ⟨A7, m7, c7, us7, rfl, _, _, _, _⟩, hb6, hf6⟩
    have E1 := D1.below hb6
    have E2 := D2.below hb6
    have hw6 := hw4.trans (hb6.mono hw4.size)
    have k0 : w6.cell? ⟨w.heap.size, 0, none⟩ = some (.bool s) := E1.cell 0
    have r0 := E2.cell 0
    have r1 := E2.cell 1
    have r2 := E2.cell 2
    have f0 := E2.frozen 0
    have f1 := E2.frozen 1
    have f2 := E2.frozen 2
    have hl2 := C2.lt
    have hs4 := hb4.size
    have g4 := Lib.hid (show ∀ ad, A4 = some ad → w.heap.size + 1 < ad.block from fun ad he => Nat.lt_of_lt_of_le hl2 (hf4.out _ _ _ rfl ad he))
    have g6 := Lib.hid (show ∀ ad, A6 = some ad → w.heap.size + 1 < ad.block from fun ad he => Nat.lt_of_lt_of_le hl2 (Nat.le_trans hs4 (hf6.out _ _ _ rfl ad he)))
    have hD4 := hD4.below hb6
    clear hf4 hf6
    go_wp2
    exact ret_rat rfl rfl (((E2.set_ 0 _).set_ 1 _).set_ 2 _) rfl ⟨_, rfl, ⟨_, _, rfl, nv_short (((hD4.far g4.out 0 _).far g4.out 1 _).far g4.out 2 _) hN4 hv4 h.ok rfl hX.out (Nat.div_le_self _ _) |>.le (by rw [h.len]; omega), nv_short (((hD6.far g6.out 0 _).far g6.out 1 _).far g6.out 2 _) hN6 hv6 h'.ok rfl hY.out (Nat.div_le_self _ _) |>.le (by rw [h'.len]; omega)⟩, bel_set3 hw6 (by omega) _ _ _⟩

set_option maxHeartbeats 1600000 in
theorem store_all (s : Bool) (A A' : Option Addr) (n c n' c' : Nat) (xs ys : List Nat) (w : World) (h : Dg .u64 w A n c xs) (h' : Dg .u64 w A' n' c' ys) (hN : Nrm xs) (hN' : Nrm ys) (X Y : Nat) (hX : Hid (vl (bs .u64) xs = X)) (hY : Hid (vl (bs .u64) ys = Y))
    (hn : n ≤ 100000) (hn' : n' ≤ 100000) (hY0 : 0 < Y) :
    Calls Tryz.prog 71 #[.agg #[.bool s, .slice A n c, .slice A' n' c']] w fun e w' => ∃ v, e = .returned v ∧ FV w' v s (X / X.gcd Y) (dw (Y / X.gcd Y)) (2 * max n n') ∧ Below w.heap.size w w' := by
  have B2 := Blk.new (w.alloc (.cells #[.bool s, .slice A n c, .slice A' n' c'] 67)) 24 #[.bool false, .slice none 0 0, .slice none 0 0]
  have e1 : (w.alloc (.cells #[.bool s, .slice A n c, .slice A' n' c'] 67)).heap.size = w.heap.size + 1 := by simp
  have hw0 := ((Below.refl w.heap.size w).alloc (Nat.le_refl _) (.cells #[.bool s, .slice A n c, .slice A' n' c'] 67)).alloc (by rw [e1]; omega) (.cells #[.bool false, .slice none 0 0, .slice none 0 0] 24)
  rw [e1] at B2
  clear e1
  go_enter Tryz.func71, Tryz.ntmps71
  go_wp2_with fail
  generalize (w.alloc (.cells #[.bool s, .slice A n c, .slice A' n' c'] 67)).alloc (.cells #[.bool false, .slice none 0 0, .slice none 0 0] 24) = w1 at *
  refine (reduce_all _ _ _ _ _ _ _ _ _ _ (h.below hw0) (h'.below hw0) hN hN' X Y hX hY (by omega) (by omega) hY0).mono ?_
  rintro e w2 ⟨_, rfl, ⟨_, _, rfl, ⟨A3, m3, c3, us3, rfl, hD3, hN3, hv3, hm3⟩, ⟨A4, m4, c4, us4, rfl, hD4, hN4, hv4, hm4⟩⟩, hb2⟩
  have C2 := B2.below hb2
  have hw2 := hw0.trans (hb2.mono hw0.size)
  go_wp2_with fail
  refine (keep_any _ _ _ _ _ _ _ _ _ _ hD3 hD4 hN3 hN4 _ _ hv3 hv4 (by omega) (by omega)).mono ?_
  rintro e w3 ⟨_, rfl, ⟨_, _, rfl, n5, n6⟩, hb3⟩
  have C3 := C2.below hb3
  have hw3 := hw2.trans (hb3.mono hw2.size)
  have r0 := C3.cell 0
  have r1 := C3.cell 1
  have r2 := C3.cell 2
  have f0 := C3.frozen 0
  have f1 := C3.frozen 1
  have f2 := C3.frozen 2
  have n5' := (n5.le (show 2 * max m3 m4 ≤ 2 * max n n' by omega))
  have n6' := (n6.le (show 2 * max m3 m4 ≤ 2 * max n n' by omega))
  obtain ⟨A5, m5, c5, us5, rfl, _⟩ := n5
  obtain ⟨A6, m6, c6, us6, rfl, _⟩ := n6
  go_wp2
  exact ret_frac rfl rfl (((C3.set_ 0 _).set_ 1 _).set_ 2 _) rfl ⟨_, rfl, ⟨_, _, rfl, nv_set3 n5' C3 _ _ _, nv_set3 n6' C3 _ _ _⟩, bel_set3 hw3 (by omega) _ _ _⟩

end Go.Proofs.YtbgihlfblmilmaaGreatDoor.Fr

/- The values of numbers as rational numbers of Lean's own. -/
namespace Go.Proofs.YtbgihlfblmilmaaGreatDoor.Fr
open Go.RowKit Num

/-- the value of a sign, a numerator and a denominator -/
def fq (s : Bool) (N D : Nat) : Rat := mkRat (if s then -(N : Int) else (N : Int)) D
theorem sg_abs (s : Bool) (N : Nat) : (if s then -(N : Int) else (N : Int)).natAbs = N := by cases s <;> simp
theorem fq_num {s : Bool} {N D : Nat} (hD : 0 < D) : (fq s N D).num = (if s then -((N / N.gcd D : Nat) : Int) else ((N / N.gcd D : Nat) : Int)) := by
  unfold fq
  rw [Rat.num_mkRat, if_neg (by omega), sg_abs, Nat.gcd_comm D N]
  have hd := Nat.gcd_dvd_left N D
  obtain ⟨k, hk⟩ := hd
  have hg : 0 < N.gcd D := Nat.gcd_pos_of_pos_right N hD
  cases s with
  | true =>
    simp only [if_true]
    rw [Int.natCast_ediv, Int.neg_ediv_of_dvd]
    exact Int.natCast_dvd_natCast.2 (Nat.gcd_dvd_left N D)
  | false => simp
theorem fq_abs {s : Bool} {N D : Nat} (hD : 0 < D) : (fq s N D).num.natAbs = N / N.gcd D := by rw [fq_num hD]; exact sg_abs s _
theorem fq_den {s : Bool} {N D : Nat} (hD : 0 < D) : (fq s N D).den = D / N.gcd D := by
  unfold fq
  rw [Rat.den_mkRat, if_neg (by omega), sg_abs, Nat.gcd_comm D N]
theorem fq_lt {s : Bool} {N D : Nat} (hD : 0 < D) : decide ((fq s N D).num < 0) = (s && decide (0 < N)) := by
  have h1 : 0 < N → 0 < N / N.gcd D := fun h => gcd_div_pos' h
  rw [fq_num hD]
  cases s with
  | true =>
    simp only [if_true, Bool.true_and]
    by_cases h : 0 < N
    · rw [decide_eq_true h, decide_eq_true (by have := h1 h; omega)]
    · rw [decide_eq_false h]
      have : N = 0 := by omega
      subst this; simp
  | false =>
    rw [if_neg (by simp), Bool.false_and, decide_eq_false (Int.not_lt.2 (Int.natCast_nonneg _))]
theorem fq_self (q : Rat) : fq (decide (q.num < 0)) q.num.natAbs q.den = q := by
  unfold fq
  have : (if decide (q.num < 0) = true then -(q.num.natAbs : Int) else (q.num.natAbs : Int)) = q.num := by
    by_cases h : q.num < 0
    · rw [decide_eq_true h, if_pos rfl]; omega
    · rw [decide_eq_false h, if_neg (by simp)]; omega
  rw [this, Rat.mkRat_self]
theorem fq_zero {s : Bool} {N D : Nat} (hD : 0 < D) : fq s N D = 0 ↔ N = 0 := by
  unfold fq
  rw [Rat.mkRat_eq_zero (by omega)]
  cases s <;> simp
theorem fq_mul (s1 s2 : Bool) (N1 D1 N2 D2 : Nat) : fq s1 N1 D1 * fq s2 N2 D2 = fq (s1 != s2) (N1 * N2) (D1 * D2) := by
  unfold fq
  rw [Rat.mkRat_mul_mkRat]
  congr 1
  cases s1 <;> cases s2 <;> simp [Int.mul_neg, Int.neg_mul]
theorem fq_neg {s : Bool} {N D : Nat} : -fq s N D = fq (!s) N D := by
  unfold fq
  rw [Rat.neg_mkRat]
  congr 1
  cases s <;> simp
theorem fq_sign {s : Bool} {N D : Nat} : fq (s && decide (0 < N)) N D = fq s N D := by
  cases s with
  | false => rfl
  | true =>
    by_cases h : 0 < N
    · rw [decide_eq_true h]; rfl
    · have : N = 0 := by omega
      subst this; rfl
theorem fq_div (s : Bool) (N D : Nat) : fq s N D = (if s then -(N : Rat) else (N : Rat)) / (D : Rat) := by
  unfold fq
  rw [Rat.mkRat_eq_div]
  cases s
  · rfl
  · simp only [if_true, Rat.intCast_neg]; rfl
theorem fq_inv {s : Bool} {N D : Nat} (hN : 0 < N) (hD : 0 < D) : (fq s N D)⁻¹ = fq s D N := by
  rw [fq_div, fq_div]
  have h1 : (N : Rat) ≠ 0 := by intro h; have := Rat.natCast_eq_zero_iff.1 h; omega
  have h2 : (D : Rat) ≠ 0 := by intro h; have := Rat.natCast_eq_zero_iff.1 h; omega
  cases s
  · simp only [Bool.false_eq_true, if_false]; grind
  · simp only [if_true]; grind
theorem dn_dw {D : Nat} (h : 0 < D) : dn (dw D) = D := by
  unfold dn dw
  by_cases h1 : D = 1
  · rw [if_pos h1, if_pos rfl, h1]
  · rw [if_neg h1, if_neg (by omega)]
theorem dn_pos' (D : Nat) : 0 < dn D := by unfold dn; split <;> omega

/-- the struct value v is the canonical form of q, with at most L digits in each part -/
def FQ (w : World) (v : Value) (q : Rat) (L : Nat) : Prop := FV w v (decide (q.num < 0)) q.num.natAbs (dw q.den) L
/-- the struct value v is some form of q -/
def AF (w : World) (v : Value) (q : Rat) (L : Nat) : Prop :=
  ∃ s A n c A' n' c' xs ys, v = .agg #[.bool s, .slice A n c, .slice A' n' c'] ∧ Dg .u32 w A n c xs ∧ Dg .u32 w A' n' c' ys ∧ n ≤ L ∧ n' ≤ L ∧ Hid (fq s (vl (bs .u32) xs) (dn (vl (bs .u32) ys)) = q)
theorem FQ.af {w : World} {v : Value} {q : Rat} {L : Nat} (h : FQ w v q L) : AF w v q L := by
  obtain ⟨_, _, rfl, ⟨A1, n1, c1, x1, rfl, h1, N1, v1, l1⟩, ⟨A2, n2, c2, x2, rfl, h2, N2, v2, l2⟩⟩ := h
  exact ⟨_, _, _, _, _, _, _, _, _, rfl, h1, h2, l1, l2, by show _ = _; rw [v1.out, v2.out, dn_dw q.den_pos, fq_self]⟩
theorem FQ.below {w w' : World} {v : Value} {q : Rat} {L : Nat} (h : FQ w v q L) (hb : Below w.heap.size w w') : FQ w' v q L := FV.below h hb
theorem AF.below {w w' : World} {v : Value} {q : Rat} {L : Nat} (h : AF w v q L) (hb : Below w.heap.size w w') : AF w' v q L := by
  obtain ⟨s, A, n, c, A', n', c', xs, ys, e, h1, h2, h3⟩ := h
  exact ⟨s, A, n, c, A', n', c', xs, ys, e, h1.below hb, h2.below hb, h3⟩
theorem FQ.le {w : World} {v : Value} {q : Rat} {L L' : Nat} (h : FQ w v q L) (hl : L ≤ L') : FQ w v q L' := by
  obtain ⟨v1, v2, e, h1, h2⟩ := h
  exact ⟨v1, v2, e, h1.le hl, h2.le hl⟩
theorem AF.le {w : World} {v : Value} {q : Rat} {L L' : Nat} (h : AF w v q L) (hl : L ≤ L') : AF w v q L' := by
  obtain ⟨s, A, n, c, A', n', c', xs, ys, e, h1, h2, h3, h4, h5⟩ := h
  exact ⟨s, A, n, c, A', n', c', xs, ys, e, h1, h2, by omega, by omega, h5⟩

/-- the struct value v is the number q, taken apart; its denominator is not 0, and 0 is not negative -/
def RQ (w : World) (v : Value) (q : Rat) (L : Nat) : Prop := ∃ s N D, RV w v s N D L ∧ 0 < D ∧ (s = true → 0 < N) ∧ Hid (fq s N D = q)
/-- the same, in lowest terms -/
def RL (w : World) (v : Value) (q : Rat) (L : Nat) : Prop := RV w v (decide (q.num < 0)) q.num.natAbs q.den L
theorem RQ.below {w w' : World} {v : Value} {q : Rat} {L : Nat} (h : RQ w v q L) (hb : Below w.heap.size w w') : RQ w' v q L := by
  obtain ⟨s, N, D, h1, h2⟩ := h
  exact ⟨s, N, D, h1.below hb, h2⟩
theorem RL.rq {w : World} {v : Value} {q : Rat} {L : Nat} (h : RL w v q L) : RQ w v q L :=
  ⟨_, _, _, h, q.den_pos, fun hs => by have := of_decide_eq_true hs; omega, fq_self q⟩
theorem RL.below {w w' : World} {v : Value} {q : Rat} {L : Nat} (h : RL w v q L) (hb : Below w.heap.size w w') : RL w' v q L := RV.below h hb
def RetQQ (w : World) (q : Rat) (L : Nat) (e : Ending) (w' : World) : Prop := ∃ v, e = .returned v ∧ RQ w' v q L ∧ Below w.heap.size w w'
def RetLL (w : World) (q : Rat) (L : Nat) (e : Ending) (w' : World) : Prop := ∃ v, e = .returned v ∧ RL w' v q L ∧ Below w.heap.size w w'
def RetFQ (w : World) (q : Rat) (L : Nat) (e : Ending) (w' : World) : Prop := ∃ v, e = .returned v ∧ FQ w' v q L ∧ Below w.heap.size w w'

/-- the sign of a number taken apart -/
theorem sgn_fq {s : Bool} {N D : Nat} {q : Rat} (hD : 0 < D) (hs : s = true → 0 < N) (hq : fq s N D = q) : decide (q.num < 0) = s := by
  rw [← hq, fq_lt hD]
  cases s with
  | false => rfl
  | true => rw [decide_eq_true (hs rfl)]; rfl

theorem loadQ (v : Value) (q : Rat) (L : Nat) (w : World) (h : AF w v q L) (hL : L ≤ 400000) : Calls Tryz.prog 70 #[v] w (RetQQ w q (2 * L + 1)) := by
  obtain ⟨s, A, n, c, A', n', c', xs, ys, rfl, h1, h2, h3, h4, h5⟩ := h
  refine (load_any s A A' n c n' c' xs ys w h1 h2 (by omega) (by omega)).mono ?_
  rintro e w' ⟨v, rfl, ⟨v1, v2, rfl, hv1, hv2⟩, hb⟩
  exact ⟨_, rfl, ⟨_, _, _, ⟨_, _, rfl, hv1.le (by omega), hv2.le (by omega)⟩, dn_pos' _, fun hs => by
    rw [Bool.and_eq_true] at hs; exact of_decide_eq_true hs.2, show _ = _ by rw [fq_sign]; exact h5.out⟩, hb⟩
theorem timesQ (v1 v2 : Value) (q1 q2 : Rat) (L1 L2 : Nat) (w : World) (h1 : RQ w v1 q1 L1) (h2 : RQ w v2 q2 L2) (hL1 : L1 ≤ 400000) (hL2 : L2 ≤ 400000) : Calls Tryz.prog 83 #[v1, v2] w (RetQQ w (q1 * q2) (L1 + L2)) := by
  obtain ⟨s1, N1, D1, ⟨_, _, rfl, ⟨A1, m1, c1, x1, rfl, d1, n1, e1, l1⟩, ⟨A2, m2, c2, x2, rfl, d2, n2, e2, l2⟩⟩, p1, g1, k1⟩ := h1
  obtain ⟨s2, N2, D2, ⟨_, _, rfl, ⟨A3, m3, c3, x3, rfl, d3, n3, e3, l3⟩, ⟨A4, m4, c4, x4, rfl, d4, n4, e4, l4⟩⟩, p2, g2, k2⟩ := h2
  refine (times_all s1 s2 A1 A2 A3 A4 m1 c1 m2 c2 m3 c3 m4 c4 x1 x2 x3 x4 w d1 d2 d3 d4 (by omega) (by omega) (by omega) (by omega)).mono ?_
  rintro e w' ⟨v, rfl, ⟨v1, v2, rfl, hv1, hv2⟩, hb⟩
  rw [e1.out, e3.out] at hv1
  rw [e2.out, e4.out] at hv2
  rw [e1.out, e3.out]
  exact ⟨_, rfl, ⟨_, _, _, ⟨_, _, rfl, hv1.le (by omega), hv2.le (by omega)⟩, Nat.mul_pos p1 p2, fun hs => by
    rw [Bool.and_eq_true] at hs; exact of_decide_eq_true hs.2, show _ = _ by rw [fq_sign, ← fq_mul, k1.out, k2.out]⟩, hb⟩
theorem reduceQ (v : Value) (q : Rat) (L : Nat) (w : World) (h : RQ w v q L) (hL : L ≤ 300000) : Calls Tryz.prog 78 #[v] w (RetLL w q L) := by
  obtain ⟨s, N, D, ⟨_, _, rfl, ⟨A1, m1, c1, x1, rfl, d1, n1, e1, l1⟩, ⟨A2, m2, c2, x2, rfl, d2, n2, e2, l2⟩⟩, p1, g1, k1⟩ := h
  refine (reduce_all s A1 A2 m1 c1 m2 c2 x1 x2 w d1 d2 n1 n2 N D e1 e2 (by omega) (by omega) p1).mono ?_
  rintro e w' ⟨v, rfl, ⟨v1, v2, rfl, hv1, hv2⟩, hb⟩
  refine ⟨_, rfl, ⟨v1, v2, ?_, ?_, ?_⟩, hb⟩
  · rw [sgn_fq p1 g1 k1.out]
  · rw [← k1.out, fq_abs p1]; exact hv1.le (by omega)
  · rw [← k1.out, fq_den p1]; exact hv2.le (by omega)
theorem storeQ (v : Value) (q : Rat) (L : Nat) (w : World) (h : RQ w v q L) (hL : L ≤ 100000) : Calls Tryz.prog 71 #[v] w (RetFQ w q (2 * L)) := by
  obtain ⟨s, N, D, ⟨_, _, rfl, ⟨A1, m1, c1, x1, rfl, d1, n1, e1, l1⟩, ⟨A2, m2, c2, x2, rfl, d2, n2, e2, l2⟩⟩, p1, g1, k1⟩ := h
  refine (store_all s A1 A2 m1 c1 m2 c2 x1 x2 w d1 d2 n1 n2 N D e1 e2 (by omega) (by omega) p1).mono ?_
  rintro e w' ⟨v, rfl, ⟨v1, v2, rfl, hv1, hv2⟩, hb⟩
  refine ⟨_, rfl, ⟨v1, v2, ?_, ?_, ?_⟩, hb⟩
  · rw [sgn_fq p1 g1 k1.out]
  · rw [← k1.out, fq_abs p1]; exact hv1.le (by omega)
  · rw [← k1.out, fq_den p1]; exact hv2.le (by omega)
theorem keepQ (v : Value) (q : Rat) (L : Nat) (w : World) (h : RL w v q L) (hL : L ≤ 100000) : Calls Tryz.prog 85 #[v] w (RetFQ w q (2 * L)) := by
  obtain ⟨_, _, rfl, ⟨A1, m1, c1, x1, rfl, d1, n1, e1, l1⟩, ⟨A2, m2, c2, x2, rfl, d2, n2, e2, l2⟩⟩ := h
  refine (keep_any _ A1 A2 m1 c1 m2 c2 x1 x2 w d1 d2 n1 n2 _ _ e1 e2 (by omega) (by omega)).mono ?_
  rintro e w' ⟨v, rfl, ⟨v1, v2, rfl, hv1, hv2⟩, hb⟩
  exact ⟨_, rfl, ⟨v1, v2, rfl, hv1.le (by omega), hv2.le (by omega)⟩, hb⟩
theorem invertQ (v : Value) (q : Rat) (L : Nat) (w : World) (h : RQ w v q L) (hq : q ≠ 0) : Calls Tryz.prog 84 #[v] w (RetQQ w q⁻¹ L) := by
  obtain ⟨s, N, D, ⟨_, _, rfl, ⟨A1, m1, c1, x1, rfl, d1, n1, e1, l1⟩, ⟨A2, m2, c2, x2, rfl, d2, n2, e2, l2⟩⟩, p1, g1, k1⟩ := h
  have hN : 0 < N := by
    rcases Nat.eq_zero_or_pos N with h0 | h0
    · exact absurd (by rw [← k1.out]; exact (fq_zero p1).2 h0) hq
    · exact h0
  refine (invert_any s _ _ A1 A2 m1 c1 m2 c2 rfl rfl w).mono ?_
  rintro e w' ⟨rfl, hb⟩
  exact ⟨_, rfl, ⟨s, D, N, ⟨_, _, rfl, NV.mk (d2.below hb) n2 e2 l2, NV.mk (d1.below hb) n1 e1 l1⟩, hN, fun _ => p1, show _ = _ by rw [← k1.out, fq_inv hN p1]⟩, hb⟩
end Go.Proofs.YtbgihlfblmilmaaGreatDoor.Fr
