import Derived.Test.YtbgihlfblmilmaaGreatDoorP7
namespace Go.Proofs.YtbgihlfblmilmaaGreatDoor.Fr
open Go.RowKit Num

set_option maxHeartbeats 3200000 in
set_option maxRecDepth 100000 in
theorem times_any64 (s1 s2 : Bool) (A1 A2 A3 A4 : Option Addr) (n1 c1 n2 c2 n3 c3 n4 c4 : Nat) (x1 x2 x3 x4 : List Nat) (w : World)
    (h1 : Dg .u64 w A1 n1 c1 x1) (h2 : Dg .u64 w A2 n2 c2 x2) (h3 : Dg .u64 w A3 n3 c3 x3) (h4 : Dg .u64 w A4 n4 c4 x4)
    (b1 : n1 ≤ 1000) (b2 : n2 ≤ 1000) (b3 : n3 ≤ 1000) (b4 : n4 ≤ 1000) (m1 : min n1 n3 < 40) (m2 : min n2 n4 < 40) :
    Calls Tryz.prog 83 #[.agg #[.bool s1, .slice A1 n1 c1, .slice A2 n2 c2], .agg #[.bool s2, .slice A3 n3 c3, .slice A4 n4 c4]] w
      (RetR w ((s1 != s2) && decide (0 < vl (bs .u64) x1 * vl (bs .u64) x3)) (vl (bs .u64) x1 * vl (bs .u64) x3) (vl (bs .u64) x2 * vl (bs .u64) x4) (max (n1 + n3) (n2 + n4))) := by
  have B1 := ((Blk.new w 67 #[.bool s1, .slice A1 n1 c1, .slice A2 n2 c2]).alloc (.cells #[.bool s2, .slice A3 n3 c3, .slice A4 n4 c4] 67)).alloc (.cells #[.bool false, .slice none 0 0, .slice none 0 0] 67)
  have B2 := (Blk.new (w.alloc (.cells #[.bool s1, .slice A1 n1 c1, .slice A2 n2 c2] 67)) 67 #[.bool s2, .slice A3 n3 c3, .slice A4 n4 c4]).alloc (.cells #[.bool false, .slice none 0 0, .slice none 0 0] 67)
  have B3 := Blk.new ((w.alloc (.cells #[.bool s1, .slice A1 n1 c1, .slice A2 n2 c2] 67)).alloc (.cells #[.bool s2, .slice A3 n3 c3, .slice A4 n4 c4] 67)) 67 #[.bool false, .slice none 0 0, .slice none 0 0]
  have e1 : (w.alloc (.cells #[.bool s1, .slice A1 n1 c1, .slice A2 n2 c2] 67)).heap.size = w.heap.size + 1 := by simp
  have e2 : ((w.alloc (.cells #[.bool s1, .slice A1 n1 c1, .slice A2 n2 c2] 67)).alloc (.cells #[.bool s2, .slice A3 n3 c3, .slice A4 n4 c4] 67)).heap.size = w.heap.size + 1 + 1 := by simp
  have hw0 := (((Below.refl w.heap.size w).alloc (Nat.le_refl _) (.cells #[.bool s1, .slice A1 n1 c1, .slice A2 n2 c2] 67)).alloc (by rw [e1]; omega) (.cells #[.bool s2, .slice A3 n3 c3, .slice A4 n4 c4] 67)).alloc (by rw [e2]; omega) (.cells #[.bool false, .slice none 0 0, .slice none 0 0] 67)
  rw [e1] at B2
  rw [e2] at B3
  clear e1 e2
  have h1 := h1.below hw0
  have h2 := h2.below hw0
  have h3 := h3.below hw0
  have h4 := h4.below hw0
  go_enter Tryz.func83, Tryz.ntmps83
  go_upto_region 1 with fail
  generalize ((w.alloc (.cells #[.bool s1, .slice A1 n1 c1, .slice A2 n2 c2] 67)).alloc (.cells #[.bool s2, .slice A3 n3 c3, .slice A4 n4 c4] 67)).alloc (.cells #[.bool false, .slice none 0 0, .slice none 0 0] 67) = w1 at *
  have K1 : w1.cell? ⟨w.heap.size, 0, none⟩ = some (.bool s1) ∧ w1.cell? ⟨w.heap.size, 1, none⟩ = some (.slice A1 n1 c1) ∧ w1.cell? ⟨w.heap.size, 2, none⟩ = some (.slice A2 n2 c2) ∧ w1.cell? ⟨w.heap.size + 1, 0, none⟩ = some (.bool s2) ∧ w1.cell? ⟨w.heap.size + 1, 1, none⟩ = some (.slice A3 n3 c3) ∧ w1.cell? ⟨w.heap.size + 1, 2, none⟩ = some (.slice A4 n4 c4) := ⟨B1.cell 0, B1.cell 1, B1.cell 2, B2.cell 0, B2.cell 1, B2.cell 2⟩
  obtain ⟨k0, k1, k2, k3, k4, k5⟩ := K1
  go_region_held3 (fun wx => wx.cell? ⟨w.heap.size, 0, none⟩ = some (.bool s1) ∧ wx.cell? ⟨w.heap.size, 1, none⟩ = some (.slice A1 n1 c1) ∧ wx.cell? ⟨w.heap.size, 2, none⟩ = some (.slice A2 n2 c2) ∧ wx.cell? ⟨w.heap.size + 1, 0, none⟩ = some (.bool s2) ∧ wx.cell? ⟨w.heap.size + 1, 1, none⟩ = some (.slice A3 n3 c3) ∧ wx.cell? ⟨w.heap.size + 1, 2, none⟩ = some (.slice A4 n4 c4))
    (first | exact ⟨k0, k1, k2, k3, k4, k5⟩ | exact K5 | exact K6 | exact K7 | exact K8.out _ _ _)
    (first
      | (go_at_call_of 112 (Value.slice A1 n1 c1); refine (mul_any _ _ _ _ _ _ _ _ _ h1.drew h3.drew (by omega) (by omega) m1).mono ?_; rintro e w5 ⟨A5, m5, c5, us5, rfl, hD5, hN5, hv5, hm5, hb5, hf5⟩; have P1 := B1.drew.below hb5; have P2 := B2.drew.below hb5; have K5 : w5.cell? ⟨w.heap.size, 0, none⟩ = some (.bool s1) ∧ w5.cell? ⟨w.heap.size, 1, none⟩ = some (.slice A1 n1 c1) ∧ w5.cell? ⟨w.heap.size, 2, none⟩ = some (.slice A2 n2 c2) ∧ w5.cell? ⟨w.heap.size + 1, 0, none⟩ = some (.bool s2) ∧ w5.cell? ⟨w.heap.size + 1, 1, none⟩ = some (.slice A3 n3 c3) ∧ w5.cell? ⟨w.heap.size + 1, 2, none⟩ = some (.slice A4 n4 c4) := ⟨P1.cell 0, P1.cell 1, P1.cell 2, P2.cell 0, P2.cell 1, P2.cell 2⟩)
      | (go_at_call_of 112 (Value.slice A2 n2 c2); refine (mul_any _ _ _ _ _ _ _ _ _ (h2.drew.below hb5) (h4.drew.below hb5) (by omega) (by omega) m2).mono ?_; rintro e w6 ⟨A6, m6, c6, us6, rfl, hD6, hN6, hv6, hm6, hb6, hf6⟩; have P1 := (B1.drew.below hb5).below hb6; have P2 := (B2.drew.below hb5).below hb6; have K6 : w6.cell? ⟨w.heap.size, 0, none⟩ = some (.bool s1) ∧ w6.cell? ⟨w.heap.size, 1, none⟩ = some (.slice A1 n1 c1) ∧ w6.cell? ⟨w.heap.size, 2, none⟩ = some (.slice A2 n2 c2) ∧ w6.cell? ⟨w.heap.size + 1, 0, none⟩ = some (.bool s2) ∧ w6.cell? ⟨w.heap.size + 1, 1, none⟩ = some (.slice A3 n3 c3) ∧ w6.cell? ⟨w.heap.size + 1, 2, none⟩ = some (.slice A4 n4 c4) := ⟨P1.cell 0, P1.cell 1, P1.cell 2, P2.cell 0, P2.cell 1, P2.cell 2⟩)
      | (go_at_call 99; refine (signed_any _ _ _ _ _ _ _ _ (by omega)).mono ?_; rintro e w7 ⟨rfl, hb7⟩; have P1 := ((B1.drew.below hb5).below hb6).below hb7; have P2 := ((B2.drew.below hb5).below hb6).below hb7; have K7 : w7.cell? ⟨w.heap.size, 0, none⟩ = some (.bool s1) ∧ w7.cell? ⟨w.heap.size, 1, none⟩ = some (.slice A1 n1 c1) ∧ w7.cell? ⟨w.heap.size, 2, none⟩ = some (.slice A2 n2 c2) ∧ w7.cell? ⟨w.heap.size + 1, 0, none⟩ = some (.bool s2) ∧ w7.cell? ⟨w.heap.size + 1, 1, none⟩ = some (.slice A3 n3 c3) ∧ w7.cell? ⟨w.heap.size + 1, 2, none⟩ = some (.slice A4 n4 c4) := ⟨P1.cell 0, P1.cell 1, P1.cell 2, P2.cell 0, P2.cell 1, P2.cell 2⟩; have K8 := Lib.hid (show ∀ a b d, (((w7.setCell ⟨w.heap.size + 1 + 1, 0, none⟩ a).setCell ⟨w.heap.size + 1 + 1, 1, none⟩ b).setCell ⟨w.heap.size + 1 + 1, 2, none⟩ d).cell? ⟨w.heap.size, 0, none⟩ = some (.bool s1) ∧ (((w7.setCell ⟨w.heap.size + 1 + 1, 0, none⟩ a).setCell ⟨w.heap.size + 1 + 1, 1, none⟩ b).setCell ⟨w.heap.size + 1 + 1, 2, none⟩ d).cell? ⟨w.heap.size, 1, none⟩ = some (.slice A1 n1 c1) ∧ (((w7.setCell ⟨w.heap.size + 1 + 1, 0, none⟩ a).setCell ⟨w.heap.size + 1 + 1, 1, none⟩ b).setCell ⟨w.heap.size + 1 + 1, 2, none⟩ d).cell? ⟨w.heap.size, 2, none⟩ = some (.slice A2 n2 c2) ∧ (((w7.setCell ⟨w.heap.size + 1 + 1, 0, none⟩ a).setCell ⟨w.heap.size + 1 + 1, 1, none⟩ b).setCell ⟨w.heap.size + 1 + 1, 2, none⟩ d).cell? ⟨w.heap.size + 1, 0, none⟩ = some (.bool s2) ∧ (((w7.setCell ⟨w.heap.size + 1 + 1, 0, none⟩ a).setCell ⟨w.heap.size + 1 + 1, 1, none⟩ b).setCell ⟨w.heap.size + 1 + 1, 2, none⟩ d).cell? ⟨w.heap.size + 1, 1, none⟩ = some (.slice A3 n3 c3) ∧ (((w7.setCell ⟨w.heap.size + 1 + 1, 0, none⟩ a).setCell ⟨w.heap.size + 1 + 1, 1, none⟩ b).setCell ⟨w.heap.size + 1 + 1, 2, none⟩ d).cell? ⟨w.heap.size + 1, 2, none⟩ = some (.slice A4 n4 c4) from fun a b d => ⟨(cell_set3 _ _ _ _ _ _ (by show w.heap.size ≠ _; omega)).trans K7.1, (cell_set3 _ _ _ _ _ _ (by show w.heap.size ≠ _; omega)).trans K7.2.1, (cell_set3 _ _ _ _ _ _ (by show w.heap.size ≠ _; omega)).trans K7.2.2.1, (cell_set3 _ _ _ _ _ _ (by show w.heap.size + 1 ≠ _; omega)).trans K7.2.2.2.1, (cell_set3 _ _ _ _ _ _ (by show w.heap.size + 1 ≠ _; omega)).trans K7.2.2.2.2.1, (cell_set3 _ _ _ _ _ _ (by show w.heap.size + 1 ≠ _; omega)).trans K7.2.2.2.2.2⟩); have P3 := ((B3.drew.below hb5).below hb6).below hb7; have r0 := P3.cell 0; have r1 := P3.cell 1; have r2 := P3.cell 2; have f0 := P3.frozen 0; have f1 := P3.frozen 1; have f2 := P3.frozen 2))
  have hw5 := (hw0.drew).trans (hb5.mono hw0.size)
  have hw6 := hw5.trans (hb6.mono hw5.size)
  have hw7 := hw6.trans (hb7.mono hw6.size)
  have hD5 := (hD5.below hb6).below hb7
  have hD6 := hD6.below hb7
  have hp := nv_pos hD5 hN5 (by decide) hv5
  have hlt := B3.lt
  have hlt5 := hb5.size
  have g5 := Lib.hid (show ∀ ad, A5 = some ad → w.heap.size + 1 + 1 < ad.block from fun ad he => Nat.lt_of_lt_of_le hlt (hf5.out ad he))
  have g6 := Lib.hid (show ∀ ad, A6 = some ad → w.heap.size + 1 + 1 < ad.block from fun ad he => Nat.lt_of_lt_of_le hlt (Nat.le_trans hlt5 (hf6.out ad he)))
  have Hp := Lib.hid hp
  clear hp
  go_wp2
  exact ret_rat rfl rfl (((P3.set_ 0 _).set_ 1 _).set_ 2 _) rfl ⟨_, rfl, ⟨_, _, by rw [← Hp.out]; rfl, NV.mk (((hD5.far g5.out 0 _).far g5.out 1 _).far g5.out 2 _) hN5 hv5 (by omega), NV.mk (((hD6.far g6.out 0 _).far g6.out 1 _).far g6.out 2 _) hN6 hv6 (by omega)⟩, bel_set3 hw7 (by omega) _ _ _⟩
end Go.Proofs.YtbgihlfblmilmaaGreatDoor.Fr

namespace Go.Proofs.YtbgihlfblmilmaaGreatDoor.Fr
open Go.RowKit Num

/-- the order of two numbers that were taken apart, as the program computes it -/
def rord (s1 : Bool) (X1 X2 : Nat) (s2 : Bool) (X3 X4 : Nat) : Int :=
  if Lib.compareInt (sgn s1 X1) (sgn s2 X3) = 0 then (if s1 then -ord (X1 * X4) (X3 * X2) else ord (X1 * X4) (X3 * X2)) else Lib.compareInt (sgn s1 X1) (sgn s2 X3)

theorem compare_any (x y : Int) (w : World) : Calls Tryz.prog 131 #[.int .i64 x, .int .i64 y] w fun e w' => e = .returned (.int .i64 (Lib.compareInt x y)) ∧ w = w' :=
  (Tryz.cmp_Compare_int x y w).mono fun _ _ h => ⟨h.1, h.2.symm⟩
theorem sign_bel (neg : Bool) (A : Option Addr) (n c : Nat) (A' : Option Addr) (n' c' : Nat) (xs : List Nat) (w : World) (hD : Dg .u64 w A n c xs) (hN : Nrm xs) (x : Nat) (hx : Hid (vl (bs .u64) xs = x)) :
    Calls Tryz.prog 97 #[.agg #[.bool neg, .slice A n c, .slice A' n' c']] w fun e w' => e = .returned (.int .i64 (sgn neg x)) ∧ Below w.heap.size w w' :=
  (sign_any neg A n c _ A' n' c' rfl xs w hD hN x hx).mono fun _ _ h => ⟨h.1, by rw [h.2]; exact (Below.refl _ _).alloc (Nat.le_refl _) _⟩
theorem cmpI_cases (x y : Int) : Lib.compareInt x y = 0 ∨ Lib.compareInt x y = 1 ∨ Lib.compareInt x y = -1 := by
  unfold Lib.compareInt; split <;> (try split) <;> simp
theorem ord_cases (x y : Nat) : ord x y = 0 ∨ ord x y = 1 ∨ ord x y = -1 := by
  unfold ord; split <;> (try split) <;> simp

set_option maxHeartbeats 3200000 in
set_option maxRecDepth 100000 in
theorem cmpR_any (s1 s2 : Bool) (A1 A2 A3 A4 : Option Addr) (n1 c1 n2 c2 n3 c3 n4 c4 : Nat) (x1 x2 x3 x4 : List Nat) (w : World)
    (h1 : Dg .u64 w A1 n1 c1 x1) (h2 : Dg .u64 w A2 n2 c2 x2) (h3 : Dg .u64 w A3 n3 c3 x3) (h4 : Dg .u64 w A4 n4 c4 x4) (N1 : Nrm x1) (N3 : Nrm x3)
    (X1 X2 X3 X4 : Nat) (v1 : Hid (vl (bs .u64) x1 = X1)) (v2 : Hid (vl (bs .u64) x2 = X2)) (v3 : Hid (vl (bs .u64) x3 = X3)) (v4 : Hid (vl (bs .u64) x4 = X4))
    (b1 : n1 ≤ 1000) (b2 : n2 ≤ 1000) (b3 : n3 ≤ 1000) (b4 : n4 ≤ 1000) (m1 : min n1 n4 < 40) (m2 : min n3 n2 < 40) :
    Calls Tryz.prog 101 #[.agg #[.bool s1, .slice A1 n1 c1, .slice A2 n2 c2], .agg #[.bool s2, .slice A3 n3 c3, .slice A4 n4 c4]] w
      fun e w' => e = .returned (.int .i64 (rord s1 X1 X2 s2 X3 X4)) ∧ Below w.heap.size w w' := by
  have B1 := (Blk.new w 67 #[.bool s1, .slice A1 n1 c1, .slice A2 n2 c2]).alloc (.cells #[.bool s2, .slice A3 n3 c3, .slice A4 n4 c4] 67)
  have B2 := Blk.new (w.alloc (.cells #[.bool s1, .slice A1 n1 c1, .slice A2 n2 c2] 67)) 67 #[.bool s2, .slice A3 n3 c3, .slice A4 n4 c4]
  have e1 : (w.alloc (.cells #[.bool s1, .slice A1 n1 c1, .slice A2 n2 c2] 67)).heap.size = w.heap.size + 1 := by simp
  have hw0 := ((Below.refl w.heap.size w).alloc (Nat.le_refl _) (.cells #[.bool s1, .slice A1 n1 c1, .slice A2 n2 c2] 67)).alloc (by rw [e1]; omega) (.cells #[.bool s2, .slice A3 n3 c3, .slice A4 n4 c4] 67)
  rw [e1] at B2
  clear e1
  have h1 := h1.below hw0
  have h2 := h2.below hw0
  have h3 := h3.below hw0
  have h4 := h4.below hw0
  go_enter Tryz.func101, Tryz.ntmps101
  go_upto_region 1 with fail
  generalize (w.alloc (.cells #[.bool s1, .slice A1 n1 c1, .slice A2 n2 c2] 67)).alloc (.cells #[.bool s2, .slice A3 n3 c3, .slice A4 n4 c4] 67) = w1 at *
  have K1 : w1.cell? ⟨w.heap.size, 0, none⟩ = some (.bool s1) ∧ w1.cell? ⟨w.heap.size, 1, none⟩ = some (.slice A1 n1 c1) ∧ w1.cell? ⟨w.heap.size, 2, none⟩ = some (.slice A2 n2 c2) ∧ w1.cell? ⟨w.heap.size + 1, 0, none⟩ = some (.bool s2) ∧ w1.cell? ⟨w.heap.size + 1, 1, none⟩ = some (.slice A3 n3 c3) ∧ w1.cell? ⟨w.heap.size + 1, 2, none⟩ = some (.slice A4 n4 c4) := ⟨B1.cell 0, B1.cell 1, B1.cell 2, B2.cell 0, B2.cell 1, B2.cell 2⟩
  obtain ⟨k0, k1, k2, k3, k4, k5⟩ := K1
  go_region_held3 (fun wx => wx.cell? ⟨w.heap.size, 0, none⟩ = some (.bool s1) ∧ wx.cell? ⟨w.heap.size, 1, none⟩ = some (.slice A1 n1 c1) ∧ wx.cell? ⟨w.heap.size, 2, none⟩ = some (.slice A2 n2 c2) ∧ wx.cell? ⟨w.heap.size + 1, 0, none⟩ = some (.bool s2) ∧ wx.cell? ⟨w.heap.size + 1, 1, none⟩ = some (.slice A3 n3 c3) ∧ wx.cell? ⟨w.heap.size + 1, 2, none⟩ = some (.slice A4 n4 c4))
    (first | exact ⟨k0, k1, k2, k3, k4, k5⟩ | exact K5 | exact K6 | exact K7)
    (first
      | (go_at_call_of 97 (Value.agg #[.bool s1, .slice A1 n1 c1, .slice A2 n2 c2]); refine (sign_bel _ _ _ _ _ _ _ _ _ h1.drew N1 X1 v1).mono ?_; rintro e w5 ⟨rfl, hb5⟩; have P1 := B1.drew.below hb5; have P2 := B2.drew.below hb5; have K5 : w5.cell? ⟨w.heap.size, 0, none⟩ = some (.bool s1) ∧ w5.cell? ⟨w.heap.size, 1, none⟩ = some (.slice A1 n1 c1) ∧ w5.cell? ⟨w.heap.size, 2, none⟩ = some (.slice A2 n2 c2) ∧ w5.cell? ⟨w.heap.size + 1, 0, none⟩ = some (.bool s2) ∧ w5.cell? ⟨w.heap.size + 1, 1, none⟩ = some (.slice A3 n3 c3) ∧ w5.cell? ⟨w.heap.size + 1, 2, none⟩ = some (.slice A4 n4 c4) := ⟨P1.cell 0, P1.cell 1, P1.cell 2, P2.cell 0, P2.cell 1, P2.cell 2⟩)
      | (go_at_call_of 97 (Value.agg #[.bool s2, .slice A3 n3 c3, .slice A4 n4 c4]); refine (sign_bel _ _ _ _ _ _ _ _ _ (h3.drew.below hb5) N3 X3 v3).mono ?_; rintro e w6 ⟨rfl, hb6⟩; have P1 := (B1.drew.below hb5).below hb6; have P2 := (B2.drew.below hb5).below hb6; have K6 : w6.cell? ⟨w.heap.size, 0, none⟩ = some (.bool s1) ∧ w6.cell? ⟨w.heap.size, 1, none⟩ = some (.slice A1 n1 c1) ∧ w6.cell? ⟨w.heap.size, 2, none⟩ = some (.slice A2 n2 c2) ∧ w6.cell? ⟨w.heap.size + 1, 0, none⟩ = some (.bool s2) ∧ w6.cell? ⟨w.heap.size + 1, 1, none⟩ = some (.slice A3 n3 c3) ∧ w6.cell? ⟨w.heap.size + 1, 2, none⟩ = some (.slice A4 n4 c4) := ⟨P1.cell 0, P1.cell 1, P1.cell 2, P2.cell 0, P2.cell 1, P2.cell 2⟩)
      | (go_at_call 131; refine (compare_any _ _ _).mono ?_; rintro e w7 ⟨rfl, rfl⟩))
  have hw5 := (hw0.drew).trans (hb5.mono hw0.size)
  have hw6 := hw5.trans (hb6.mono hw5.size)
  have h1 := (h1.drew.below hb5).below hb6
  have h2 := (h2.drew.below hb5).below hb6
  have h3 := (h3.drew.below hb5).below hb6
  have h4 := (h4.drew.below hb5).below hb6
  have Q1 := (B1.drew.below hb5).below hb6
  have Q2 := (B2.drew.below hb5).below hb6
  clear B1 B2 hb5 hb6 hw5 k0 k1 k2 k3 k4 k5 K5
  by_cases hc : Lib.compareInt (sgn s1 X1) (sgn s2 X3) = 0
  · have Hr := Lib.hid (show rord s1 X1 X2 s2 X3 X4 = if s1 then -ord (X1 * X4) (X3 * X2) else ord (X1 * X4) (X3 * X2) by unfold rord; rw [if_pos hc])
    have hne : (Lib.compareInt (sgn s1 X1) (sgn s2 X3) != 0) = false := by rw [hc]; rfl
    clear hc
    obtain ⟨k0, k1, k2, k3, k4, k5⟩ := K6
    go_upto_region 4 with fail
    go_region_held3 (fun wx => wx.cell? ⟨w.heap.size, 0, none⟩ = some (.bool s1) ∧ wx.cell? ⟨w.heap.size, 1, none⟩ = some (.slice A1 n1 c1) ∧ wx.cell? ⟨w.heap.size, 2, none⟩ = some (.slice A2 n2 c2) ∧ wx.cell? ⟨w.heap.size + 1, 0, none⟩ = some (.bool s2) ∧ wx.cell? ⟨w.heap.size + 1, 1, none⟩ = some (.slice A3 n3 c3) ∧ wx.cell? ⟨w.heap.size + 1, 2, none⟩ = some (.slice A4 n4 c4))
      (first | exact ⟨k0, k1, k2, k3, k4, k5⟩ | exact K5 | exact K7 | exact K8)
      (first
        | (go_at_call_of 112 (Value.slice A1 n1 c1); refine (mul_any _ _ _ _ _ _ _ _ _ h1.drew h4.drew (by omega) (by omega) m1).mono ?_; rintro e w7 ⟨A5, m5, c5, us5, rfl, hD5, hN5, hv5, hm5, hb5, hf5⟩; have P1 := Q1.drew.below hb5; have P2 := Q2.drew.below hb5; have K5 : w7.cell? ⟨w.heap.size, 0, none⟩ = some (.bool s1) ∧ w7.cell? ⟨w.heap.size, 1, none⟩ = some (.slice A1 n1 c1) ∧ w7.cell? ⟨w.heap.size, 2, none⟩ = some (.slice A2 n2 c2) ∧ w7.cell? ⟨w.heap.size + 1, 0, none⟩ = some (.bool s2) ∧ w7.cell? ⟨w.heap.size + 1, 1, none⟩ = some (.slice A3 n3 c3) ∧ w7.cell? ⟨w.heap.size + 1, 2, none⟩ = some (.slice A4 n4 c4) := ⟨P1.cell 0, P1.cell 1, P1.cell 2, P2.cell 0, P2.cell 1, P2.cell 2⟩)
        | (go_at_call_of 112 (Value.slice A3 n3 c3); refine (mul_any _ _ _ _ _ _ _ _ _ (h3.drew.below hb5) (h2.drew.below hb5) (by omega) (by omega) m2).mono ?_; rintro e w8 ⟨A6, m6, c6, us6, rfl, hD6, hN6, hv6, hm6, hb6, hf6⟩; have P1 := (Q1.drew.below hb5).below hb6; have P2 := (Q2.drew.below hb5).below hb6; have K7 : w8.cell? ⟨w.heap.size, 0, none⟩ = some (.bool s1) ∧ w8.cell? ⟨w.heap.size, 1, none⟩ = some (.slice A1 n1 c1) ∧ w8.cell? ⟨w.heap.size, 2, none⟩ = some (.slice A2 n2 c2) ∧ w8.cell? ⟨w.heap.size + 1, 0, none⟩ = some (.bool s2) ∧ w8.cell? ⟨w.heap.size + 1, 1, none⟩ = some (.slice A3 n3 c3) ∧ w8.cell? ⟨w.heap.size + 1, 2, none⟩ = some (.slice A4 n4 c4) := ⟨P1.cell 0, P1.cell 1, P1.cell 2, P2.cell 0, P2.cell 1, P2.cell 2⟩)
        | (go_at_call 107; refine (cmp64_any _ _ _ _ _ _ _ _ _ (hD5.below hb6) hD6 hN5 hN6 _ _ hv5 hv6).mono ?_; rintro e w9 ⟨nd, rfl, rfl⟩; have P1 := ((Q1.drew.below hb5).below hb6).drewN nd; have P2 := ((Q2.drew.below hb5).below hb6).drewN nd; have K8 : (w8.drewN nd).cell? ⟨w.heap.size, 0, none⟩ = some (.bool s1) ∧ (w8.drewN nd).cell? ⟨w.heap.size, 1, none⟩ = some (.slice A1 n1 c1) ∧ (w8.drewN nd).cell? ⟨w.heap.size, 2, none⟩ = some (.slice A2 n2 c2) ∧ (w8.drewN nd).cell? ⟨w.heap.size + 1, 0, none⟩ = some (.bool s2) ∧ (w8.drewN nd).cell? ⟨w.heap.size + 1, 1, none⟩ = some (.slice A3 n3 c3) ∧ (w8.drewN nd).cell? ⟨w.heap.size + 1, 2, none⟩ = some (.slice A4 n4 c4) := ⟨P1.cell 0, P1.cell 1, P1.cell 2, P2.cell 0, P2.cell 1, P2.cell 2⟩))
    rw [v1.out, v2.out, v3.out, v4.out] at *
    have hw7 := (hw6.drew).trans (hb5.mono hw6.size)
    have hw8 := hw7.trans (hb6.mono hw7.size)
    have hw9 := bel_drewN hw8 nd
    have ob : -1 ≤ ord (X1 * X4) (X3 * X2) ∧ ord (X1 * X4) (X3 * X2) ≤ 1 := by rcases ord_cases (X1 * X4) (X3 * X2) with h | h | h <;> rw [h] <;> omega
    obtain ⟨ob1, ob2⟩ := ob
    generalize ord (X1 * X4) (X3 * X2) = od at *
    obtain ⟨k0, _, _, _, _, _⟩ := K8
    cases s1 with
    | true =>
      go_wp2
      go_ret
      exact ⟨ret_i64 (by rw [Hr.out]; rfl), hw9⟩
    | false =>
      go_wp2
      go_ret
      exact ⟨ret_i64 (by rw [Hr.out]; rfl), hw9⟩
  · have Hr := Lib.hid (show rord s1 X1 X2 s2 X3 X4 = Lib.compareInt (sgn s1 X1) (sgn s2 X3) by unfold rord; rw [if_neg hc])
    have hne : (Lib.compareInt (sgn s1 X1) (sgn s2 X3) != 0) = true := by rw [bne_iff_ne]; exact hc
    clear hc
    go_wp2
    go_ret
    exact ⟨ret_i64 Hr.out.symm, hw6⟩
end Go.Proofs.YtbgihlfblmilmaaGreatDoor.Fr
