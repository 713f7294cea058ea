/- The document's numbers: products of whole numbers. -/
import Derived.Test.YtfgiiidfpbpniaaGreatDoorOA
import Derived.Deep.RegionHeld3
namespace Go.Proofs.YtfgiiidfpbpniaaGreatDoor.Fr
open Go.RowKit Num

theorem cell_set3o (w : World) (g : Nat) (a b d : Value) (p : Addr) (h : p.block ≠ g) : (((w.setCell ⟨g, 0, none⟩ a).setCell ⟨g, 1, none⟩ b).setCell ⟨g, 2, none⟩ d).cell? p = w.cell? p := by
  rw [World.cell?_setCell_other _ _ _ _ (fun e => h (by rw [← e])), World.cell?_setCell_other _ _ _ _ (fun e => h (by rw [← e])), World.cell?_setCell_other _ _ _ _ (fun e => h (by rw [← e]))]
theorem keep3 {w1 wx : World} {g : Nat} {a b c : Value} (hB : Blk w1 g 48 #[a, b, c]) (hb : Below w1.heap.size w1 wx) : wx.cell? ⟨g, 0, none⟩ = some a ∧ wx.cell? ⟨g, 1, none⟩ = some b ∧ wx.cell? ⟨g, 2, none⟩ = some c :=
  ⟨(hB.below hb).cell 0, (hB.below hb).cell 1, (hB.below hb).cell 2⟩
set_option maxHeartbeats 3200000 in
set_option maxRecDepth 100000 in
theorem refMul_int (X Y L M : Nat) (v v' : Value) (w : World) (h : IV w v false X L) (h' : IV w v' false Y M) (hL : L ≤ 100000) (hM : M ≤ 100000) :
    Calls Tryz.prog 29 #[v, v'] w (RetI w false (X * Y) (L + M + 3)) := by
  obtain ⟨A, m, c, us, A', c', rfl, hD, hN, hv, hm, hD'⟩ := h.open_
  obtain ⟨P, p, q, ys, P', q', rfl, hE, hO, hu, hp, hE'⟩ := h'.open_
  have B1 := ((Blk.new w 48 #[.bool false, .slice A m c, .slice A' 0 c']).alloc (.cells #[.bool false, .slice P p q, .slice P' 0 q'] 48)).alloc (.cells #[.bool false, .slice none 0 0, .slice none 0 0] 48)
  have B2 := (Blk.new (w.alloc (.cells #[.bool false, .slice A m c, .slice A' 0 c'] 48)) 48 #[.bool false, .slice P p q, .slice P' 0 q']).alloc (.cells #[.bool false, .slice none 0 0, .slice none 0 0] 48)
  have B3 := Blk.new ((w.alloc (.cells #[.bool false, .slice A m c, .slice A' 0 c'] 48)).alloc (.cells #[.bool false, .slice P p q, .slice P' 0 q'] 48)) 48 #[.bool false, .slice none 0 0, .slice none 0 0]
  have e0 : (w.alloc (.cells #[.bool false, .slice A m c, .slice A' 0 c'] 48)).heap.size = w.heap.size + 1 := by simp
  have e1 : ((w.alloc (.cells #[.bool false, .slice A m c, .slice A' 0 c'] 48)).alloc (.cells #[.bool false, .slice P p q, .slice P' 0 q'] 48)).heap.size = w.heap.size + 1 + 1 := by simp
  have hw0 := (((Below.refl w.heap.size w).alloc (Nat.le_refl _) (.cells #[.bool false, .slice A m c, .slice A' 0 c'] 48)).alloc (by rw [e0]; omega) (.cells #[.bool false, .slice P p q, .slice P' 0 q'] 48)).alloc (by rw [e1]; omega) (.cells #[.bool false, .slice none 0 0, .slice none 0 0] 48)
  rw [e0] at B2
  rw [e1] at B3
  clear e0 e1
  have h1 := hD.below hw0
  have h1' := hD'.below hw0
  have h2 := hE.below hw0
  have h2' := hE'.below hw0
  go_enter Tryz.func29, Tryz.ntmps29
  go_upto_region 1 with fail
  generalize ((w.alloc (.cells #[.bool false, .slice A m c, .slice A' 0 c'] 48)).alloc (.cells #[.bool false, .slice P p q, .slice P' 0 q'] 48)).alloc (.cells #[.bool false, .slice none 0 0, .slice none 0 0] 48) = w1 at *
  have hKeep := Lib.hid (fun (wx : World) (hb : Below w1.heap.size w1 wx) => show (wx.cell? ⟨w.heap.size, 0, none⟩ = some (.bool false) ∧ wx.cell? ⟨w.heap.size, 1, none⟩ = some (.slice A m c) ∧ wx.cell? ⟨w.heap.size, 2, none⟩ = some (.slice A' 0 c')) ∧ (wx.cell? ⟨w.heap.size + 1, 0, none⟩ = some (.bool false) ∧ wx.cell? ⟨w.heap.size + 1, 1, none⟩ = some (.slice P p q) ∧ wx.cell? ⟨w.heap.size + 1, 2, none⟩ = some (.slice P' 0 q')) from ⟨keep3 B1 hb, keep3 B2 hb⟩)
  have b0 := Below.refl w1.heap.size w1
  have b1 : Below w1.heap.size w1 w1.drew := bel_drewN b0 1
  have hlt3 := B3.lt
  go_region_held3 (fun wx => (wx.cell? ⟨w.heap.size, 0, none⟩ = some (.bool false) ∧ wx.cell? ⟨w.heap.size, 1, none⟩ = some (.slice A m c) ∧ wx.cell? ⟨w.heap.size, 2, none⟩ = some (.slice A' 0 c')) ∧ (wx.cell? ⟨w.heap.size + 1, 0, none⟩ = some (.bool false) ∧ wx.cell? ⟨w.heap.size + 1, 1, none⟩ = some (.slice P p q) ∧ wx.cell? ⟨w.heap.size + 1, 2, none⟩ = some (.slice P' 0 q')))
    (first | exact hKeep.out _ b0 | exact hKeep.out _ b1 | exact hKeep.out _ b2 | exact hKeep.out _ b3 | exact hKeep.out _ b4 | exact hKeep.out _ b5 | exact hKeep.out _ b6 | exact K8.out _ _ _ | go_keep)
    (first
      | (have _t := tk1; go_at_call 71; refine (trim_nrm _ _ _ _ _ h2.drew hO).mono ?_; rintro e w' ⟨rfl, rfl⟩)
      | (go_at_call 71; refine (trim_nrm _ _ _ _ _ h1.drew hN).mono ?_; rintro e w' ⟨rfl, rfl⟩; have tk1 : True := trivial)
      | (have _t := tk2; go_at_call 70; refine (times_any _ _ _ _ _ _ _ _ _ (hD6.below hb7) hD7 (by omega) (by omega)).mono ?_; rintro e w5 ⟨A8, m8, c8, us8, rfl, hD8, hN8, hv8, hm8, hb8⟩; have b5 := b4.trans (hb8.mono b4.size); have hD58 := (hD5.below (hb6.trans (hb7.mono hb6.size))).below hb8)
      | (go_at_call 70; refine (times_any _ _ _ _ _ _ _ _ _ h1.drew h2.drew (by omega) (by omega)).mono ?_; rintro e w2 ⟨A5, m5, c5, us5, rfl, hD5, hN5, hv5, hm5, hb5⟩; have b2 : Below w1.heap.size w1 w2 := b1.trans (hb5.mono b1.size); have tk2 : True := trivial)
      | (have _t := tk3; go_at_call 72; refine (low_one _ _ _ _ _ _ w3 (h2'.below b3)).mono ?_; rintro e w4 ⟨A7, m7, c7, us7, rfl, hD7, hN7, hv7, hm7, hb7⟩; have b4 := b3.trans (hb7.mono b3.size))
      | (go_at_call 72; refine (low_one _ _ _ _ _ _ w2 (h1'.below b2)).mono ?_; rintro e w3 ⟨A6, m6, c6, us6, rfl, hD6, hN6, hv6, hm6, hb6⟩; have b3 := b2.trans (hb6.mono b2.size); have tk3 : True := trivial)
      | (go_at_call 67; refine (make1_any _ _ _ _ _ _ _ _ _ _ hD58 hD8 (by omega) (by omega)).mono ?_; intro e w6 hq; rw [hv5.out, hv8.out, hv6.out, hv7.out, hv.out, hu.out] at hq; have hq : RetQ w5 false (X * Y) 1 (m5 + m8 + 1) e w6 := hq; obtain ⟨v4, rfl, ⟨_, _, rfl, n5, n6⟩, hb9⟩ := hq.whole; have b6 := b5.trans (hb9.mono b5.size); have C4 := B3.below b6; have hw4 := hw0.trans (b6.mono hw0.size); have r0 := C4.cell 0; have r1 := C4.cell 1; have r2 := C4.cell 2; have f0 := C4.frozen 0; have f1 := C4.frozen 1; have f2 := C4.frozen 2; have n5' := nv_le n5 (show m5 + m8 + 1 ≤ L + M + 3 by omega); have n6' := nv_le n6 (show m5 + m8 + 1 ≤ L + M + 3 by omega); obtain ⟨A9, m9, c9, us9, rfl, g9⟩ := n5; obtain ⟨A0, m0, c0, us0, rfl, g0⟩ := n6; have K6 := hKeep.out _ b6; have K8 := Lib.hid (show ∀ a b d, (((((w6.setCell ⟨w.heap.size + 1 + 1, 0, none⟩ a).setCell ⟨w.heap.size + 1 + 1, 1, none⟩ b).setCell ⟨w.heap.size + 1 + 1, 2, none⟩ d).cell? ⟨w.heap.size, 0, none⟩ = some (.bool false) ∧ (((w6.setCell ⟨w.heap.size + 1 + 1, 0, none⟩ a).setCell ⟨w.heap.size + 1 + 1, 1, none⟩ b).setCell ⟨w.heap.size + 1 + 1, 2, none⟩ d).cell? ⟨w.heap.size, 1, none⟩ = some (.slice A m c) ∧ (((w6.setCell ⟨w.heap.size + 1 + 1, 0, none⟩ a).setCell ⟨w.heap.size + 1 + 1, 1, none⟩ b).setCell ⟨w.heap.size + 1 + 1, 2, none⟩ d).cell? ⟨w.heap.size, 2, none⟩ = some (.slice A' 0 c')) ∧ ((((w6.setCell ⟨w.heap.size + 1 + 1, 0, none⟩ a).setCell ⟨w.heap.size + 1 + 1, 1, none⟩ b).setCell ⟨w.heap.size + 1 + 1, 2, none⟩ d).cell? ⟨w.heap.size + 1, 0, none⟩ = some (.bool false) ∧ (((w6.setCell ⟨w.heap.size + 1 + 1, 0, none⟩ a).setCell ⟨w.heap.size + 1 + 1, 1, none⟩ b).setCell ⟨w.heap.size + 1 + 1, 2, none⟩ d).cell? ⟨w.heap.size + 1, 1, none⟩ = some (.slice P p q) ∧ (((w6.setCell ⟨w.heap.size + 1 + 1, 0, none⟩ a).setCell ⟨w.heap.size + 1 + 1, 1, none⟩ b).setCell ⟨w.heap.size + 1 + 1, 2, none⟩ d).cell? ⟨w.heap.size + 1, 2, none⟩ = some (.slice P' 0 q'))) from fun a b d => ⟨⟨(cell_set3o _ _ _ _ _ _ (by show w.heap.size ≠ _; omega)).trans K6.1.1, (cell_set3o _ _ _ _ _ _ (by show w.heap.size ≠ _; omega)).trans K6.1.2.1, (cell_set3o _ _ _ _ _ _ (by show w.heap.size ≠ _; omega)).trans K6.1.2.2⟩, (cell_set3o _ _ _ _ _ _ (by show w.heap.size + 1 ≠ _; omega)).trans K6.2.1, (cell_set3o _ _ _ _ _ _ (by show w.heap.size + 1 ≠ _; omega)).trans K6.2.2.1, (cell_set3o _ _ _ _ _ _ (by show w.heap.size + 1 ≠ _; omega)).trans K6.2.2.2⟩)))
  go_wp2
  exact ret_frac rfl rfl (((C4.set_ 0 _).set_ 1 _).set_ 2 _) rfl ⟨_, rfl, ⟨_, _, rfl, nv_set3_32 n5' C4 _ _ _, nv_set3_32 n6' C4 _ _ _⟩, bel_set3 hw4 (by omega) _ _ _⟩
end Go.Proofs.YtfgiiidfpbpniaaGreatDoor.Fr
