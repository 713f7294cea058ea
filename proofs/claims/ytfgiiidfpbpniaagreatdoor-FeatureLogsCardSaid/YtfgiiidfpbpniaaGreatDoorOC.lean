/- The document's numbers: differences of whole numbers, and their order. -/
import Derived.Test.YtfgiiidfpbpniaaGreatDoorOB
namespace Go.Proofs.YtfgiiidfpbpniaaGreatDoor.Fr
open Go.RowKit Num

set_option maxHeartbeats 6400000 in
set_option maxRecDepth 100000 in
theorem refAdd_neg (X Y L M : Nat) (v v' : Value) (w : World) (h : IV w v false X L) (h' : IV w v' true Y M) (hL : L ≤ 100000) (hM : M ≤ 100000) :
    Calls Tryz.prog 101 #[v, v'] w (RetI w (decide (X < Y)) (if X < Y then Y - X else X - Y) (L + M + 5)) := by
  obtain ⟨A, m, c, us, A', c', rfl, hD, hN, hv, hm, hD'⟩ := h.open_
  obtain ⟨P, p, q, ys, P', q', rfl, hE, hO, hu, hp, hE'⟩ := h'.open_
  have B1 := ((Blk.new w 48 #[.bool false, .slice A m c, .slice A' 0 c']).alloc (.cells #[.bool true, .slice P p q, .slice P' 0 q'] 48)).alloc (.cells #[.bool false, .slice none 0 0, .slice none 0 0] 48)
  have B2 := (Blk.new (w.alloc (.cells #[.bool false, .slice A m c, .slice A' 0 c'] 48)) 48 #[.bool true, .slice P p q, .slice P' 0 q']).alloc (.cells #[.bool false, .slice none 0 0, .slice none 0 0] 48)
  have B3 := Blk.new ((w.alloc (.cells #[.bool false, .slice A m c, .slice A' 0 c'] 48)).alloc (.cells #[.bool true, .slice P p q, .slice P' 0 q'] 48)) 48 #[.bool false, .slice none 0 0, .slice none 0 0]
  have e0 : (w.alloc (.cells #[.bool false, .slice A m c, .slice A' 0 c'] 48)).heap.size = w.heap.size + 1 := by simp
  have e1 : ((w.alloc (.cells #[.bool false, .slice A m c, .slice A' 0 c'] 48)).alloc (.cells #[.bool true, .slice P p q, .slice P' 0 q'] 48)).heap.size = w.heap.size + 1 + 1 := by simp
  have hw0 := (((Below.refl w.heap.size w).alloc (Nat.le_refl _) (.cells #[.bool false, .slice A m c, .slice A' 0 c'] 48)).alloc (by rw [e0]; omega) (.cells #[.bool true, .slice P p q, .slice P' 0 q'] 48)).alloc (by rw [e1]; omega) (.cells #[.bool false, .slice none 0 0, .slice none 0 0] 48)
  rw [e0] at B2
  rw [e1] at B3
  clear e0 e1
  have h1 := hD.below hw0
  have h1' := hD'.below hw0
  have h2 := hE.below hw0
  have h2' := hE'.below hw0
  go_enter Tryz.func101, Tryz.ntmps101
  go_upto_region 1 with fail
  generalize ((w.alloc (.cells #[.bool false, .slice A m c, .slice A' 0 c'] 48)).alloc (.cells #[.bool true, .slice P p q, .slice P' 0 q'] 48)).alloc (.cells #[.bool false, .slice none 0 0, .slice none 0 0] 48) = w1 at *
  have hlt3 := B3.lt
  have b0 := Below.refl w1.heap.size w1
  have b1 : Below w1.heap.size w1 w1.drew := bel_drewN b0 1
  have hKeep := Lib.hid (fun (wx : World) (hb : Below w1.heap.size w1 wx) => show (wx.cell? ⟨w.heap.size, 0, none⟩ = some (.bool false) ∧ wx.cell? ⟨w.heap.size, 1, none⟩ = some (.slice A m c) ∧ wx.cell? ⟨w.heap.size, 2, none⟩ = some (.slice A' 0 c')) ∧ (wx.cell? ⟨w.heap.size + 1, 0, none⟩ = some (.bool true) ∧ wx.cell? ⟨w.heap.size + 1, 1, none⟩ = some (.slice P p q) ∧ wx.cell? ⟨w.heap.size + 1, 2, none⟩ = some (.slice P' 0 q')) from ⟨keep3 B1 hb, keep3 B2 hb⟩)
  go_region_held3 (fun wx => (wx.cell? ⟨w.heap.size, 0, none⟩ = some (.bool false) ∧ wx.cell? ⟨w.heap.size, 1, none⟩ = some (.slice A m c) ∧ wx.cell? ⟨w.heap.size, 2, none⟩ = some (.slice A' 0 c')) ∧ (wx.cell? ⟨w.heap.size + 1, 0, none⟩ = some (.bool true) ∧ wx.cell? ⟨w.heap.size + 1, 1, none⟩ = some (.slice P p q) ∧ wx.cell? ⟨w.heap.size + 1, 2, none⟩ = some (.slice P' 0 q')))
    (first | exact hKeep.out _ b0 | exact hKeep.out _ b1 | exact hKeep.out _ b2 | exact hKeep.out _ b3 | exact hKeep.out _ b4 | exact hKeep.out _ b5 | exact hKeep.out _ b6 | exact hKeep.out _ b7 | exact hKeep.out _ b8 | go_keep)
    (first
      | (have _t := tkt1; go_at_call 71; refine (trim_nrm _ _ _ _ _ (h2.below b3) hO).mono ?_; rintro e w' ⟨rfl, rfl⟩)
      | (go_at_call 71; refine (trim_nrm _ _ _ _ _ h1.drew hN).mono ?_; rintro e w' ⟨rfl, rfl⟩; have tkt1 : True := trivial)
      | (have _t := tkl3; go_at_call 72; refine (low_one _ _ _ _ _ _ w6 (h2'.below b6)).mono ?_; rintro e w7 ⟨D7, d7, k7, us7, rfl, hD7, hN7, hv7, hm7, hb7⟩; have b7 := b6.trans (hb7.mono b6.size))
      | (have _t := tkl2; go_at_call 72; refine (low_one _ _ _ _ _ _ w5 (h1'.below b5)).mono ?_; rintro e w6 ⟨D6, d6, k6, us6, rfl, hD6, hN6, hv6, hm6, hb6⟩; have b6 := b5.trans (hb6.mono b5.size); have tkl3 : True := trivial)
      | (have _t := tkl1; go_at_call 72; refine (low_one _ _ _ _ _ _ w3 (h1'.below b3)).mono ?_; rintro e w4 ⟨D4, d4, k4, us4, rfl, hD4, hN4, hv4, hm4, hb4⟩; have b4 := b3.trans (hb4.mono b3.size); have tkl2 : True := trivial)
      | (go_at_call 72; refine (low_one _ _ _ _ _ _ w1.drew (h2'.below b1)).mono ?_; rintro e w2 ⟨D2, d2, k2, us2, rfl, hD2, hN2, hv2, hm2, hb2⟩; have b2 := b1.trans (hb2.mono b1.size); have tkl1 : True := trivial)
      | (have _t := tkm2; go_at_call 70; refine (times_any _ _ _ _ _ _ _ _ _ (hD6.below hb7) hD7 (by omega) (by omega)).mono ?_; rintro e w8 ⟨D8, d8, k8, us8, rfl, hD8, hN8, hv8, hm8, hb8⟩; have b8 := b7.trans (hb8.mono b7.size))
      | (have _t := tkm1; go_at_call 70; refine (times_any _ _ _ _ _ _ _ _ _ (h2.below b4) hD4 (by omega) (by omega)).mono ?_; rintro e w5 ⟨D5, d5, k5, us5, rfl, hD5, hN5, hv5, hm5, hb5⟩; have b5 := b4.trans (hb5.mono b4.size); have tkm2 : True := trivial)
      | (go_at_call 70; refine (times_any _ _ _ _ _ _ _ _ _ (h1.below b2) hD2 (by omega) (by omega)).mono ?_; rintro e w3 ⟨D3, d3, k3, us3, rfl, hD3, hN3, hv3, hm3, hb3⟩; have b3 := b2.trans (hb3.mono b2.size); have tkm1 : True := trivial))
  have gX := (hD3.below (hb4.trans (hb5.mono hb4.size))).below (hb6.trans ((hb7.trans (hb8.mono hb7.size)).mono hb6.size))
  have gY := hD5.below (hb6.trans ((hb7.trans (hb8.mono hb7.size)).mono hb6.size))
  have eX := Lib.hid (show vl (bs .u32) us3 = X by rw [hv3.out, hv.out, hv2.out, Nat.mul_one])
  have eY := Lib.hid (show vl (bs .u32) us5 = Y by rw [hv5.out, hu.out, hv4.out, Nat.mul_one])
  have eD := Lib.hid (show dn (vl (bs .u32) us8) = 1 by rw [hv8.out, hv6.out, hv7.out]; rfl)
  have K8w := hKeep.out _ b8
  have z0 : w8.cell? ⟨w.heap.size, 0, none⟩ = some (.bool false) := K8w.1.1
  have z1 : w8.cell? ⟨w.heap.size + 1, 0, none⟩ = some (.bool true) := K8w.2.1
  have y0 : ∀ r, (w8.drewN r).cell? ⟨w.heap.size, 0, none⟩ = some (.bool false) := fun r => z0
  have y1 : ∀ r, (w8.drewN r).cell? ⟨w.heap.size + 1, 0, none⟩ = some (.bool true) := fun r => z1
  have hord := Lib.hid (order_any _ _ _ _ _ _ _ _ w8 gX gY)
  rw [eX.out, eY.out] at hord
  clear hKeep b0 b1 b2 b3 b4 b5 b6 b7 hb2 hb3 hb4 hb5 hb6 hb7 hb8 hD2 hD3 hD4 hD5 hD6 hD7 h1 h1' h2 h2' B1 B2
  rcases Nat.lt_or_ge X Y with hxy | hxy
  · rw [decide_eq_true hxy, if_pos hxy]
    rw [ord_lt hxy] at hord
    have hord := Lib.hid hord
    go_wp2_with fail
    refine hord.out.mono ?_
    rintro e w9 ⟨r, rfl, hw9⟩
    have b9 : Below w1.heap.size w1 w9 := by rw [hw9]; exact bel_drewN b8 r
    have b89 : Below w8.heap.size w8 w9 := by rw [hw9]; exact bel_drewN (Below.refl _ _) r
    have t1 : w9.cell? ⟨w.heap.size + 1, 0, none⟩ = some (.bool true) := by rw [hw9]; exact y1 r
    have gX9 := gX.below b89
    have gY9 := gY.below b89
    have gD9 := hD8.below b89
    clear hw9 y0 y1
    go_wp2_with fail
    have hK1 := Lib.hid (fun (wx : World) (hb : Below w9.heap.size w9 wx) => show wx.cell? ⟨w.heap.size + 1, 0, none⟩ = some (.bool true) from (hb.cell (World.block_lt_of_cell? _ _ t1)).trans t1)
    have c0 := Below.refl w9.heap.size w9
    have c1 : Below w9.heap.size w9 w9.drew := bel_drewN c0 1
    go_region_held3 (fun wx => wx.cell? ⟨w.heap.size + 1, 0, none⟩ = some (.bool true))
      (first | exact hK1.out _ c0 | exact hK1.out _ c1 | exact hK1.out _ c2 | exact hK1.out _ c3 | exact K8.out _ _ _ | go_keep)
      (first
        | (go_at_call 123; refine (minus_any _ _ _ _ _ _ _ _ _ gY9.drew gX9.drew (by omega) (by rw [eX.out, eY.out]; omega)).mono ?_; rintro e w10 ⟨E1, e1, f1', us10, rfl, hD10, hN10, hv10, hm10, hb10⟩; have c2 := c1.trans (hb10.mono c1.size))
        | (go_at_call 67; refine (make1_any _ _ _ _ _ _ _ _ _ _ hD10 ((gD9.drew).below hb10) (by omega) (by omega)).mono ?_; intro e w11 hq; rw [hv10.out, eX.out, eY.out, eD.out] at hq; have b10 := b9.trans (c2.mono b9.size); obtain ⟨v4, rfl, ⟨_, _, rfl, n5, n6⟩, hb9⟩ := hq.whole; have b11 := b10.trans (hb9.mono b10.size); have C4 := B3.below b11; have hw4 := hw0.trans (b11.mono hw0.size); have r0 := C4.cell 0; have r1 := C4.cell 1; have r2 := C4.cell 2; have f0 := C4.frozen 0; have f1 := C4.frozen 1; have f2 := C4.frozen 2; have n5' := nv_le n5 (show _ ≤ L + M + 5 by omega); have n6' := nv_le n6 (show _ ≤ L + M + 5 by omega); obtain ⟨A9, m9, c9, us9, rfl, g9⟩ := n5; obtain ⟨A0, m0, c0, us0, rfl, g0⟩ := n6; have c3 := c2.trans (hb9.mono c2.size); have t11 := hK1.out _ c3; have K8 := Lib.hid (show ∀ a b d, (((w11.setCell ⟨w.heap.size + 1 + 1, 0, none⟩ a).setCell ⟨w.heap.size + 1 + 1, 1, none⟩ b).setCell ⟨w.heap.size + 1 + 1, 2, none⟩ d).cell? ⟨w.heap.size + 1, 0, none⟩ = some (.bool true) from fun a b d => (cell_set3o _ _ _ _ _ _ (by show w.heap.size + 1 ≠ _; omega)).trans t11)))
    have hcn : cneg true (Y - X) = true := cneg_pos true (by omega)
    rw [hcn] at *
    go_wp2
    exact ret_frac rfl rfl (((C4.set_ 0 _).set_ 1 _).set_ 2 _) rfl ⟨_, rfl, ⟨_, _, rfl, nv_set3_32 n5' C4 _ _ _, nv_set3_32 n6' C4 _ _ _⟩, bel_set3 hw4 (by omega) _ _ _⟩
  · rw [decide_eq_false (show ¬ X < Y by omega), if_neg (show ¬ X < Y by omega)]
    have hord2 : (0 : Int) ≤ ord X Y := by
      rcases Nat.lt_or_ge Y X with e | e
      · rw [ord_gt e]; decide
      · rw [ord_eq (by omega)]; decide
    generalize ord X Y = od at *
    have hdod : decide ((0 : Int) ≤ od) = true := decide_eq_true hord2
    have hord := Lib.hid hord.out
    go_wp2_with fail
    refine hord.out.mono ?_
    rintro e w9 ⟨r, rfl, hw9⟩
    have b9 : Below w1.heap.size w1 w9 := by rw [hw9]; exact bel_drewN b8 r
    have b89 : Below w8.heap.size w8 w9 := by rw [hw9]; exact bel_drewN (Below.refl _ _) r
    have t1 : w9.cell? ⟨w.heap.size, 0, none⟩ = some (.bool false) := by rw [hw9]; exact y0 r
    have gX9 := gX.below b89
    have gY9 := gY.below b89
    have gD9 := hD8.below b89
    clear hw9 y0 y1
    go_wp2_with fail
    have hK1 := Lib.hid (fun (wx : World) (hb : Below w9.heap.size w9 wx) => show wx.cell? ⟨w.heap.size, 0, none⟩ = some (.bool false) from (hb.cell (World.block_lt_of_cell? _ _ t1)).trans t1)
    have c0 := Below.refl w9.heap.size w9
    have c1 : Below w9.heap.size w9 w9.drew := bel_drewN c0 1
    go_region_held3 (fun wx => wx.cell? ⟨w.heap.size, 0, none⟩ = some (.bool false))
      (first | exact hK1.out _ c0 | exact hK1.out _ c1 | exact hK1.out _ c2 | exact hK1.out _ c3 | exact K8.out _ _ _ | go_keep)
      (first
        | (go_at_call 123; refine (minus_any _ _ _ _ _ _ _ _ _ gX9.drew gY9.drew (by omega) (by rw [eX.out, eY.out]; omega)).mono ?_; rintro e w10 ⟨E1, e1, f1', us10, rfl, hD10, hN10, hv10, hm10, hb10⟩; have c2 := c1.trans (hb10.mono c1.size))
        | (go_at_call 67; refine (make1_any _ _ _ _ _ _ _ _ _ _ hD10 ((gD9.drew).below hb10) (by omega) (by omega)).mono ?_; intro e w11 hq; rw [hv10.out, eX.out, eY.out, eD.out] at hq; have b10 := b9.trans (c2.mono b9.size); obtain ⟨v4, rfl, ⟨_, _, rfl, n5, n6⟩, hb9⟩ := hq.whole; have b11 := b10.trans (hb9.mono b10.size); have C4 := B3.below b11; have hw4 := hw0.trans (b11.mono hw0.size); have r0 := C4.cell 0; have r1 := C4.cell 1; have r2 := C4.cell 2; have f0 := C4.frozen 0; have f1 := C4.frozen 1; have f2 := C4.frozen 2; have n5' := nv_le n5 (show _ ≤ L + M + 5 by omega); have n6' := nv_le n6 (show _ ≤ L + M + 5 by omega); obtain ⟨A9, m9, c9, us9, rfl, g9⟩ := n5; obtain ⟨A0, m0, c0, us0, rfl, g0⟩ := n6; have c3 := c2.trans (hb9.mono c2.size); have t11 := hK1.out _ c3; have K8 := Lib.hid (show ∀ a b d, (((w11.setCell ⟨w.heap.size + 1 + 1, 0, none⟩ a).setCell ⟨w.heap.size + 1 + 1, 1, none⟩ b).setCell ⟨w.heap.size + 1 + 1, 2, none⟩ d).cell? ⟨w.heap.size, 0, none⟩ = some (.bool false) from fun a b d => (cell_set3o _ _ _ _ _ _ (by show w.heap.size ≠ _; omega)).trans t11)))
    have hcn : cneg false (X - Y) = false := rfl
    rw [hcn] at *
    go_wp2
    exact ret_frac rfl rfl (((C4.set_ 0 _).set_ 1 _).set_ 2 _) rfl ⟨_, rfl, ⟨_, _, rfl, nv_set3_32 n5' C4 _ _ _, nv_set3_32 n6' C4 _ _ _⟩, bel_set3 hw4 (by omega) _ _ _⟩

set_option maxHeartbeats 3200000 in
set_option maxRecDepth 100000 in
theorem refSub_int (X Y L M : Nat) (v v' : Value) (w : World) (h : IV w v false X L) (h' : IV w v' false Y M) (hY : 0 < Y) (hL : L ≤ 50000) (hM : M ≤ 50000) :
    Calls Tryz.prog 74 #[v, v'] w (RetI w (decide (X < Y)) (if X < Y then Y - X else X - Y) (L + M + 6)) := by
  have hcy := Lib.hid (cneg_pos true hY)
  obtain ⟨A, m, c, us, A', c', rfl, hD, hN, hv, hm, hD'⟩ := h.open_
  obtain ⟨P, p, q, ys, P', q', rfl, hE, hO, hu, hp, hE'⟩ := h'.open_
  have B1 := ((Blk.new w 48 #[.bool false, .slice A m c, .slice A' 0 c']).alloc (.cells #[.bool false, .slice P p q, .slice P' 0 q'] 48)).alloc (.cells #[.bool false, .slice none 0 0, .slice none 0 0] 48)
  have B2 := (Blk.new (w.alloc (.cells #[.bool false, .slice A m c, .slice A' 0 c'] 48)) 48 #[.bool false, .slice P p q, .slice P' 0 q']).alloc (.cells #[.bool false, .slice none 0 0, .slice none 0 0] 48)
  have B3 := Blk.new ((w.alloc (.cells #[.bool false, .slice A m c, .slice A' 0 c'] 48)).alloc (.cells #[.bool false, .slice P p q, .slice P' 0 q'] 48)) 48 #[.bool false, .slice none 0 0, .slice none 0 0]
  have e0 : (w.alloc (.cells #[.bool false, .slice A m c, .slice A' 0 c'] 48)).heap.size = w.heap.size + 1 := by simp
  have e1 : ((w.alloc (.cells #[.bool false, .slice A m c, .slice A' 0 c'] 48)).alloc (.cells #[.bool false, .slice P p q, .slice P' 0 q'] 48)).heap.size = w.heap.size + 1 + 1 := by simp
  have hw0 := (((Below.refl w.heap.size w).alloc (Nat.le_refl _) (.cells #[.bool false, .slice A m c, .slice A' 0 c'] 48)).alloc (by rw [e0]; omega) (.cells #[.bool false, .slice P p q, .slice P' 0 q'] 48)).alloc (by rw [e1]; omega) (.cells #[.bool false, .slice none 0 0, .slice none 0 0] 48)
  rw [e0] at B2
  rw [e1] at B3
  clear e0 e1
  have h1 := hD.below hw0
  have h1' := hD'.below hw0
  have h2 := hE.below hw0
  have h2' := hE'.below hw0
  go_enter Tryz.func74, Tryz.ntmps74
  go_upto_region 1 with fail
  generalize ((w.alloc (.cells #[.bool false, .slice A m c, .slice A' 0 c'] 48)).alloc (.cells #[.bool false, .slice P p q, .slice P' 0 q'] 48)).alloc (.cells #[.bool false, .slice none 0 0, .slice none 0 0] 48) = w1 at *
  have hlt3 := B3.lt
  have b0 := Below.refl w1.heap.size w1
  have b1 : Below w1.heap.size w1 w1.drew := bel_drewN b0 1
  have hKeep := Lib.hid (fun (wx : World) (hb : Below w1.heap.size w1 wx) => show (wx.cell? ⟨w.heap.size, 0, none⟩ = some (.bool false) ∧ wx.cell? ⟨w.heap.size, 1, none⟩ = some (.slice A m c) ∧ wx.cell? ⟨w.heap.size, 2, none⟩ = some (.slice A' 0 c')) ∧ (wx.cell? ⟨w.heap.size + 1, 0, none⟩ = some (.bool false) ∧ wx.cell? ⟨w.heap.size + 1, 1, none⟩ = some (.slice P p q) ∧ wx.cell? ⟨w.heap.size + 1, 2, none⟩ = some (.slice P' 0 q')) from ⟨keep3 B1 hb, keep3 B2 hb⟩)
  have i1 : IV w1 (.agg #[.bool false, .slice A m c, .slice A' 0 c']) false X L := ⟨_, _, rfl, ⟨_, _, _, _, rfl, h1, hN, hv, hm⟩, ⟨_, _, _, _, rfl, h1', Nrm.nil, rfl, Nat.zero_le _⟩⟩
  have i2 : IV w1 (.agg #[.bool false, .slice P p q, .slice P' 0 q']) false Y M := ⟨_, _, rfl, ⟨_, _, _, _, rfl, h2, hO, hu, hp⟩, ⟨_, _, _, _, rfl, h2', Nrm.nil, rfl, Nat.zero_le _⟩⟩
  generalize hZ : (if X < Y then Y - X else X - Y) = ZZ at *
  generalize hS : decide (X < Y) = SS at *
  go_region_held3 (fun wx => (wx.cell? ⟨w.heap.size, 0, none⟩ = some (.bool false) ∧ wx.cell? ⟨w.heap.size, 1, none⟩ = some (.slice A m c) ∧ wx.cell? ⟨w.heap.size, 2, none⟩ = some (.slice A' 0 c')) ∧ (wx.cell? ⟨w.heap.size + 1, 0, none⟩ = some (.bool false) ∧ wx.cell? ⟨w.heap.size + 1, 1, none⟩ = some (.slice P p q) ∧ wx.cell? ⟨w.heap.size + 1, 2, none⟩ = some (.slice P' 0 q')))
    (first | exact hKeep.out _ b0 | exact hKeep.out _ b1 | exact hKeep.out _ b2 | exact hKeep.out _ b3 | exact K8.out _ _ _ | go_keep)
    (first
      | (go_at_call 102; refine (refNeg_int Y M _ w1.drew (FV.below i2 b1) (by omega)).mono ?_; rintro e w2 ⟨vn, rfl, hin, hb2⟩; rw [hcy.out] at hin; have b2 := b1.trans (hb2.mono b1.size))
      | (go_at_call 101; refine (refAdd_neg X Y L (M + 1) _ _ w2 (FV.below i1 b2) hin (by omega) (by omega)).mono ?_; rw [hZ, hS]; rintro e w3 ⟨v4, rfl, ⟨_, _, rfl, n5, n6⟩, hb9⟩; have b3 := b2.trans (hb9.mono b2.size); have C4 := B3.below b3; have hw4 := hw0.trans (b3.mono hw0.size); have r0 := C4.cell 0; have r1 := C4.cell 1; have r2 := C4.cell 2; have f0 := C4.frozen 0; have f1 := C4.frozen 1; have f2 := C4.frozen 2; have n5' := nv_le n5 (show L + (M + 1) + 5 ≤ L + M + 6 by omega); have n6' := nv_le n6 (show L + (M + 1) + 5 ≤ L + M + 6 by omega); obtain ⟨A9, m9, c9, us9, rfl, g9⟩ := n5; obtain ⟨A0, m0, c0, us0, rfl, g0⟩ := n6; have K6 := hKeep.out _ b3; have K8 := Lib.hid (show ∀ a b d, ((((w3.setCell ⟨w.heap.size + 1 + 1, 0, none⟩ a).setCell ⟨w.heap.size + 1 + 1, 1, none⟩ b).setCell ⟨w.heap.size + 1 + 1, 2, none⟩ d).cell? ⟨w.heap.size, 0, none⟩ = some (.bool false) ∧ (((w3.setCell ⟨w.heap.size + 1 + 1, 0, none⟩ a).setCell ⟨w.heap.size + 1 + 1, 1, none⟩ b).setCell ⟨w.heap.size + 1 + 1, 2, none⟩ d).cell? ⟨w.heap.size, 1, none⟩ = some (.slice A m c) ∧ (((w3.setCell ⟨w.heap.size + 1 + 1, 0, none⟩ a).setCell ⟨w.heap.size + 1 + 1, 1, none⟩ b).setCell ⟨w.heap.size + 1 + 1, 2, none⟩ d).cell? ⟨w.heap.size, 2, none⟩ = some (.slice A' 0 c')) ∧ ((((w3.setCell ⟨w.heap.size + 1 + 1, 0, none⟩ a).setCell ⟨w.heap.size + 1 + 1, 1, none⟩ b).setCell ⟨w.heap.size + 1 + 1, 2, none⟩ d).cell? ⟨w.heap.size + 1, 0, none⟩ = some (.bool false) ∧ (((w3.setCell ⟨w.heap.size + 1 + 1, 0, none⟩ a).setCell ⟨w.heap.size + 1 + 1, 1, none⟩ b).setCell ⟨w.heap.size + 1 + 1, 2, none⟩ d).cell? ⟨w.heap.size + 1, 1, none⟩ = some (.slice P p q) ∧ (((w3.setCell ⟨w.heap.size + 1 + 1, 0, none⟩ a).setCell ⟨w.heap.size + 1 + 1, 1, none⟩ b).setCell ⟨w.heap.size + 1 + 1, 2, none⟩ d).cell? ⟨w.heap.size + 1, 2, none⟩ = some (.slice P' 0 q')) from fun a b d => ⟨⟨(cell_set3o _ _ _ _ _ _ (by show w.heap.size ≠ _; omega)).trans K6.1.1, (cell_set3o _ _ _ _ _ _ (by show w.heap.size ≠ _; omega)).trans K6.1.2.1, (cell_set3o _ _ _ _ _ _ (by show w.heap.size ≠ _; omega)).trans K6.1.2.2⟩, (cell_set3o _ _ _ _ _ _ (by show w.heap.size + 1 ≠ _; omega)).trans K6.2.1, (cell_set3o _ _ _ _ _ _ (by show w.heap.size + 1 ≠ _; omega)).trans K6.2.2.1, (cell_set3o _ _ _ _ _ _ (by show w.heap.size + 1 ≠ _; omega)).trans K6.2.2.2⟩)))
  go_wp2
  exact ret_frac rfl rfl (((C4.set_ 0 _).set_ 1 _).set_ 2 _) rfl ⟨_, rfl, ⟨_, _, rfl, nv_set3_32 n5' C4 _ _ _, nv_set3_32 n6' C4 _ _ _⟩, bel_set3 hw4 (by omega) _ _ _⟩

set_option maxHeartbeats 1600000 in
theorem refCmp_int (X Y L M : Nat) (v v' : Value) (w : World) (h : IV w v false X L) (h' : IV w v' false Y M) (hY : 0 < Y) (hL : L ≤ 50000) (hM : M ≤ 50000) :
    Calls Tryz.prog 30 #[v, v'] w fun e w' => ∃ q, e = .returned (.int .i64 q) ∧ (q ≤ 0 ↔ X ≤ Y) ∧ Below w.heap.size w w' := by
  obtain ⟨A, m, c, us, A', c', rfl, hD, hN, hv, hm, hD'⟩ := h.open_
  obtain ⟨P, p, q, ys, P', q', rfl, hE, hO, hu, hp, hE'⟩ := h'.open_
  have B1 := (Blk.new w 48 #[.bool false, .slice A m c, .slice A' 0 c']).alloc (.cells #[.bool false, .slice P p q, .slice P' 0 q'] 48)
  have B2 := Blk.new (w.alloc (.cells #[.bool false, .slice A m c, .slice A' 0 c'] 48)) 48 #[.bool false, .slice P p q, .slice P' 0 q']
  have e0 : (w.alloc (.cells #[.bool false, .slice A m c, .slice A' 0 c'] 48)).heap.size = w.heap.size + 1 := by simp
  have hw0 := ((Below.refl w.heap.size w).alloc (Nat.le_refl _) (.cells #[.bool false, .slice A m c, .slice A' 0 c'] 48)).alloc (by rw [e0]; omega) (.cells #[.bool false, .slice P p q, .slice P' 0 q'] 48)
  rw [e0] at B2
  clear e0
  have i1 := FV.below h hw0
  have i2 := FV.below h' hw0
  go_enter Tryz.func30, Tryz.ntmps30
  go_upto_region 1 with fail
  generalize (w.alloc (.cells #[.bool false, .slice A m c, .slice A' 0 c'] 48)).alloc (.cells #[.bool false, .slice P p q, .slice P' 0 q'] 48) = w1 at *
  have k0 : w1.cell? ⟨w.heap.size, 0, none⟩ = some (.bool false) := B1.cell 0
  have k1 : w1.cell? ⟨w.heap.size, 1, none⟩ = some (.slice A m c) := B1.cell 1
  have k2 : w1.cell? ⟨w.heap.size, 2, none⟩ = some (.slice A' 0 c') := B1.cell 2
  have k3 : w1.cell? ⟨w.heap.size + 1, 0, none⟩ = some (.bool false) := B2.cell 0
  have k4 : w1.cell? ⟨w.heap.size + 1, 1, none⟩ = some (.slice P p q) := B2.cell 1
  have k5 : w1.cell? ⟨w.heap.size + 1, 2, none⟩ = some (.slice P' 0 q') := B2.cell 2
  go_wp2_with fail
  refine (refSub_int X Y L M _ _ w1 i1 i2 hY hL hM).mono ?_
  rintro e w2 ⟨v2, rfl, hi2, hb2⟩
  have hw2 := hw0.trans (hb2.mono hw0.size)
  obtain ⟨A9, m9, c9, us9, D9, d9, rfl, g9⟩ := hi2.open_
  go_wp2_with fail
  refine (refSign_int _ _ _ _ w2 hi2).mono ?_
  rintro e w3 ⟨rfl, hb3⟩
  have hw3 := hw2.trans (hb3.mono hw2.size)
  have hfin := Lib.hid (show ((if (if X < Y then Y - X else X - Y) = 0 then (0 : Int) else if decide (X < Y) = true then -1 else 1) ≤ 0 ↔ X ≤ Y) by
    by_cases hxy : X < Y
    · rw [if_pos hxy, if_neg (by omega), if_pos (by simpa using hxy)]
      constructor
      · intro _; omega
      · intro _; decide
    · rw [if_neg hxy]
      by_cases h0 : X - Y = 0
      · rw [if_pos h0]
        constructor
        · intro _; omega
        · intro _; decide
      · rw [if_neg h0, if_neg (by simpa using hxy)]
        constructor
        · intro e; exact absurd e (by decide)
        · intro e; omega)
  generalize (if (if X < Y then Y - X else X - Y) = 0 then (0 : Int) else if decide (X < Y) = true then -1 else 1) = res at *
  go_wp2
  go_ret
  exact ⟨res, rfl, hfin.out, hw3⟩
end Go.Proofs.YtfgiiidfpbpniaaGreatDoor.Fr
