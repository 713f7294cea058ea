/- The document's numbers: differences of whole numbers, and their order. -/
import Derived.Test.YtoljffghaklpdaaGreatDoorA8
import Derived.Test.YtoljffghaklpdaaGreatDoorPM
import Derived.Test.YtoljffghaklpdaaGreatDoorHA
namespace Go.Proofs.YtoljffghaklpdaaGreatDoor.Fr
open Go.RowKit Num

set_option maxHeartbeats 6400000 in
set_option maxRecDepth 100000 in
theorem refAdd_neg (X Y L M : Nat) (v v' : Value) (w : World) (h : IV w v false X L) (h' : IV w v' true Y M) (hL : L ≤ 100000) (hM : M ≤ 100000) :
    Calls Tryz.prog 164 #[v, v'] w (RetI w (decide (X < Y)) (if X < Y then Y - X else X - Y) (L + M + 5)) := by
  obtain ⟨A, m, c, us, A', c', rfl, hD, hN, hv, hm, hD'⟩ := h.open_
  obtain ⟨P, p, q, ys, P', q', rfl, hE, hO, hu, hp, hE'⟩ := h'.open_
  have B1 := ((Blk.new w 78 #[.bool false, .slice A m c, .slice A' 0 c']).alloc (.cells #[.bool true, .slice P p q, .slice P' 0 q'] 78)).alloc (.cells #[.bool false, .slice none 0 0, .slice none 0 0] 78)
  have B2 := (Blk.new (w.alloc (.cells #[.bool false, .slice A m c, .slice A' 0 c'] 78)) 78 #[.bool true, .slice P p q, .slice P' 0 q']).alloc (.cells #[.bool false, .slice none 0 0, .slice none 0 0] 78)
  have B3 := Blk.new ((w.alloc (.cells #[.bool false, .slice A m c, .slice A' 0 c'] 78)).alloc (.cells #[.bool true, .slice P p q, .slice P' 0 q'] 78)) 78 #[.bool false, .slice none 0 0, .slice none 0 0]
  have e0 : (w.alloc (.cells #[.bool false, .slice A m c, .slice A' 0 c'] 78)).heap.size = w.heap.size + 1 := by simp
  have e1 : ((w.alloc (.cells #[.bool false, .slice A m c, .slice A' 0 c'] 78)).alloc (.cells #[.bool true, .slice P p q, .slice P' 0 q'] 78)).heap.size = w.heap.size + 1 + 1 := by simp
  have hw0 := (((Below.refl w.heap.size w).alloc (Nat.le_refl _) (.cells #[.bool false, .slice A m c, .slice A' 0 c'] 78)).alloc (by rw [e0]; omega) (.cells #[.bool true, .slice P p q, .slice P' 0 q'] 78)).alloc (by rw [e1]; omega) (.cells #[.bool false, .slice none 0 0, .slice none 0 0] 78)
  rw [e0] at B2
  rw [e1] at B3
  clear e0 e1
  have h1 := hD.below hw0
  have h1' := hD'.below hw0
  have h2 := hE.below hw0
  have h2' := hE'.below hw0
  go_enter Tryz.func164, Tryz.ntmps164
  go_upto_region 1 with fail
  generalize ((w.alloc (.cells #[.bool false, .slice A m c, .slice A' 0 c'] 78)).alloc (.cells #[.bool true, .slice P p q, .slice P' 0 q'] 78)).alloc (.cells #[.bool false, .slice none 0 0, .slice none 0 0] 78) = w1 at *
  have hlt3 := B3.lt
  have b0 := Below.refl w1.heap.size w1
  have b1 : Below w1.heap.size w1 w1.drew := bel_drewN b0 1
  have hKeep := Lib.hid (fun (wx : World) (hb : Below w1.heap.size w1 wx) => show (wx.cell? ⟨w.heap.size, 0, none⟩ = some (.bool false) ∧ wx.cell? ⟨w.heap.size, 1, none⟩ = some (.slice A m c) ∧ wx.cell? ⟨w.heap.size, 2, none⟩ = some (.slice A' 0 c')) ∧ (wx.cell? ⟨w.heap.size + 1, 0, none⟩ = some (.bool true) ∧ wx.cell? ⟨w.heap.size + 1, 1, none⟩ = some (.slice P p q) ∧ wx.cell? ⟨w.heap.size + 1, 2, none⟩ = some (.slice P' 0 q')) from ⟨keep3 B1 hb, keep3 B2 hb⟩)
  go_region_held3 (fun wx => (wx.cell? ⟨w.heap.size, 0, none⟩ = some (.bool false) ∧ wx.cell? ⟨w.heap.size, 1, none⟩ = some (.slice A m c) ∧ wx.cell? ⟨w.heap.size, 2, none⟩ = some (.slice A' 0 c')) ∧ (wx.cell? ⟨w.heap.size + 1, 0, none⟩ = some (.bool true) ∧ wx.cell? ⟨w.heap.size + 1, 1, none⟩ = some (.slice P p q) ∧ wx.cell? ⟨w.heap.size + 1, 2, none⟩ = some (.slice P' 0 q')))
    (first | exact hKeep.out _ b0 | exact hKeep.out _ b1 | exact hKeep.out _ b2 | exact hKeep.out _ b3 | exact hKeep.out _ b4 | exact hKeep.out _ b5 | exact hKeep.out _ b6 | exact hKeep.out _ b7 | exact hKeep.out _ b8 | go_keep)
    (first
      | (have _t := tkt1; go_at_call 116; refine (trim_nrm _ _ _ _ _ (h2.below b3) hO).mono ?_; rintro e w' ⟨rfl, rfl⟩)
      | (go_at_call 116; refine (trim_nrm _ _ _ _ _ h1.drew hN).mono ?_; rintro e w' ⟨rfl, rfl⟩; have tkt1 : True := trivial)
      | (have _t := tkl3; go_at_call 117; refine (low_one _ _ _ _ _ _ w6 (h2'.below b6)).mono ?_; rintro e w7 ⟨D7, d7, k7, us7, rfl, hD7, hN7, hv7, hm7, hb7⟩; have b7 := b6.trans (hb7.mono b6.size))
      | (have _t := tkl2; go_at_call 117; refine (low_one _ _ _ _ _ _ w5 (h1'.below b5)).mono ?_; rintro e w6 ⟨D6, d6, k6, us6, rfl, hD6, hN6, hv6, hm6, hb6⟩; have b6 := b5.trans (hb6.mono b5.size); have tkl3 : True := trivial)
      | (have _t := tkl1; go_at_call 117; refine (low_one _ _ _ _ _ _ w3 (h1'.below b3)).mono ?_; rintro e w4 ⟨D4, d4, k4, us4, rfl, hD4, hN4, hv4, hm4, hb4⟩; have b4 := b3.trans (hb4.mono b3.size); have tkl2 : True := trivial)
      | (go_at_call 117; refine (low_one _ _ _ _ _ _ w1.drew (h2'.below b1)).mono ?_; rintro e w2 ⟨D2, d2, k2, us2, rfl, hD2, hN2, hv2, hm2, hb2⟩; have b2 := b1.trans (hb2.mono b1.size); have tkl1 : True := trivial)
      | (have _t := tkm2; go_at_call 115; refine (times_any _ _ _ _ _ _ _ _ _ (hD6.below hb7) hD7 (by omega) (by omega)).mono ?_; rintro e w8 ⟨D8, d8, k8, us8, rfl, hD8, hN8, hv8, hm8, hb8⟩; have b8 := b7.trans (hb8.mono b7.size))
      | (have _t := tkm1; go_at_call 115; refine (times_any _ _ _ _ _ _ _ _ _ (h2.below b4) hD4 (by omega) (by omega)).mono ?_; rintro e w5 ⟨D5, d5, k5, us5, rfl, hD5, hN5, hv5, hm5, hb5⟩; have b5 := b4.trans (hb5.mono b4.size); have tkm2 : True := trivial)
      | (go_at_call 115; refine (times_any _ _ _ _ _ _ _ _ _ (h1.below b2) hD2 (by omega) (by omega)).mono ?_; rintro e w3 ⟨D3, d3, k3, us3, rfl, hD3, hN3, hv3, hm3, hb3⟩; have b3 := b2.trans (hb3.mono b2.size); have tkm1 : True := trivial))
  have gX := (hD3.below (hb4.trans (hb5.mono hb4.size))).below (hb6.trans ((hb7.trans (hb8.mono hb7.size)).mono hb6.size))
  have gY := hD5.below (hb6.trans ((hb7.trans (hb8.mono hb7.size)).mono hb6.size))
  have eX := Lib.hid (show vl (bs .u32) us3 = X by rw [hv3.out, hv.out, hv2.out, Nat.mul_one])
  have eY := Lib.hid (show vl (bs .u32) us5 = Y by rw [hv5.out, hu.out, hv4.out, Nat.mul_one])
  have eD := Lib.hid (show dn (vl (bs .u32) us8) = 1 by rw [hv8.out, hv6.out, hv7.out]; rfl)
  have K8w := hKeep.out _ b8
  have z0 : w8.cell? ⟨w.heap.size, 0, none⟩ = some (.bool false) := K8w.1.1
  have z1 : w8.cell? ⟨w.heap.size + 1, 0, none⟩ = some (.bool true) := K8w.2.1
  have y0 : ∀ r, (w8.drewN r).cell? ⟨w.heap.size, 0, none⟩ = some (.bool false) := fun r => z0
  have y1 : ∀ r, (w8.drewN r).cell? ⟨w.heap.size + 1, 0, none⟩ = some (.bool true) := fun r => z1
  have hord := Lib.hid (order_any _ _ _ _ _ _ _ _ w8 gX gY)
  rw [eX.out, eY.out] at hord
  clear hKeep b0 b1 b2 b3 b4 b5 b6 b7 hb2 hb3 hb4 hb5 hb6 hb7 hb8 hD2 hD3 hD4 hD5 hD6 hD7 h1 h1' h2 h2' B1 B2
  rcases Nat.lt_or_ge X Y with hxy | hxy
  · rw [decide_eq_true hxy, if_pos hxy]
    rw [ord_lt hxy] at hord
    have hord := Lib.hid hord
    go_wp2_with fail
    refine hord.out.mono ?_
    rintro e w9 ⟨r, rfl, hw9⟩
    have b9 : Below w1.heap.size w1 w9 := by rw [hw9]; exact bel_drewN b8 r
    have b89 : Below w8.heap.size w8 w9 := by rw [hw9]; exact bel_drewN (Below.refl _ _) r
    have t1 : w9.cell? ⟨w.heap.size + 1, 0, none⟩ = some (.bool true) := by rw [hw9]; exact y1 r
    have gX9 := gX.below b89
    have gY9 := gY.below b89
    have gD9 := hD8.below b89
    clear hw9 y0 y1
    go_wp2_with fail
    have hK1 := Lib.hid (fun (wx : World) (hb : Below w9.heap.size w9 wx) => show wx.cell? ⟨w.heap.size + 1, 0, none⟩ = some (.bool true) from (hb.cell (World.block_lt_of_cell? _ _ t1)).trans t1)
    have c0 := Below.refl w9.heap.size w9
    have c1 : Below w9.heap.size w9 w9.drew := bel_drewN c0 1
    go_region_held3 (fun wx => wx.cell? ⟨w.heap.size + 1, 0, none⟩ = some (.bool true))
      (first | exact hK1.out _ c0 | exact hK1.out _ c1 | exact hK1.out _ c2 | exact hK1.out _ c3 | exact K8.out _ _ _ | go_keep)
      (first
        | (go_at_call 199; refine (minus_any _ _ _ _ _ _ _ _ _ gY9.drew gX9.drew (by omega) (by rw [eX.out, eY.out]; omega)).mono ?_; rintro e w10 ⟨E1, e1, f1', us10, rfl, hD10, hN10, hv10, hm10, hb10⟩; have c2 := c1.trans (hb10.mono c1.size))
        | (go_at_call 112; refine (make1_any _ _ _ _ _ _ _ _ _ _ hD10 ((gD9.drew).below hb10) (by omega) (by omega)).mono ?_; intro e w11 hq; rw [hv10.out, eX.out, eY.out, eD.out] at hq; have b10 := b9.trans (c2.mono b9.size); obtain ⟨v4, rfl, ⟨_, _, rfl, n5, n6⟩, hb9⟩ := hq.whole; have b11 := b10.trans (hb9.mono b10.size); have C4 := B3.below b11; have hw4 := hw0.trans (b11.mono hw0.size); have r0 := C4.cell 0; have r1 := C4.cell 1; have r2 := C4.cell 2; have f0 := C4.frozen 0; have f1 := C4.frozen 1; have f2 := C4.frozen 2; have n5' := nv_le n5 (show _ ≤ L + M + 5 by omega); have n6' := nv_le n6 (show _ ≤ L + M + 5 by omega); obtain ⟨A9, m9, c9, us9, rfl, g9⟩ := n5; obtain ⟨A0, m0, c0, us0, rfl, g0⟩ := n6; have c3 := c2.trans (hb9.mono c2.size); have t11 := hK1.out _ c3; have K8 := Lib.hid (show ∀ a b d, (((w11.setCell ⟨w.heap.size + 1 + 1, 0, none⟩ a).setCell ⟨w.heap.size + 1 + 1, 1, none⟩ b).setCell ⟨w.heap.size + 1 + 1, 2, none⟩ d).cell? ⟨w.heap.size + 1, 0, none⟩ = some (.bool true) from fun a b d => (cell_set3o _ _ _ _ _ _ (by show w.heap.size + 1 ≠ _; omega)).trans t11)))
    have hcn : cneg true (Y - X) = true := cneg_pos true (by omega)
    rw [hcn] at *
    go_wp2
    exact ret_frac rfl rfl (((C4.set_ 0 _).set_ 1 _).set_ 2 _) rfl ⟨_, rfl, ⟨_, _, rfl, nv_set3_32 n5' C4 _ _ _, nv_set3_32 n6' C4 _ _ _⟩, bel_set3 hw4 (by omega) _ _ _⟩
  · rw [decide_eq_false (show ¬ X < Y by omega), if_neg (show ¬ X < Y by omega)]
    have hord2 : (0 : Int) ≤ ord X Y := by
      rcases Nat.lt_or_ge Y X with e | e
      · rw [ord_gt e]; decide
      · rw [ord_eq (by omega)]; decide
    generalize ord X Y = od at *
    have hdod : decide ((0 : Int) ≤ od) = true := decide_eq_true hord2
    have hord := Lib.hid hord.out
    go_wp2_with fail
    refine hord.out.mono ?_
    rintro e w9 ⟨r, rfl, hw9⟩
    have b9 : Below w1.heap.size w1 w9 := by rw [hw9]; exact bel_drewN b8 r
    have b89 : Below w8.heap.size w8 w9 := by rw [hw9]; exact bel_drewN (Below.refl _ _) r
    have t1 : w9.cell? ⟨w.heap.size, 0, none⟩ = some (.bool false) := by rw [hw9]; exact y0 r
    have gX9 := gX.below b89
    have gY9 := gY.below b89
    have gD9 := hD8.below b89
    clear hw9 y0 y1
    go_wp2_with fail
    have hK1 := Lib.hid (fun (wx : World) (hb : Below w9.heap.size w9 wx) => show wx.cell? ⟨w.heap.size, 0, none⟩ = some (.bool false) from (hb.cell (World.block_lt_of_cell? _ _ t1)).trans t1)
    have c0 := Below.refl w9.heap.size w9
    have c1 : Below w9.heap.size w9 w9.drew := bel_drewN c0 1
    go_region_held3 (fun wx => wx.cell? ⟨w.heap.size, 0, none⟩ = some (.bool false))
      (first | exact hK1.out _ c0 | exact hK1.out _ c1 | exact hK1.out _ c2 | exact hK1.out _ c3 | exact K8.out _ _ _ | go_keep)
      (first
        | (go_at_call 199; refine (minus_any _ _ _ _ _ _ _ _ _ gX9.drew gY9.drew (by omega) (by rw [eX.out, eY.out]; omega)).mono ?_; rintro e w10 ⟨E1, e1, f1', us10, rfl, hD10, hN10, hv10, hm10, hb10⟩; have c2 := c1.trans (hb10.mono c1.size))
        | (go_at_call 112; refine (make1_any _ _ _ _ _ _ _ _ _ _ hD10 ((gD9.drew).below hb10) (by omega) (by omega)).mono ?_; intro e w11 hq; rw [hv10.out, eX.out, eY.out, eD.out] at hq; have b10 := b9.trans (c2.mono b9.size); obtain ⟨v4, rfl, ⟨_, _, rfl, n5, n6⟩, hb9⟩ := hq.whole; have b11 := b10.trans (hb9.mono b10.size); have C4 := B3.below b11; have hw4 := hw0.trans (b11.mono hw0.size); have r0 := C4.cell 0; have r1 := C4.cell 1; have r2 := C4.cell 2; have f0 := C4.frozen 0; have f1 := C4.frozen 1; have f2 := C4.frozen 2; have n5' := nv_le n5 (show _ ≤ L + M + 5 by omega); have n6' := nv_le n6 (show _ ≤ L + M + 5 by omega); obtain ⟨A9, m9, c9, us9, rfl, g9⟩ := n5; obtain ⟨A0, m0, c0, us0, rfl, g0⟩ := n6; have c3 := c2.trans (hb9.mono c2.size); have t11 := hK1.out _ c3; have K8 := Lib.hid (show ∀ a b d, (((w11.setCell ⟨w.heap.size + 1 + 1, 0, none⟩ a).setCell ⟨w.heap.size + 1 + 1, 1, none⟩ b).setCell ⟨w.heap.size + 1 + 1, 2, none⟩ d).cell? ⟨w.heap.size, 0, none⟩ = some (.bool false) from fun a b d => (cell_set3o _ _ _ _ _ _ (by show w.heap.size ≠ _; omega)).trans t11)))
    have hcn : cneg false (X - Y) = false := rfl
    rw [hcn] at *
    go_wp2
    exact ret_frac rfl rfl (((C4.set_ 0 _).set_ 1 _).set_ 2 _) rfl ⟨_, rfl, ⟨_, _, rfl, nv_set3_32 n5' C4 _ _ _, nv_set3_32 n6' C4 _ _ _⟩, bel_set3 hw4 (by omega) _ _ _⟩

set_option maxHeartbeats 3200000 in
set_option maxRecDepth 100000 in
theorem refSub_int (X Y L M : Nat) (v v' : Value) (w : World) (h : IV w v false X L) (h' : IV w v' false Y M) (hY : 0 < Y) (hL : L ≤ 50000) (hM : M ≤ 50000) :
    Calls Tryz.prog 119 #[v, v'] w (RetI w (decide (X < Y)) (if X < Y then Y - X else X - Y) (L + M + 6)) := by
  have hcy := Lib.hid (cneg_pos true hY)
  obtain ⟨A, m, c, us, A', c', rfl, hD, hN, hv, hm, hD'⟩ := h.open_
  obtain ⟨P, p, q, ys, P', q', rfl, hE, hO, hu, hp, hE'⟩ := h'.open_
  have B1 := ((Blk.new w 78 #[.bool false, .slice A m c, .slice A' 0 c']).alloc (.cells #[.bool false, .slice P p q, .slice P' 0 q'] 78)).alloc (.cells #[.bool false, .slice none 0 0, .slice none 0 0] 78)
  have B2 := (Blk.new (w.alloc (.cells #[.bool false, .slice A m c, .slice A' 0 c'] 78)) 78 #[.bool false, .slice P p q, .slice P' 0 q']).alloc (.cells #[.bool false, .slice none 0 0, .slice none 0 0] 78)
  have B3 := Blk.new ((w.alloc (.cells #[.bool false, .slice A m c, .slice A' 0 c'] 78)).alloc (.cells #[.bool false, .slice P p q, .slice P' 0 q'] 78)) 78 #[.bool false, .slice none 0 0, .slice none 0 0]
  have e0 : (w.alloc (.cells #[.bool false, .slice A m c, .slice A' 0 c'] 78)).heap.size = w.heap.size + 1 := by simp
  have e1 : ((w.alloc (.cells #[.bool false, .slice A m c, .slice A' 0 c'] 78)).alloc (.cells #[.bool false, .slice P p q, .slice P' 0 q'] 78)).heap.size = w.heap.size + 1 + 1 := by simp
  have hw0 := (((Below.refl w.heap.size w).alloc (Nat.le_refl _) (.cells #[.bool false, .slice A m c, .slice A' 0 c'] 78)).alloc (by rw [e0]; omega) (.cells #[.bool false, .slice P p q, .slice P' 0 q'] 78)).alloc (by rw [e1]; omega) (.cells #[.bool false, .slice none 0 0, .slice none 0 0] 78)
  rw [e0] at B2
  rw [e1] at B3
  clear e0 e1
  have h1 := hD.below hw0
  have h1' := hD'.below hw0
  have h2 := hE.below hw0
  have h2' := hE'.below hw0
  go_enter Tryz.func119, Tryz.ntmps119
  go_upto_region 1 with fail
  generalize ((w.alloc (.cells #[.bool false, .slice A m c, .slice A' 0 c'] 78)).alloc (.cells #[.bool false, .slice P p q, .slice P' 0 q'] 78)).alloc (.cells #[.bool false, .slice none 0 0, .slice none 0 0] 78) = w1 at *
  have hlt3 := B3.lt
  have b0 := Below.refl w1.heap.size w1
  have b1 : Below w1.heap.size w1 w1.drew := bel_drewN b0 1
  have hKeep := Lib.hid (fun (wx : World) (hb : Below w1.heap.size w1 wx) => show (wx.cell? ⟨w.heap.size, 0, none⟩ = some (.bool false) ∧ wx.cell? ⟨w.heap.size, 1, none⟩ = some (.slice A m c) ∧ wx.cell? ⟨w.heap.size, 2, none⟩ = some (.slice A' 0 c')) ∧ (wx.cell? ⟨w.heap.size + 1, 0, none⟩ = some (.bool false) ∧ wx.cell? ⟨w.heap.size + 1, 1, none⟩ = some (.slice P p q) ∧ wx.cell? ⟨w.heap.size + 1, 2, none⟩ = some (.slice P' 0 q')) from ⟨keep3 B1 hb, keep3 B2 hb⟩)
  have i1 : IV w1 (.agg #[.bool false, .slice A m c, .slice A' 0 c']) false X L := ⟨_, _, rfl, ⟨_, _, _, _, rfl, h1, hN, hv, hm⟩, ⟨_, _, _, _, rfl, h1', Nrm.nil, rfl, Nat.zero_le _⟩⟩
  have i2 : IV w1 (.agg #[.bool false, .slice P p q, .slice P' 0 q']) false Y M := ⟨_, _, rfl, ⟨_, _, _, _, rfl, h2, hO, hu, hp⟩, ⟨_, _, _, _, rfl, h2', Nrm.nil, rfl, Nat.zero_le _⟩⟩
  generalize hZ : (if X < Y then Y - X else X - Y) = ZZ at *
  generalize hS : decide (X < Y) = SS at *
  go_region_held3 (fun wx => (wx.cell? ⟨w.heap.size, 0, none⟩ = some (.bool false) ∧ wx.cell? ⟨w.heap.size, 1, none⟩ = some (.slice A m c) ∧ wx.cell? ⟨w.heap.size, 2, none⟩ = some (.slice A' 0 c')) ∧ (wx.cell? ⟨w.heap.size + 1, 0, none⟩ = some (.bool false) ∧ wx.cell? ⟨w.heap.size + 1, 1, none⟩ = some (.slice P p q) ∧ wx.cell? ⟨w.heap.size + 1, 2, none⟩ = some (.slice P' 0 q')))
    (first | exact hKeep.out _ b0 | exact hKeep.out _ b1 | exact hKeep.out _ b2 | exact hKeep.out _ b3 | exact K8.out _ _ _ | go_keep)
    (first
      | (go_at_call 165; refine (refNeg_int Y M _ w1.drew (FV.below i2 b1) (by omega)).mono ?_; rintro e w2 ⟨vn, rfl, hin, hb2⟩; rw [hcy.out] at hin; have b2 := b1.trans (hb2.mono b1.size))
      | (go_at_call 164; refine (refAdd_neg X Y L (M + 1) _ _ w2 (FV.below i1 b2) hin (by omega) (by omega)).mono ?_; rw [hZ, hS]; rintro e w3 ⟨v4, rfl, ⟨_, _, rfl, n5, n6⟩, hb9⟩; have b3 := b2.trans (hb9.mono b2.size); have C4 := B3.below b3; have hw4 := hw0.trans (b3.mono hw0.size); have r0 := C4.cell 0; have r1 := C4.cell 1; have r2 := C4.cell 2; have f0 := C4.frozen 0; have f1 := C4.frozen 1; have f2 := C4.frozen 2; have n5' := nv_le n5 (show L + (M + 1) + 5 ≤ L + M + 6 by omega); have n6' := nv_le n6 (show L + (M + 1) + 5 ≤ L + M + 6 by omega); obtain ⟨A9, m9, c9, us9, rfl, g9⟩ := n5; obtain ⟨A0, m0, c0, us0, rfl, g0⟩ := n6; have K6 := hKeep.out _ b3; have K8 := Lib.hid (show ∀ a b d, ((((w3.setCell ⟨w.heap.size + 1 + 1, 0, none⟩ a).setCell ⟨w.heap.size + 1 + 1, 1, none⟩ b).setCell ⟨w.heap.size + 1 + 1, 2, none⟩ d).cell? ⟨w.heap.size, 0, none⟩ = some (.bool false) ∧ (((w3.setCell ⟨w.heap.size + 1 + 1, 0, none⟩ a).setCell ⟨w.heap.size + 1 + 1, 1, none⟩ b).setCell ⟨w.heap.size + 1 + 1, 2, none⟩ d).cell? ⟨w.heap.size, 1, none⟩ = some (.slice A m c) ∧ (((w3.setCell ⟨w.heap.size + 1 + 1, 0, none⟩ a).setCell ⟨w.heap.size + 1 + 1, 1, none⟩ b).setCell ⟨w.heap.size + 1 + 1, 2, none⟩ d).cell? ⟨w.heap.size, 2, none⟩ = some (.slice A' 0 c')) ∧ ((((w3.setCell ⟨w.heap.size + 1 + 1, 0, none⟩ a).setCell ⟨w.heap.size + 1 + 1, 1, none⟩ b).setCell ⟨w.heap.size + 1 + 1, 2, none⟩ d).cell? ⟨w.heap.size + 1, 0, none⟩ = some (.bool false) ∧ (((w3.setCell ⟨w.heap.size + 1 + 1, 0, none⟩ a).setCell ⟨w.heap.size + 1 + 1, 1, none⟩ b).setCell ⟨w.heap.size + 1 + 1, 2, none⟩ d).cell? ⟨w.heap.size + 1, 1, none⟩ = some (.slice P p q) ∧ (((w3.setCell ⟨w.heap.size + 1 + 1, 0, none⟩ a).setCell ⟨w.heap.size + 1 + 1, 1, none⟩ b).setCell ⟨w.heap.size + 1 + 1, 2, none⟩ d).cell? ⟨w.heap.size + 1, 2, none⟩ = some (.slice P' 0 q')) from fun a b d => ⟨⟨(cell_set3o _ _ _ _ _ _ (by show w.heap.size ≠ _; omega)).trans K6.1.1, (cell_set3o _ _ _ _ _ _ (by show w.heap.size ≠ _; omega)).trans K6.1.2.1, (cell_set3o _ _ _ _ _ _ (by show w.heap.size ≠ _; omega)).trans K6.1.2.2⟩, (cell_set3o _ _ _ _ _ _ (by show w.heap.size + 1 ≠ _; omega)).trans K6.2.1, (cell_set3o _ _ _ _ _ _ (by show w.heap.size + 1 ≠ _; omega)).trans K6.2.2.1, (cell_set3o _ _ _ _ _ _ (by show w.heap.size + 1 ≠ _; omega)).trans K6.2.2.2⟩)))
  go_wp2
  exact ret_frac rfl rfl (((C4.set_ 0 _).set_ 1 _).set_ 2 _) rfl ⟨_, rfl, ⟨_, _, rfl, nv_set3_32 n5' C4 _ _ _, nv_set3_32 n6' C4 _ _ _⟩, bel_set3 hw4 (by omega) _ _ _⟩

set_option maxHeartbeats 1600000 in
theorem refCmp_int (X Y L M : Nat) (v v' : Value) (w : World) (h : IV w v false X L) (h' : IV w v' false Y M) (hY : 0 < Y) (hL : L ≤ 50000) (hM : M ≤ 50000) :
    Calls Tryz.prog 48 #[v, v'] w fun e w' => ∃ q, e = .returned (.int .i64 q) ∧ (q ≤ 0 ↔ X ≤ Y) ∧ Below w.heap.size w w' := by
  obtain ⟨A, m, c, us, A', c', rfl, hD, hN, hv, hm, hD'⟩ := h.open_
  obtain ⟨P, p, q, ys, P', q', rfl, hE, hO, hu, hp, hE'⟩ := h'.open_
  have B1 := (Blk.new w 78 #[.bool false, .slice A m c, .slice A' 0 c']).alloc (.cells #[.bool false, .slice P p q, .slice P' 0 q'] 78)
  have B2 := Blk.new (w.alloc (.cells #[.bool false, .slice A m c, .slice A' 0 c'] 78)) 78 #[.bool false, .slice P p q, .slice P' 0 q']
  have e0 : (w.alloc (.cells #[.bool false, .slice A m c, .slice A' 0 c'] 78)).heap.size = w.heap.size + 1 := by simp
  have hw0 := ((Below.refl w.heap.size w).alloc (Nat.le_refl _) (.cells #[.bool false, .slice A m c, .slice A' 0 c'] 78)).alloc (by rw [e0]; omega) (.cells #[.bool false, .slice P p q, .slice P' 0 q'] 78)
  rw [e0] at B2
  clear e0
  have i1 := FV.below h hw0
  have i2 := FV.below h' hw0
  go_enter Tryz.func48, Tryz.ntmps48
  go_upto_region 1 with fail
  generalize (w.alloc (.cells #[.bool false, .slice A m c, .slice A' 0 c'] 78)).alloc (.cells #[.bool false, .slice P p q, .slice P' 0 q'] 78) = w1 at *
  have k0 : w1.cell? ⟨w.heap.size, 0, none⟩ = some (.bool false) := B1.cell 0
  have k1 : w1.cell? ⟨w.heap.size, 1, none⟩ = some (.slice A m c) := B1.cell 1
  have k2 : w1.cell? ⟨w.heap.size, 2, none⟩ = some (.slice A' 0 c') := B1.cell 2
  have k3 : w1.cell? ⟨w.heap.size + 1, 0, none⟩ = some (.bool false) := B2.cell 0
  have k4 : w1.cell? ⟨w.heap.size + 1, 1, none⟩ = some (.slice P p q) := B2.cell 1
  have k5 : w1.cell? ⟨w.heap.size + 1, 2, none⟩ = some (.slice P' 0 q') := B2.cell 2
  go_wp2_with fail
  refine (refSub_int X Y L M _ _ w1 i1 i2 hY hL hM).mono ?_
  rintro e w2 ⟨v2, rfl, hi2, hb2⟩
  have hw2 := hw0.trans (hb2.mono hw0.size)
  obtain ⟨A9, m9, c9, us9, D9, d9, rfl, g9⟩ := hi2.open_
  go_wp2_with fail
  refine (refSign_int _ _ _ _ w2 hi2).mono ?_
  rintro e w3 ⟨rfl, hb3⟩
  have hw3 := hw2.trans (hb3.mono hw2.size)
  have hfin := Lib.hid (show ((if (if X < Y then Y - X else X - Y) = 0 then (0 : Int) else if decide (X < Y) = true then -1 else 1) ≤ 0 ↔ X ≤ Y) by
    by_cases hxy : X < Y
    · rw [if_pos hxy, if_neg (by omega), if_pos (by simpa using hxy)]
      constructor
      · intro _; omega
      · intro _; decide
    · rw [if_neg hxy]
      by_cases h0 : X - Y = 0
      · rw [if_pos h0]
        constructor
        · intro _; omega
        · intro _; decide
      · rw [if_neg h0, if_neg (by simpa using hxy)]
        constructor
        · intro e; exact absurd e (by decide)
        · intro e; omega)
  generalize (if (if X < Y then Y - X else X - Y) = 0 then (0 : Int) else if decide (X < Y) = true then -1 else 1) = res at *
  go_wp2
  go_ret
  exact ⟨res, rfl, hfin.out, hw3⟩
end Go.Proofs.YtoljffghaklpdaaGreatDoor.Fr


/- Logarithms: the document's, and the law's walk. -/
namespace Go.Proofs.YtoljffghaklpdaaGreatDoor.Fr
open Go.RowKit Num

abbrev ldG (t : TypeId) (x : Operand) : Op := Op.load t x
theorem IV.parts {w : World} {v1 v2 : Value} {neg : Bool} {X L : Nat} (h : IV w (.agg #[.bool neg, v1, v2]) neg X L) : ∃ A m c A' c', v1 = .slice A m c ∧ v2 = .slice A' 0 c' := by
  obtain ⟨A, m, c, us, A', c', e, _⟩ := h.open_
  injection e with e
  have e1 := congrArg (fun a : Array Value => a[1]?) e
  have e2 := congrArg (fun a : Array Value => a[2]?) e
  simp at e1 e2
  exact ⟨A, m, c, A', c', e1, e2⟩
theorem IV.of_nv {w : World} {v1 v2 : Value} {neg : Bool} {X L : Nat} (h1 : NV .u32 w v1 X L) (h2 : NV .u32 w v2 0 L) : IV w (.agg #[.bool neg, v1, v2]) neg X L := ⟨v1, v2, rfl, h1, h2⟩
theorem IV.nv {w : World} {v1 v2 : Value} {neg : Bool} {X L : Nat} (h : IV w (.agg #[.bool neg, v1, v2]) neg X L) : NV .u32 w v1 X L ∧ NV .u32 w v2 0 L := by
  obtain ⟨a, b, e, h1, h2⟩ := h
  injection e with e
  have e1 := congrArg (fun a : Array Value => a[1]?) e
  have e2 := congrArg (fun a : Array Value => a[2]?) e
  simp at e1 e2
  subst e1 e2
  exact ⟨h1, h2⟩
theorem IV.set3 {w : World} {v1 v2 : Value} {neg : Bool} {X L : Nat} (h : IV w (.agg #[.bool neg, v1, v2]) neg X L) {g : Nat} {t : TypeId} {a : Bool} {p1 q1 : Option Addr} {p2 p3 q2 q3 : Nat} (hB : Blk w g t #[.bool a, .slice p1 p2 p3, .slice q1 q2 q3]) (x1 x2 x3 : Value) :
    IV (((w.setCell ⟨g, 0, none⟩ x1).setCell ⟨g, 1, none⟩ x2).setCell ⟨g, 2, none⟩ x3) (.agg #[.bool neg, v1, v2]) neg X L :=
  IV.of_nv (nv_set3_32 h.nv.1 hB x1 x2 x3) (nv_set3_32 h.nv.2 hB x1 x2 x3)
theorem blk_set3 {w : World} {g : Nat} {t : TypeId} {x y z a b c : Value} (h : Blk w g t #[x, y, z]) : Blk (((w.setCell ⟨g, 0, none⟩ a).setCell ⟨g, 1, none⟩ b).setCell ⟨g, 2, none⟩ c) g t #[a, b, c] := ((h.set_ 0 a).set_ 1 b).set_ 2 c
theorem blk_far3 {w : World} {g g' : Nat} {t : TypeId} {cs : Array Value} {a b c : Value} (h : Blk w g t cs) (hne : g ≠ g') : Blk (((w.setCell ⟨g', 0, none⟩ a).setCell ⟨g', 1, none⟩ b).setCell ⟨g', 2, none⟩ c) g t cs := ((h.far (p := ⟨g', 0, none⟩) hne a).far (p := ⟨g', 1, none⟩) hne b).far (p := ⟨g', 2, none⟩) hne c

set_option maxHeartbeats 6400000 in
set_option maxRecDepth 100000 in
theorem RLog_pos (e : Nat) (w : World) (he : 0 < e) (he2 : e ≤ 9223372036854775807) :
    Calls Tryz.prog 12 #[.int .i64 (e : Int)] w fun r w' => r = .returned (.int .i64 ((bl (e ^ 16) : Nat) - 1)) ∧ Below w.heap.size w w' := by
  have hz : ((e : Int) == 0) = false := by rw [beq_eq_false_iff_ne]; omega
  have hblp := bl_pow e 16 (by decide) (show e < 2 ^ 64 by omega)
  have hpp : 0 < e ^ 16 := Nat.pow_pos he
  have hbl1 : 1 ≤ bl (e ^ 16) := by
    rcases Nat.eq_zero_or_pos (bl (e ^ 16)) with h0 | h0
    · have := lt_bl (e ^ 16)
      rw [h0] at this
      omega
    · exact h0
  have hlt := Lib.hid (lt_bl (e ^ 16))
  have hle := Lib.hid (fun k (hk : e ^ 16 < 2 ^ k) => bl_le hk)
  go_enter Tryz.func12, Tryz.ntmps12
  go_wp2_with fail
  refine (refOf_int 1 w (by decide)).mono ?_
  rintro r w2 ⟨v2, rfl, hi2, hb2⟩
  obtain ⟨A, m, c, us, A', c', rfl, _⟩ := hi2.open_
  have hBp := Blk.new w2 78 #[.bool false, .slice A m c, .slice A' 0 c']
  have hb3 := hb2.alloc hb2.size (.cells #[.bool false, .slice A m c, .slice A' 0 c'] 78)
  have hi3 : IV (w2.alloc (.cells #[.bool false, .slice A m c, .slice A' 0 c'] 78)) (.agg #[.bool false, .slice A m c, .slice A' 0 c']) false (e ^ 0) 3 := FV.below hi2 ((Below.refl w2.heap.size w2).alloc (Nat.le_refl _) _)
  have hgp := hb2.size
  go_wp2
  generalize w2.alloc (.cells #[.bool false, .slice A m c, .slice A' 0 c'] 78) = w3 at *
  generalize w2.heap.size = gp at *
  clear hi2 hb2
  go_loopw [4] (fun iv wr' => ∃ (i : Nat) (v1 v2 : Value) (wr : World), wr = wr' ∧ iv = .int .i64 i ∧ i ≤ 16 ∧ Blk wr gp 78 #[.bool false, v1, v2] ∧ IV wr (.agg #[.bool false, v1, v2]) false (e ^ i) (3 + 6 * i) ∧ Below w.heap.size w wr) (fun iv _ => 16 - (intOf iv).toNat)
  case atStart => exact ⟨0, _, _, _, rfl, rfl, by decide, hBp, hi3, hb3⟩
  case round =>
    obtain ⟨i, v1, v2, wr, rfl, rfl, hi16, hB, hI, hbr⟩ := hrel
    clear hBp hi3 hb3
    obtain ⟨A1, m1, c1, A2, c2, rfl, rfl⟩ := hI.parts
    rcases Nat.lt_or_ge i 16 with hlt16 | hge16
    · have k0 : wr.drew.cell? ⟨gp, 0, none⟩ = some (.bool false) := hB.cell 0
      have k1 : wr.drew.cell? ⟨gp, 1, none⟩ = some (.slice A1 m1 c1) := hB.cell 1
      have k2 : wr.drew.cell? ⟨gp, 2, none⟩ = some (.slice A2 0 c2) := hB.cell 2
      have b1 : Below w.heap.size w wr.drew := bel_drewN hbr 1
      have b0 : Below wr.heap.size wr wr.drew := bel_drewN (Below.refl _ _) 1
      have hpw := Lib.hid (show e ^ (i + 1) = e ^ i * e from Nat.pow_succ e i)
      go_wp2
      rw [show Op.load 78 (Operand.tmp 3) = ldG 78 (Operand.tmp 3) from rfl]
      go_region_held3 (fun _ => True) (first | exact trivial | go_keep)
        (first
          | (go_at_call 46; refine (refOf_int e wr.drew he2).mono ?_; rintro r w5 ⟨v5, rfl, hi5, hb5⟩; obtain ⟨A5, m5, c5, us5, A6, c6, rfl, _⟩ := hi5.open_; have b5 := b1.trans (hb5.mono b1.size); have bw5 := b0.trans (hb5.mono b0.size); have hB5 := hB.below bw5; have d0 := hB5.cell 0; have d1 := hB5.cell 1; have d2 := hB5.cell 2)
          | (go_at_call 47; refine (refMul_int (e ^ i) e (3 + 6 * i) 3 _ _ w5 (FV.below hI bw5) hi5 (by omega) (by omega)).mono ?_; rw [← hpw.out]; rintro r w6 ⟨v6, rfl, hi6, hb6⟩; obtain ⟨A7, m7, c7, us7, A8, c8, rfl, _⟩ := hi6.open_; have b6 := b5.trans (hb6.mono b5.size); have hB6 := hB5.below hb6; have r0 := hB6.cell 0; have r1 := hB6.cell 1; have r2 := hB6.cell 2; have f0 := hB6.frozen 0; have f1 := hB6.frozen 1; have f2 := hB6.frozen 2; have hBn := Lib.hid (fun a b d => blk_set3 (a := a) (b := b) (c := d) hB6); have hIn := Lib.hid (fun a b d => hi6.set3 hB6 a b d); have hbn := Lib.hid (fun a b d => bel_set3 b6 hgp a b d)))
      all_goals
        go_wp2
        go_roundw
        case rel => exact ⟨i + 1, _, _, _, rfl, by go_num, by omega, hBn.out _ _ _, hIn.out _ _ _, hbn.out _ _ _⟩
        case measure => simp [intOf]; omega
    · have hi' : 16 = i := by omega
      subst hi'
      have hlp := Lib.hid (hB.lt)
      generalize hP : e ^ 16 = P at *
      generalize hLL : bl P = LL at *
      have hP := Lib.hid hP
      have hLL := Lib.hid hLL
      go_wp2_with fail
      refine (refOf_int 1 wr (by decide)).mono ?_
      rintro r w5 ⟨v5, rfl, hi5, hb5⟩
      obtain ⟨A5, m5, c5, us5, A6, c6, rfl, _⟩ := hi5.open_
      have hBq := Blk.new w5 78 #[.bool false, .slice A5 m5 c5, .slice A6 0 c6]
      have b5 := hbr.trans (hb5.mono hbr.size)
      have b7 := b5.alloc b5.size (.cells #[.bool false, .slice A5 m5 c5, .slice A6 0 c6] 78)
      have bq7 := (Below.refl w5.heap.size w5).alloc (Nat.le_refl _) (.cells #[.bool false, .slice A5 m5 c5, .slice A6 0 c6] 78)
      have hi7 : IV (w5.alloc (.cells #[.bool false, .slice A5 m5 c5, .slice A6 0 c6] 78)) (.agg #[.bool false, .slice A5 m5 c5, .slice A6 0 c6]) false (2 ^ 0) 3 := FV.below hi5 bq7
      have hB7 := (hB.below hb5).below bq7
      have hI7 := FV.below (FV.below hI hb5) bq7
      have hgq := b5.size
      have hgne : gp ≠ w5.heap.size := by have := hlp.out; have := hb5.size; omega
      go_wp2
      generalize w5.alloc (.cells #[.bool false, .slice A5 m5 c5, .slice A6 0 c6] 78) = w7 at *
      generalize w5.heap.size = gq at *
      clear hi5 hb5 b5 bq7 hB hI hbr
      go_loopw [6] (fun lv wr' => ∃ (l : Nat) (v3 v4 : Value) (wr : World), wr = wr' ∧ lv = .int .i64 l ∧ l + 1 ≤ LL ∧ Blk wr gp 78 #[.bool false, .slice A1 m1 c1, .slice A2 0 c2] ∧ IV wr (.agg #[.bool false, .slice A1 m1 c1, .slice A2 0 c2]) false P (3 + 6 * 16) ∧ Blk wr gq 78 #[.bool false, v3, v4] ∧ IV wr (.agg #[.bool false, v3, v4]) false (2 ^ l) (3 + 6 * l) ∧ Below w.heap.size w wr) (fun lv _ => LL - (intOf lv).toNat)
      case atStart => exact ⟨0, _, _, _, rfl, rfl, hbl1, hB7, hI7, hBq, hi7, b7⟩
      case round =>
        obtain ⟨l, v3, v4, wr, rfl, rfl, hl, hB, hI, hC, hJ, hbr⟩ := hrel
        clear hB7 hI7 hBq hi7 b7
        obtain ⟨A3, m3, c3, A4, c4, rfl, rfl⟩ := hJ.parts
        have b0 := Below.refl wr.heap.size wr
        have b1 : Below wr.heap.size wr wr.drew := bel_drewN b0 1
        have hKeep := Lib.hid (fun (wx : World) (hb : Below wr.heap.size wr wx) => show (wx.cell? ⟨gq, 0, none⟩ = some (.bool false) ∧ wx.cell? ⟨gq, 1, none⟩ = some (.slice A3 m3 c3) ∧ wx.cell? ⟨gq, 2, none⟩ = some (.slice A4 0 c4)) ∧ (wx.cell? ⟨gp, 0, none⟩ = some (.bool false) ∧ wx.cell? ⟨gp, 1, none⟩ = some (.slice A1 m1 c1) ∧ wx.cell? ⟨gp, 2, none⟩ = some (.slice A2 0 c2)) from ⟨keep3 hC hb, keep3 hB hb⟩)
        have hpw := Lib.hid (show 2 ^ (l + 1) = 2 ^ l * 2 from Nat.pow_succ 2 l)
        go_wp2
        go_region_held3 (fun wx => (wx.cell? ⟨gq, 0, none⟩ = some (.bool false) ∧ wx.cell? ⟨gq, 1, none⟩ = some (.slice A3 m3 c3) ∧ wx.cell? ⟨gq, 2, none⟩ = some (.slice A4 0 c4)) ∧ (wx.cell? ⟨gp, 0, none⟩ = some (.bool false) ∧ wx.cell? ⟨gp, 1, none⟩ = some (.slice A1 m1 c1) ∧ wx.cell? ⟨gp, 2, none⟩ = some (.slice A2 0 c2)))
          (first | exact hKeep.out _ b0 | exact hKeep.out _ b1 | exact hKeep.out _ b2 | exact hKeep.out _ b3 | exact hKeep.out _ b4 | go_keep)
          (first
            | (go_at_call 46; refine (refOf_int 2 wr.drew (by decide)).mono ?_; rintro r w8 ⟨v8, rfl, hi8, hb8⟩; obtain ⟨A7, m7, c7, us7, A8, c8, rfl, _⟩ := hi8.open_; have b2 := b1.trans (hb8.mono b1.size))
            | (go_at_call 47; refine (refMul_int (2 ^ l) 2 (3 + 6 * l) 3 _ _ w8 (FV.below hJ b2) hi8 (by omega) (by omega)).mono ?_; rw [← hpw.out]; rintro r w9 ⟨v9, rfl, hi9, hb9⟩; obtain ⟨A9, m9, c9, us9, A0, c0, rfl, _⟩ := hi9.open_; have b3 := b2.trans (hb9.mono b2.size))
            | (go_at_call 48; refine (refCmp_int (2 ^ (l + 1)) P (3 + 6 * l + 3 + 3) (3 + 6 * 16) _ _ w9 hi9 (FV.below hI b3) hpp (by omega) (by omega)).mono ?_; rintro r w10 ⟨q, rfl, hq0, hb10⟩; have hq := Lib.hid hq0; clear hq0; have b4 := b3.trans (hb10.mono b3.size)))
        have hB4 := hB.below b4
        have hI4 := FV.below hI b4
        have hC4 := hC.below b4
        have hJ4 := FV.below hJ b4
        have bw4 := hbr.trans (b4.mono hbr.size)
        clear hB hI hC hJ hKeep b0 b1 b2 b3 b4 hb8 hb9 hb10 hi8 hi9
        rcases Nat.lt_or_ge P (2 ^ (l + 1)) with hc | hc
        · have hqd : decide (q ≤ 0) = false := decide_eq_false (fun h9 => by have := hq.out.1 h9; omega)
          have hlfin := Lib.hid (show (l : Int) = (LL : Int) - 1 by
            have h9 := hle.out (l + 1) hc
            omega)
          clear hc hq
          rw [hqd]
          go_wp2
          go_ret
          exact ⟨ret_i64 (by rw [hP.out, hLL.out]; exact hlfin.out), bw4⟩
        · have hqd : decide (q ≤ 0) = true := decide_eq_true (hq.out.2 hc)
          have hl2 : l + 1 + 1 ≤ LL := by
            rcases Nat.lt_or_ge LL (l + 1 + 1) with h9 | h9
            · exfalso
              have e1 : LL = l + 1 := by omega
              have h8 := hlt.out
              rw [e1] at h8
              omega
            · exact h9
          clear hc hq
          rw [hqd]
          have k0 : w10.drew.cell? ⟨gq, 0, none⟩ = some (.bool false) := hC4.cell 0
          have k1 : w10.drew.cell? ⟨gq, 1, none⟩ = some (.slice A3 m3 c3) := hC4.cell 1
          have k2 : w10.drew.cell? ⟨gq, 2, none⟩ = some (.slice A4 0 c4) := hC4.cell 2
          have b1 : Below w.heap.size w w10.drew := bel_drewN bw4 1
          have b0 : Below w10.heap.size w10 w10.drew := bel_drewN (Below.refl _ _) 1
          go_wp2
          rw [show Op.load 78 (Operand.tmp 5) = ldG 78 (Operand.tmp 5) from rfl]
          go_region_held3 (fun _ => True) (first | exact trivial | go_keep)
            (first
              | (go_at_call 46; refine (refOf_int 2 w10.drew (by decide)).mono ?_; rintro r w11 ⟨v11, rfl, hi11, hb11⟩; obtain ⟨B5, n5, d5, vs5, B6, d6, rfl, _⟩ := hi11.open_; have b5 := b1.trans (hb11.mono b1.size); have bw5 := b0.trans (hb11.mono b0.size); have hB5 := hC4.below bw5; have e0 := hB5.cell 0; have e1 := hB5.cell 1; have e2 := hB5.cell 2)
              | (go_at_call 47; refine (refMul_int (2 ^ l) 2 (3 + 6 * l) 3 _ _ w11 (FV.below hJ4 bw5) hi11 (by omega) (by omega)).mono ?_; rw [← hpw.out]; rintro r w12 ⟨v12, rfl, hi12, hb12⟩; obtain ⟨B7, n7, d7, vs7, B8, d8, rfl, _⟩ := hi12.open_; have b6 := b5.trans (hb12.mono b5.size); have bw6 := bw5.trans (hb12.mono bw5.size); have hB6 := hB5.below hb12; have r0 := hB6.cell 0; have r1 := hB6.cell 1; have r2 := hB6.cell 2; have f0 := hB6.frozen 0; have f1 := hB6.frozen 1; have f2 := hB6.frozen 2; have hBn := Lib.hid (fun a b d => blk_set3 (a := a) (b := b) (c := d) hB6); have hIn := Lib.hid (fun a b d => hi12.set3 hB6 a b d); have hBp := Lib.hid (fun a b d => blk_far3 (a := a) (b := b) (c := d) (hB4.below bw6) hgne); have hIp := Lib.hid (fun a b d => (show IV w12 _ false P (3 + 6 * 16) from FV.below hI4 bw6).set3 hB6 a b d); have hbn := Lib.hid (fun a b d => bel_set3 b6 hgq a b d)))
          all_goals
            go_wp2
            go_roundw
            case rel => exact ⟨l + 1, _, _, _, rfl, by go_num, hl2, hBp.out _ _ _, hIp.out _ _ _, hBn.out _ _ _, hIn.out _ _ _, hbn.out _ _ _⟩
            case measure => simp [intOf]; omega
end Go.Proofs.YtoljffghaklpdaaGreatDoor.Fr

namespace Go.Proofs.YtoljffghaklpdaaGreatDoor
open Go.RowKit
theorem RLog_any (e : Nat) (w : World) (he2 : e ≤ 9223372036854775807) :
    Calls Tryz.prog 12 #[.int .i64 (e : Int)] w fun r w' => r = .returned (.int .i64 (lg e)) ∧ Below w.heap.size w w' := by
  rcases Nat.eq_zero_or_pos e with h0 | h0
  · subst h0
    go_enter Tryz.func12, Tryz.ntmps12
    go_wp2
    go_ret
    exact ⟨rfl, Below.refl _ _⟩
  · have hv : lg e = (Fr.bl (e ^ 16) : Nat) - 1 := by unfold lg; rw [if_neg (by omega)]
    rw [hv]
    exact Fr.RLog_pos e w h0 he2

theorem wf_hi {n : Int} (h : (Lit.int .i64 n).wf = true) : n ≤ 9223372036854775807 := by
  unfold Lit.wf at h
  simp only [Bool.and_eq_true, decide_eq_true_eq] at h
  exact h.2

set_option maxHeartbeats 1600000 in
theorem logs_law (e : Int) (w : World) (he : e ≤ 9223372036854775807) (hT : Tab w) :
    Calls Tryz.prog 3 #[.int .i64 e] w (YesF w) := by
  have hL := Log_any e w he
  by_cases h0 : e < 0
  · rw [if_pos h0] at hL
    have hL := Lib.hid hL
    have hd : decide (e < 0) = true := decide_eq_true h0
    go_enter Tryz.func3, Tryz.ntmps3
    go_wp2_with fail
    refine hL.out.mono ?_
    rintro r w2 ⟨rfl, hb2⟩
    have hT2 := hT.below hb2
    go_wp2_with fail
    refine (known_any _ hT2).mono ?_
    rintro r w99 ⟨rfl, hb99⟩
    go_wp2
    go_ret
    exact ⟨rfl, hb2.trans (hb99.mono hb2.size)⟩
  · rw [if_neg h0] at hL
    obtain ⟨m, rfl⟩ : ∃ m : Nat, e = m := ⟨e.toNat, by omega⟩
    rw [Int.toNat_natCast] at hL
    have hL := Lib.hid hL
    have hd : decide ((m : Int) < 0) = false := decide_eq_false h0
    have hR := Lib.hid (fun w9 => RLog_any m w9 (by omega))
    generalize lg m = q at *
    go_enter Tryz.func3, Tryz.ntmps3
    go_wp2_with fail
    refine hL.out.mono ?_
    rintro r w2 ⟨rfl, hb2⟩
    go_wp2_with fail
    refine (hR.out w2).mono ?_
    rintro r w3 ⟨rfl, hb23⟩
    have hb3 := hb2.trans (hb23.mono hb2.size)
    have hT3 := hT.below hb3
    go_wp2_with fail
    refine (known_any _ hT3).mono ?_
    rintro r w99 ⟨rfl, hb99⟩
    go_wp2
    go_ret
    exact ⟨rfl, hb3.trans (hb99.mono hb3.size)⟩
end Go.Proofs.YtoljffghaklpdaaGreatDoor
