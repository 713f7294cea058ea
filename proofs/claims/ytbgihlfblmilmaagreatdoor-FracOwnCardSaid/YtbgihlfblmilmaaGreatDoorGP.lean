/- More of the exported functions. -/
import Derived.Test.YtbgihlfblmilmaaGreatDoorGO
import Derived.Test.YtbgihlfblmilmaaGreatDoorPD
namespace Go.Proofs.YtbgihlfblmilmaaGreatDoor.Fr
open Go.RowKit Num

set_option maxHeartbeats 1600000 in
theorem minusQ (v : Value) (q : Rat) (L : Nat) (w : World) (h : RQ w v q L) : Calls Tryz.prog 96 #[v] w (RetQQ w (-q) L) := by
  obtain ⟨s, N, D, ⟨_, _, rfl, ⟨A1, m1, c1, x1, rfl, d1, n1, e1, l1⟩, ⟨A2, m2, c2, x2, rfl, d2, n2, e2, l2⟩⟩, p1, g1, k1⟩ := h
  have B2 := Blk.new (w.alloc (.cells #[.bool s, .slice A1 m1 c1, .slice A2 m2 c2] 67)) 67 #[.bool false, .slice none 0 0, .slice none 0 0]
  have e3 : (w.alloc (.cells #[.bool s, .slice A1 m1 c1, .slice A2 m2 c2] 67)).heap.size = w.heap.size + 1 := by simp
  have hw0 := ((Below.refl w.heap.size w).alloc (Nat.le_refl _) (.cells #[.bool s, .slice A1 m1 c1, .slice A2 m2 c2] 67)).alloc (by rw [e3]; omega) (.cells #[.bool false, .slice none 0 0, .slice none 0 0] 67)
  rw [e3] at B2
  clear e3
  have ht := d1.cap
  have ht2 := d1.top
  have hp := Lib.hid (nv_pos d1 n1 (by decide) e1)
  have D1 := d1.below hw0
  have D2 := d2.below hw0
  go_enter Tryz.func96, Tryz.ntmps96
  go_wp2_with fail
  generalize (w.alloc (.cells #[.bool s, .slice A1 m1 c1, .slice A2 m2 c2] 67)).alloc (.cells #[.bool false, .slice none 0 0, .slice none 0 0] 67) = w1 at *
  refine (signed_any _ _ _ _ _ _ _ _ (by omega)).mono ?_
  rintro e w2 ⟨rfl, hb2⟩
  have C2 := B2.below hb2
  have hw2 := hw0.trans (hb2.mono hw0.size)
  have r0 := C2.cell 0
  have r1 := C2.cell 1
  have r2 := C2.cell 2
  have f0 := C2.frozen 0
  have f1 := C2.frozen 1
  have f2 := C2.frozen 2
  have hQ : RQ w2 (.agg #[.bool ((!s) && decide (0 < m1)), .slice A1 m1 c1, .slice A2 m2 c2]) (-q) L := ⟨(!s) && decide (0 < N), N, D, ⟨_, _, by rw [hp.out], NV.mk (D1.below hb2) n1 e1 l1, NV.mk (D2.below hb2) n2 e2 l2⟩, p1, fun hs => by rw [Bool.and_eq_true] at hs; exact of_decide_eq_true hs.2, show _ = _ by rw [fq_sign, ← fq_neg, k1.out]⟩
  go_wp2
  exact ret_rat rfl rfl (((C2.set_ 0 _).set_ 1 _).set_ 2 _) rfl ⟨_, rfl, hQ.set3 C2 _ _ _, bel_set3 hw2 (by omega) _ _ _⟩

theorem fq_int (n : Int) : fq (decide (n < 0)) n.natAbs 1 = (n : Rat) := by
  unfold fq
  have : (if decide (n < 0) = true then -(n.natAbs : Int) else (n.natAbs : Int)) = n := by
    by_cases h : n < 0
    · rw [decide_eq_true h, if_pos rfl]; omega
    · rw [decide_eq_false h, if_neg (by simp)]; omega
  rw [this]
  first | exact Rat.mkRat_one n | exact Rat.mkRat_one .. | (rw [Rat.mkRat_eq_div]; grind)
theorem wholeQ (n : Int) (w : World) (hr : -9223372036854775808 ≤ n ∧ n ≤ 9223372036854775807) : Calls Tryz.prog 82 #[.int .i64 n] w (RetQQ w (n : Rat) 1) := by
  refine (whole_any n w hr).mono ?_
  rintro e w' ⟨v, rfl, h, hb⟩
  exact ⟨v, rfl, ⟨_, _, _, h, by decide, fun hs => by have := of_decide_eq_true hs; omega, fq_int n⟩, hb⟩

/-- one argument, two blocks: its copy and the result -/
theorem two_blk (w : World) (t : TypeId) (cs ds : Array Value) : Blk ((w.alloc (.cells cs t)).alloc (.cells ds t)) w.heap.size t cs ∧ Blk ((w.alloc (.cells cs t)).alloc (.cells ds t)) (w.heap.size + 1) t ds ∧ Below w.heap.size w ((w.alloc (.cells cs t)).alloc (.cells ds t)) := by
  have e1 : (w.alloc (.cells cs t)).heap.size = w.heap.size + 1 := by simp
  refine ⟨(Blk.new w t cs).alloc _, ?_, ((Below.refl w.heap.size w).alloc (Nat.le_refl _) _).alloc (by rw [e1]; omega) _⟩
  have := Blk.new (w.alloc (.cells cs t)) t ds
  rw [e1] at this
  exact this

set_option maxHeartbeats 3200000 in
theorem canonQ (v1 : Value) (q1 : Rat) (L : Nat) (w : World) (h1 : AF w v1 q1 L) (hL : 2 * L + 1 ≤ 100000) :
    Calls Tryz.prog 22 #[v1] w (RetFQ w (q1) (2 * (2 * L + 1))) := by
  obtain ⟨s1, A1, n1, c1, A2, n2, c2, rfl⟩ := h1.form
  obtain ⟨B1, B2, hw0⟩ := two_blk w 24 #[.bool s1, .slice A1 n1 c1, .slice A2 n2 c2] #[.bool false, .slice none 0 0, .slice none 0 0]
  have h1 := h1.below hw0
  go_enter Tryz.func22, Tryz.ntmps22
  go_wp2_with fail
  generalize (w.alloc (.cells #[.bool s1, .slice A1 n1 c1, .slice A2 n2 c2] 24)).alloc (.cells #[.bool false, .slice none 0 0, .slice none 0 0] 24) = w1 at *
  refine (loadQ _ q1 L _ h1 (by omega)).mono ?_
  rintro e w2 ⟨_, rfl, hq2, hb2⟩
  obtain ⟨s2, A3, n3, c3, A4, n4, c4, rfl⟩ := hq2.form
  have C2 := B2.below hb2
  have hw2 := hw0.trans (hb2.mono hw0.size)
  go_wp2_with fail
  refine (storeQ _ q1 (2 * L + 1) _ hq2 hL).mono ?_
  rintro e w9 ⟨_, rfl, hq9, hb9⟩
  have C9 := C2.below hb9
  have hw9 := hw2.trans (hb9.mono hw2.size)
  obtain ⟨s9, A9, n9, c9, A10, n10, c10, rfl⟩ := hq9.form
  have r0 := C9.cell 0
  have r1 := C9.cell 1
  have r2 := C9.cell 2
  have f0 := C9.frozen 0
  have f1 := C9.frozen 1
  have f2 := C9.frozen 2
  go_wp2
  exact ret_frac rfl rfl (((C9.set_ 0 _).set_ 1 _).set_ 2 _) rfl ⟨_, rfl, hq9.set3 C9 _ _ _, bel_set3 hw9 (by omega) _ _ _⟩

set_option maxHeartbeats 3200000 in
theorem negQ (v1 : Value) (q1 : Rat) (L : Nat) (w : World) (h1 : AF w v1 q1 L) (hL : 2 * L + 1 ≤ 100000) :
    Calls Tryz.prog 40 #[v1] w (RetFQ w (-q1) (2 * (2 * L + 1))) := by
  obtain ⟨s1, A1, n1, c1, A2, n2, c2, rfl⟩ := h1.form
  obtain ⟨B1, B2, hw0⟩ := two_blk w 24 #[.bool s1, .slice A1 n1 c1, .slice A2 n2 c2] #[.bool false, .slice none 0 0, .slice none 0 0]
  have h1 := h1.below hw0
  go_enter Tryz.func40, Tryz.ntmps40
  go_wp2_with fail
  generalize (w.alloc (.cells #[.bool s1, .slice A1 n1 c1, .slice A2 n2 c2] 24)).alloc (.cells #[.bool false, .slice none 0 0, .slice none 0 0] 24) = w1 at *
  refine (loadQ _ q1 L _ h1 (by omega)).mono ?_
  rintro e w2 ⟨_, rfl, hq2, hb2⟩
  obtain ⟨s2, A3, n3, c3, A4, n4, c4, rfl⟩ := hq2.form
  have C2 := B2.below hb2
  have hw2 := hw0.trans (hb2.mono hw0.size)
  go_wp2_with fail
  refine (minusQ _ q1 (2 * L + 1) _ hq2).mono ?_
  rintro e w3 ⟨_, rfl, hq3, hb3⟩
  obtain ⟨s3, A5, n5, c5, A6, n6, c6, rfl⟩ := hq3.form
  have C3 := C2.below hb3
  have hw3 := hw2.trans (hb3.mono hw2.size)
  go_wp2_with fail
  refine (storeQ _ (-q1) (2 * L + 1) _ hq3 hL).mono ?_
  rintro e w9 ⟨_, rfl, hq9, hb9⟩
  have C9 := C3.below hb9
  have hw9 := hw3.trans (hb9.mono hw3.size)
  obtain ⟨s9, A9, n9, c9, A10, n10, c10, rfl⟩ := hq9.form
  have r0 := C9.cell 0
  have r1 := C9.cell 1
  have r2 := C9.cell 2
  have f0 := C9.frozen 0
  have f1 := C9.frozen 1
  have f2 := C9.frozen 2
  go_wp2
  exact ret_frac rfl rfl (((C9.set_ 0 _).set_ 1 _).set_ 2 _) rfl ⟨_, rfl, hq9.set3 C9 _ _ _, bel_set3 hw9 (by omega) _ _ _⟩

set_option maxHeartbeats 6400000 in
set_option maxRecDepth 100000 in
theorem subQ (v1 v2 : Value) (q1 q2 : Rat) (L : Nat) (w : World) (h1 : AF w v1 q1 L) (h2 : AF w v2 q2 L) (hL : (2 + 1) * (2 * L + 1 + 2) ≤ 100000) :
    Calls Tryz.prog 38 #[v1, v2] w (RetFQ w (q1 + -q2) (2 * ((2 + 1) * (2 * L + 1 + 2)))) := by
  obtain ⟨s1, A1, n1, c1, A2, n2, c2, rfl⟩ := h1.form
  obtain ⟨s2, A3, n3, c3, A4, n4, c4, rfl⟩ := h2.form
  have B1 := ((Blk.new w 24 #[.bool s1, .slice A1 n1 c1, .slice A2 n2 c2]).alloc (.cells #[.bool s2, .slice A3 n3 c3, .slice A4 n4 c4] 24)).alloc (.cells #[.bool false, .slice none 0 0, .slice none 0 0] 24)
  have B2 := (Blk.new (w.alloc (.cells #[.bool s1, .slice A1 n1 c1, .slice A2 n2 c2] 24)) 24 #[.bool s2, .slice A3 n3 c3, .slice A4 n4 c4]).alloc (.cells #[.bool false, .slice none 0 0, .slice none 0 0] 24)
  have B3 := Blk.new ((w.alloc (.cells #[.bool s1, .slice A1 n1 c1, .slice A2 n2 c2] 24)).alloc (.cells #[.bool s2, .slice A3 n3 c3, .slice A4 n4 c4] 24)) 24 #[.bool false, .slice none 0 0, .slice none 0 0]
  have e1 : (w.alloc (.cells #[.bool s1, .slice A1 n1 c1, .slice A2 n2 c2] 24)).heap.size = w.heap.size + 1 := by simp
  have e2 : ((w.alloc (.cells #[.bool s1, .slice A1 n1 c1, .slice A2 n2 c2] 24)).alloc (.cells #[.bool s2, .slice A3 n3 c3, .slice A4 n4 c4] 24)).heap.size = w.heap.size + 1 + 1 := by simp
  have hw0 := (((Below.refl w.heap.size w).alloc (Nat.le_refl _) (.cells #[.bool s1, .slice A1 n1 c1, .slice A2 n2 c2] 24)).alloc (by rw [e1]; omega) (.cells #[.bool s2, .slice A3 n3 c3, .slice A4 n4 c4] 24)).alloc (by rw [e2]; omega) (.cells #[.bool false, .slice none 0 0, .slice none 0 0] 24)
  rw [e1] at B2
  rw [e2] at B3
  clear e1 e2
  have h1 := h1.below hw0
  have h2 := h2.below hw0
  go_enter Tryz.func38, Tryz.ntmps38
  go_upto_region 1 with fail
  generalize ((w.alloc (.cells #[.bool s1, .slice A1 n1 c1, .slice A2 n2 c2] 24)).alloc (.cells #[.bool s2, .slice A3 n3 c3, .slice A4 n4 c4] 24)).alloc (.cells #[.bool false, .slice none 0 0, .slice none 0 0] 24) = w1 at *
  have hbd : Below w1.heap.size w1 w1.drew := (Below.refl _ _).drew
  have K1 : w1.cell? ⟨w.heap.size, 0, none⟩ = some (.bool s1) ∧ w1.cell? ⟨w.heap.size, 1, none⟩ = some (.slice A1 n1 c1) ∧ w1.cell? ⟨w.heap.size, 2, none⟩ = some (.slice A2 n2 c2) ∧ w1.cell? ⟨w.heap.size + 1, 0, none⟩ = some (.bool s2) ∧ w1.cell? ⟨w.heap.size + 1, 1, none⟩ = some (.slice A3 n3 c3) ∧ w1.cell? ⟨w.heap.size + 1, 2, none⟩ = some (.slice A4 n4 c4) := ⟨B1.cell 0, B1.cell 1, B1.cell 2, B2.cell 0, B2.cell 1, B2.cell 2⟩
  obtain ⟨k0, k1, k2, k3, k4, k5⟩ := K1
  go_region_held3 (fun wx => wx.cell? ⟨w.heap.size, 0, none⟩ = some (.bool s1) ∧ wx.cell? ⟨w.heap.size, 1, none⟩ = some (.slice A1 n1 c1) ∧ wx.cell? ⟨w.heap.size, 2, none⟩ = some (.slice A2 n2 c2) ∧ wx.cell? ⟨w.heap.size + 1, 0, none⟩ = some (.bool s2) ∧ wx.cell? ⟨w.heap.size + 1, 1, none⟩ = some (.slice A3 n3 c3) ∧ wx.cell? ⟨w.heap.size + 1, 2, none⟩ = some (.slice A4 n4 c4))
    (first | exact ⟨k0, k1, k2, k3, k4, k5⟩ | exact Kw5 | exact Kw6 | exact Kwm | exact KA | exact Kw7 | exact Kw8 | exact K9.out _ _ _)
    (first
      | (go_at_call_of 70 (Value.agg #[.bool s1, .slice A1 n1 c1, .slice A2 n2 c2]); refine (loadQ _ q1 L _ (h1.below hbd) (by omega)).mono ?_; rintro e w5 ⟨_, rfl, hq5, hb5⟩; obtain ⟨s5, A5, m5, c5, A6, m6, c6, rfl⟩ := hq5.form; have Kw5 : w5.cell? ⟨w.heap.size, 0, none⟩ = some (.bool s1) ∧ w5.cell? ⟨w.heap.size, 1, none⟩ = some (.slice A1 n1 c1) ∧ w5.cell? ⟨w.heap.size, 2, none⟩ = some (.slice A2 n2 c2) ∧ w5.cell? ⟨w.heap.size + 1, 0, none⟩ = some (.bool s2) ∧ w5.cell? ⟨w.heap.size + 1, 1, none⟩ = some (.slice A3 n3 c3) ∧ w5.cell? ⟨w.heap.size + 1, 2, none⟩ = some (.slice A4 n4 c4) := ⟨((B1.drew).below hb5).cell 0, ((B1.drew).below hb5).cell 1, ((B1.drew).below hb5).cell 2, ((B2.drew).below hb5).cell 0, ((B2.drew).below hb5).cell 1, ((B2.drew).below hb5).cell 2⟩)
      | (go_at_call_of 70 (Value.agg #[.bool s2, .slice A3 n3 c3, .slice A4 n4 c4]); refine (loadQ _ q2 L _ ((h2.below hbd).below hb5) (by omega)).mono ?_; rintro e w6 ⟨_, rfl, hq6, hb6⟩; have hq5 := hq5.below hb6; obtain ⟨s6, A7, m7, c7, A8, m8, c8, rfl⟩ := hq6.form; have Kw6 : w6.cell? ⟨w.heap.size, 0, none⟩ = some (.bool s1) ∧ w6.cell? ⟨w.heap.size, 1, none⟩ = some (.slice A1 n1 c1) ∧ w6.cell? ⟨w.heap.size, 2, none⟩ = some (.slice A2 n2 c2) ∧ w6.cell? ⟨w.heap.size + 1, 0, none⟩ = some (.bool s2) ∧ w6.cell? ⟨w.heap.size + 1, 1, none⟩ = some (.slice A3 n3 c3) ∧ w6.cell? ⟨w.heap.size + 1, 2, none⟩ = some (.slice A4 n4 c4) := ⟨(((B1.drew).below hb5).below hb6).cell 0, (((B1.drew).below hb5).below hb6).cell 1, (((B1.drew).below hb5).below hb6).cell 2, (((B2.drew).below hb5).below hb6).cell 0, (((B2.drew).below hb5).below hb6).cell 1, (((B2.drew).below hb5).below hb6).cell 2⟩)
      | (go_at_call 96; refine (minusQ _ q2 (2 * L + 1) _ hq6).mono ?_; rintro e wm ⟨_, rfl, hqm, hbm⟩; have hq5 := hq5.below hbm; obtain ⟨sm, B7, o7, d7, B8, o8, d8, rfl⟩ := hqm.form; have hbl := (Below.refl wm.heap.size wm).alloc (Nat.le_refl _) (.cells #[.bool s5, .slice A5 m5 c5, .slice A6 m6 c6, .bool sm, .slice B7 o7 d7, .slice B8 o8 d8] 67); have Kwm : wm.cell? ⟨w.heap.size, 0, none⟩ = some (.bool s1) ∧ wm.cell? ⟨w.heap.size, 1, none⟩ = some (.slice A1 n1 c1) ∧ wm.cell? ⟨w.heap.size, 2, none⟩ = some (.slice A2 n2 c2) ∧ wm.cell? ⟨w.heap.size + 1, 0, none⟩ = some (.bool s2) ∧ wm.cell? ⟨w.heap.size + 1, 1, none⟩ = some (.slice A3 n3 c3) ∧ wm.cell? ⟨w.heap.size + 1, 2, none⟩ = some (.slice A4 n4 c4) := ⟨((((B1.drew).below hb5).below hb6).below hbm).cell 0, ((((B1.drew).below hb5).below hb6).below hbm).cell 1, ((((B1.drew).below hb5).below hb6).below hbm).cell 2, ((((B2.drew).below hb5).below hb6).below hbm).cell 0, ((((B2.drew).below hb5).below hb6).below hbm).cell 1, ((((B2.drew).below hb5).below hb6).below hbm).cell 2⟩; have KA : (wm.alloc (.cells #[.bool s5, .slice A5 m5 c5, .slice A6 m6 c6, .bool sm, .slice B7 o7 d7, .slice B8 o8 d8] 67)).cell? ⟨w.heap.size, 0, none⟩ = some (.bool s1) ∧ (wm.alloc (.cells #[.bool s5, .slice A5 m5 c5, .slice A6 m6 c6, .bool sm, .slice B7 o7 d7, .slice B8 o8 d8] 67)).cell? ⟨w.heap.size, 1, none⟩ = some (.slice A1 n1 c1) ∧ (wm.alloc (.cells #[.bool s5, .slice A5 m5 c5, .slice A6 m6 c6, .bool sm, .slice B7 o7 d7, .slice B8 o8 d8] 67)).cell? ⟨w.heap.size, 2, none⟩ = some (.slice A2 n2 c2) ∧ (wm.alloc (.cells #[.bool s5, .slice A5 m5 c5, .slice A6 m6 c6, .bool sm, .slice B7 o7 d7, .slice B8 o8 d8] 67)).cell? ⟨w.heap.size + 1, 0, none⟩ = some (.bool s2) ∧ (wm.alloc (.cells #[.bool s5, .slice A5 m5 c5, .slice A6 m6 c6, .bool sm, .slice B7 o7 d7, .slice B8 o8 d8] 67)).cell? ⟨w.heap.size + 1, 1, none⟩ = some (.slice A3 n3 c3) ∧ (wm.alloc (.cells #[.bool s5, .slice A5 m5 c5, .slice A6 m6 c6, .bool sm, .slice B7 o7 d7, .slice B8 o8 d8] 67)).cell? ⟨w.heap.size + 1, 2, none⟩ = some (.slice A4 n4 c4) := ⟨(((((B1.drew).below hb5).below hb6).below hbm).alloc (.cells #[.bool s5, .slice A5 m5 c5, .slice A6 m6 c6, .bool sm, .slice B7 o7 d7, .slice B8 o8 d8] 67)).cell 0, (((((B1.drew).below hb5).below hb6).below hbm).alloc (.cells #[.bool s5, .slice A5 m5 c5, .slice A6 m6 c6, .bool sm, .slice B7 o7 d7, .slice B8 o8 d8] 67)).cell 1, (((((B1.drew).below hb5).below hb6).below hbm).alloc (.cells #[.bool s5, .slice A5 m5 c5, .slice A6 m6 c6, .bool sm, .slice B7 o7 d7, .slice B8 o8 d8] 67)).cell 2, (((((B2.drew).below hb5).below hb6).below hbm).alloc (.cells #[.bool s5, .slice A5 m5 c5, .slice A6 m6 c6, .bool sm, .slice B7 o7 d7, .slice B8 o8 d8] 67)).cell 0, (((((B2.drew).below hb5).below hb6).below hbm).alloc (.cells #[.bool s5, .slice A5 m5 c5, .slice A6 m6 c6, .bool sm, .slice B7 o7 d7, .slice B8 o8 d8] 67)).cell 1, (((((B2.drew).below hb5).below hb6).below hbm).alloc (.cells #[.bool s5, .slice A5 m5 c5, .slice A6 m6 c6, .bool sm, .slice B7 o7 d7, .slice B8 o8 d8] 67)).cell 2⟩)
      | (go_at_call 92; refine (totalQ _ 2 2 (2 * L + 1) [q1, -q2] _ (Ls.lit2 (Blk.new _ _ _) (hq5.below hbl) (hqm.below hbl)) hL).mono ?_; rintro e w7 ⟨_, rfl, hq7, hb7⟩; rw [sum2] at hq7; obtain ⟨s7, A9, m9, c9, A10, m10, c10, rfl⟩ := hq7.form; have Kw7 : w7.cell? ⟨w.heap.size, 0, none⟩ = some (.bool s1) ∧ w7.cell? ⟨w.heap.size, 1, none⟩ = some (.slice A1 n1 c1) ∧ w7.cell? ⟨w.heap.size, 2, none⟩ = some (.slice A2 n2 c2) ∧ w7.cell? ⟨w.heap.size + 1, 0, none⟩ = some (.bool s2) ∧ w7.cell? ⟨w.heap.size + 1, 1, none⟩ = some (.slice A3 n3 c3) ∧ w7.cell? ⟨w.heap.size + 1, 2, none⟩ = some (.slice A4 n4 c4) := ⟨((((((B1.drew).below hb5).below hb6).below hbm).alloc (.cells #[.bool s5, .slice A5 m5 c5, .slice A6 m6 c6, .bool sm, .slice B7 o7 d7, .slice B8 o8 d8] 67)).below hb7).cell 0, ((((((B1.drew).below hb5).below hb6).below hbm).alloc (.cells #[.bool s5, .slice A5 m5 c5, .slice A6 m6 c6, .bool sm, .slice B7 o7 d7, .slice B8 o8 d8] 67)).below hb7).cell 1, ((((((B1.drew).below hb5).below hb6).below hbm).alloc (.cells #[.bool s5, .slice A5 m5 c5, .slice A6 m6 c6, .bool sm, .slice B7 o7 d7, .slice B8 o8 d8] 67)).below hb7).cell 2, ((((((B2.drew).below hb5).below hb6).below hbm).alloc (.cells #[.bool s5, .slice A5 m5 c5, .slice A6 m6 c6, .bool sm, .slice B7 o7 d7, .slice B8 o8 d8] 67)).below hb7).cell 0, ((((((B2.drew).below hb5).below hb6).below hbm).alloc (.cells #[.bool s5, .slice A5 m5 c5, .slice A6 m6 c6, .bool sm, .slice B7 o7 d7, .slice B8 o8 d8] 67)).below hb7).cell 1, ((((((B2.drew).below hb5).below hb6).below hbm).alloc (.cells #[.bool s5, .slice A5 m5 c5, .slice A6 m6 c6, .bool sm, .slice B7 o7 d7, .slice B8 o8 d8] 67)).below hb7).cell 2⟩)
      | (go_at_call 71; refine (storeQ _ (q1 + -q2) ((2 + 1) * (2 * L + 1 + 2)) _ hq7 (by omega)).mono ?_; rintro e w8 ⟨_, rfl, hq8, hb8⟩; obtain ⟨s8, A11, m11, c11, A12, m12, c12, rfl⟩ := hq8.form; have Kw8 : w8.cell? ⟨w.heap.size, 0, none⟩ = some (.bool s1) ∧ w8.cell? ⟨w.heap.size, 1, none⟩ = some (.slice A1 n1 c1) ∧ w8.cell? ⟨w.heap.size, 2, none⟩ = some (.slice A2 n2 c2) ∧ w8.cell? ⟨w.heap.size + 1, 0, none⟩ = some (.bool s2) ∧ w8.cell? ⟨w.heap.size + 1, 1, none⟩ = some (.slice A3 n3 c3) ∧ w8.cell? ⟨w.heap.size + 1, 2, none⟩ = some (.slice A4 n4 c4) := ⟨(((((((B1.drew).below hb5).below hb6).below hbm).alloc (.cells #[.bool s5, .slice A5 m5 c5, .slice A6 m6 c6, .bool sm, .slice B7 o7 d7, .slice B8 o8 d8] 67)).below hb7).below hb8).cell 0, (((((((B1.drew).below hb5).below hb6).below hbm).alloc (.cells #[.bool s5, .slice A5 m5 c5, .slice A6 m6 c6, .bool sm, .slice B7 o7 d7, .slice B8 o8 d8] 67)).below hb7).below hb8).cell 1, (((((((B1.drew).below hb5).below hb6).below hbm).alloc (.cells #[.bool s5, .slice A5 m5 c5, .slice A6 m6 c6, .bool sm, .slice B7 o7 d7, .slice B8 o8 d8] 67)).below hb7).below hb8).cell 2, (((((((B2.drew).below hb5).below hb6).below hbm).alloc (.cells #[.bool s5, .slice A5 m5 c5, .slice A6 m6 c6, .bool sm, .slice B7 o7 d7, .slice B8 o8 d8] 67)).below hb7).below hb8).cell 0, (((((((B2.drew).below hb5).below hb6).below hbm).alloc (.cells #[.bool s5, .slice A5 m5 c5, .slice A6 m6 c6, .bool sm, .slice B7 o7 d7, .slice B8 o8 d8] 67)).below hb7).below hb8).cell 1, (((((((B2.drew).below hb5).below hb6).below hbm).alloc (.cells #[.bool s5, .slice A5 m5 c5, .slice A6 m6 c6, .bool sm, .slice B7 o7 d7, .slice B8 o8 d8] 67)).below hb7).below hb8).cell 2⟩; have K9 := Lib.hid (show ∀ a b d, (((w8.setCell ⟨w.heap.size + 1 + 1, 0, none⟩ a).setCell ⟨w.heap.size + 1 + 1, 1, none⟩ b).setCell ⟨w.heap.size + 1 + 1, 2, none⟩ d).cell? ⟨w.heap.size, 0, none⟩ = some (.bool s1) ∧ (((w8.setCell ⟨w.heap.size + 1 + 1, 0, none⟩ a).setCell ⟨w.heap.size + 1 + 1, 1, none⟩ b).setCell ⟨w.heap.size + 1 + 1, 2, none⟩ d).cell? ⟨w.heap.size, 1, none⟩ = some (.slice A1 n1 c1) ∧ (((w8.setCell ⟨w.heap.size + 1 + 1, 0, none⟩ a).setCell ⟨w.heap.size + 1 + 1, 1, none⟩ b).setCell ⟨w.heap.size + 1 + 1, 2, none⟩ d).cell? ⟨w.heap.size, 2, none⟩ = some (.slice A2 n2 c2) ∧ (((w8.setCell ⟨w.heap.size + 1 + 1, 0, none⟩ a).setCell ⟨w.heap.size + 1 + 1, 1, none⟩ b).setCell ⟨w.heap.size + 1 + 1, 2, none⟩ d).cell? ⟨w.heap.size + 1, 0, none⟩ = some (.bool s2) ∧ (((w8.setCell ⟨w.heap.size + 1 + 1, 0, none⟩ a).setCell ⟨w.heap.size + 1 + 1, 1, none⟩ b).setCell ⟨w.heap.size + 1 + 1, 2, none⟩ d).cell? ⟨w.heap.size + 1, 1, none⟩ = some (.slice A3 n3 c3) ∧ (((w8.setCell ⟨w.heap.size + 1 + 1, 0, none⟩ a).setCell ⟨w.heap.size + 1 + 1, 1, none⟩ b).setCell ⟨w.heap.size + 1 + 1, 2, none⟩ d).cell? ⟨w.heap.size + 1, 2, none⟩ = some (.slice A4 n4 c4) from fun a b d => ⟨(cell_set3 _ _ _ _ _ _ (by show w.heap.size ≠ _; omega)).trans Kw8.1, (cell_set3 _ _ _ _ _ _ (by show w.heap.size ≠ _; omega)).trans Kw8.2.1, (cell_set3 _ _ _ _ _ _ (by show w.heap.size ≠ _; omega)).trans Kw8.2.2.1, (cell_set3 _ _ _ _ _ _ (by show w.heap.size + 1 ≠ _; omega)).trans Kw8.2.2.2.1, (cell_set3 _ _ _ _ _ _ (by show w.heap.size + 1 ≠ _; omega)).trans Kw8.2.2.2.2.1, (cell_set3 _ _ _ _ _ _ (by show w.heap.size + 1 ≠ _; omega)).trans Kw8.2.2.2.2.2⟩); have P3 := ((((((B3.drew).below hb5).below hb6).below hbm).alloc (.cells #[.bool s5, .slice A5 m5 c5, .slice A6 m6 c6, .bool sm, .slice B7 o7 d7, .slice B8 o8 d8] 67)).below hb7).below hb8; have r0 := P3.cell 0; have r1 := P3.cell 1; have r2 := P3.cell 2; have f0 := P3.frozen 0; have f1 := P3.frozen 1; have f2 := P3.frozen 2))
  have hz0 := (hw0.drew).trans (hb5.mono (hw0.drew).size)
  have hz1 := (hz0).trans (hb6.mono (hz0).size)
  have hz2 := (hz1).trans (hbm.mono (hz1).size)
  have hz3 := (hz2).alloc (hz2).size (.cells #[.bool s5, .slice A5 m5 c5, .slice A6 m6 c6, .bool sm, .slice B7 o7 d7, .slice B8 o8 d8] 67)
  have hz4 := (hz3).trans (hb7.mono (hz3).size)
  have hz5 := (hz4).trans (hb8.mono (hz4).size)
  go_wp2
  exact ret_frac rfl rfl (((P3.set_ 0 _).set_ 1 _).set_ 2 _) rfl ⟨_, rfl, (hq8).set3 P3 _ _ _, bel_set3 hz5 (by omega) _ _ _⟩

theorem ofQ (n : Int) (w : World) (hr : -9223372036854775808 ≤ n ∧ n ≤ 9223372036854775807) : Calls Tryz.prog 30 #[.int .i64 n] w (RetFQ w (n : Rat) 2) := by
  refine (of_any n w hr).mono ?_
  rintro e w' ⟨v, rfl, ⟨v1, v2, rfl, h1, h2⟩, hb⟩
  exact ⟨_, rfl, ⟨v1, v2, by rw [Rat.num_intCast], by rw [Rat.num_intCast]; exact h1, by rw [Rat.den_intCast]; exact h2⟩, hb⟩

set_option maxHeartbeats 3200000 in
theorem makeQ (n d : Int) (w : World) (hr : -9223372036854775808 ≤ n ∧ n ≤ 9223372036854775807) (hd : -9223372036854775808 ≤ d ∧ d ≤ 9223372036854775807) (hd0 : d ≠ 0) :
    Calls Tryz.prog 29 #[.int .i64 n, .int .i64 d] w fun e w' => ∃ v, e = .returned (.tuple #[v, .int .i64 0]) ∧ FQ w' v ((n : Rat) * (d : Rat)⁻¹) 4 ∧ Below w.heap.size w w' := by
  have hz : ((d : Int) == 0) = false := by rw [beq_eq_false_iff_ne]; exact hd0
  have hdq : (d : Rat) ≠ 0 := by intro h; exact hd0 (Rat.intCast_eq_zero_iff.1 h)
  have B2 := Blk.new w 24 #[.bool false, .slice none 0 0, .slice none 0 0]
  have hw0 := (Below.refl w.heap.size w).alloc (Nat.le_refl _) (.cells #[.bool false, .slice none 0 0, .slice none 0 0] 24)
  go_enter Tryz.func29, Tryz.ntmps29
  go_wp2_with fail
  generalize w.alloc (.cells #[.bool false, .slice none 0 0, .slice none 0 0] 24) = w1 at *
  refine (wholeQ n _ hr).mono ?_
  rintro e w2 ⟨_, rfl, hq2, hb2⟩
  obtain ⟨s2, A3, n3, c3, A4, n4, c4, rfl⟩ := hq2.form
  have hw2 := hw0.trans (hb2.mono hw0.size)
  go_wp2_with fail
  refine (wholeQ d _ hd).mono ?_
  rintro e w3 ⟨_, rfl, hq3, hb3⟩
  obtain ⟨s3, A5, n5, c5, A6, n6, c6, rfl⟩ := hq3.form
  have hw3 := hw2.trans (hb3.mono hw2.size)
  go_wp2_with fail
  refine (invertQ _ _ 1 _ hq3 hdq).mono ?_
  rintro e w4 ⟨_, rfl, hq4, hb4⟩
  obtain ⟨s4, A7, n7, c7, A8, n8, c8, rfl⟩ := hq4.form
  have hw4 := hw3.trans (hb4.mono hw3.size)
  go_wp2_with fail
  refine (timesQ _ _ _ _ 1 1 _ ((hq2.below hb3).below hb4) hq4 (by omega) (by omega)).mono ?_
  rintro e w5 ⟨_, rfl, hq5, hb5⟩
  obtain ⟨s5, A13, n13, c13, A14, n14, c14, rfl⟩ := hq5.form
  have hw5 := hw4.trans (hb5.mono hw4.size)
  go_wp2_with fail
  refine (storeQ _ _ (1 + 1) _ hq5 (by omega)).mono ?_
  rintro e w6 ⟨_, rfl, hq9, hb6⟩
  obtain ⟨s9, A9, n9, c9, A10, n10, c10, rfl⟩ := hq9.form
  have C6 := ((((B2.below hb2).below hb3).below hb4).below hb5).below hb6
  have hw6 := hw5.trans (hb6.mono hw5.size)
  have r0 := C6.cell 0
  have r1 := C6.cell 1
  have r2 := C6.cell 2
  have f0 := C6.frozen 0
  have f1 := C6.frozen 1
  have f2 := C6.frozen 2
  go_wp2
  exact ret_frac2 rfl rfl (((C6.set_ 0 _).set_ 1 _).set_ 2 _) rfl ⟨_, rfl, hq9.set3 C6 _ _ _, bel_set3 hw6 (by omega) _ _ _⟩
end Go.Proofs.YtbgihlfblmilmaaGreatDoor.Fr
