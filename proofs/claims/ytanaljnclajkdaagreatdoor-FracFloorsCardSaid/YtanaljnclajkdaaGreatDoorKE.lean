/- FracFloors: a number rounded down to a denominator. -/
import Derived.Test.YtanaljnclajkdaaGreatDoorJK
import Derived.Test.YtanaljnclajkdaaGreatDoorHC
import Derived.Test.YtanaljnclajkdaaGreatDoorHF
import Derived.Deep.RegionHeld3
namespace Go.Proofs.YtanaljnclajkdaaGreatDoor.Fr
open Go.RowKit Num

theorem floor_rest (q : Rat) (d : Int) (hd : 1 ≤ d) : 0 ≤ qs (q + -(((q * (d : Rat)).floor : Rat) * (d : Rat)⁻¹)) ∧ cq (q + -(((q * (d : Rat)).floor : Rat) * (d : Rat)⁻¹)) (((1 : Int) : Rat) * (d : Rat)⁻¹) < 0 := by
  have hdp : (0 : Rat) < (d : Rat) := Rat.intCast_pos.2 (by omega)
  have h1 := Rat.floor_le (q * (d : Rat))
  have h2 : q * (d : Rat) - 1 < ((q * (d : Rat)).floor : Rat) := Rat.lt_floor
  generalize ((q * (d : Rat)).floor : Rat) = f at *
  obtain ⟨r, hr⟩ : ∃ r, (d : Rat)⁻¹ = r := ⟨_, rfl⟩
  have hdr : (d : Rat) * r = 1 := by rw [← hr]; exact Rat.mul_inv_cancel _ (Rat.ne_of_gt hdp)
  have hrp : 0 < r := by rw [← hr]; exact Rat.inv_pos.2 hdp
  rw [hr]
  have hA : 0 ≤ (q * (d : Rat) - f) * r := Rat.mul_nonneg (by grind) (Rat.le_of_lt hrp)
  have hB : 0 < (1 - (q * (d : Rat) - f)) * r := Rat.mul_pos (by grind) hrp
  have e1 : (q * (d : Rat) - f) * r = q + -(f * r) := by grind
  have e2 : (1 - (q * (d : Rat) - f)) * r = ((1 : Int) : Rat) * r - (q + -(f * r)) := by
    have : ((1 : Int) : Rat) = 1 := rfl
    rw [this]; grind
  rw [e1] at hA
  rw [e2] at hB
  generalize q + -(f * r) = x at *
  generalize ((1 : Int) : Rat) * r = y at *
  constructor
  · unfold qs cq
    split
    · exfalso; grind
    · split <;> omega
  · unfold cq
    rw [if_pos (by grind)]
    decide
set_option linter.unusedSimpArgs false in
set_option maxHeartbeats 25600000 in
set_option maxRecDepth 100000 in
theorem floors_law (sa : Bool) (Aa : Option Addr) (na ca : Nat) (Ba : Option Addr) (ma ea : Nat) (xa ya : List Nat) (d : Int) (w : World) (hxa : Dg .u32 w Aa na ca xa) (hya : Dg .u32 w Ba ma ea ya) (hd : -9223372036854775808 ≤ d ∧ d ≤ 9223372036854775807) (hG : Gl w) :
    Calls Tryz.prog 15 #[.agg #[.bool sa, .slice Aa na ca, .slice Ba ma ea], .int .i64 d] w fun e w' => e = .returned (.bool true) ∧ Below w.heap.size w w' := by
  have hG := Lib.hid hG
  have Xa := Blk.new w 24 #[.bool sa, .slice Aa na ca, .slice Ba ma ea]
  have hw := ((Below.refl w.heap.size w).alloc (Nat.le_refl _) (.cells #[.bool sa, .slice Aa na ca, .slice Ba ma ea] 24))
  have hxa := hxa.below hw
  have hya := hya.below hw
  go_enter Tryz.func15, Tryz.ntmps15
  go_upto_region 1 with fail
  generalize (w.alloc (.cells #[.bool sa, .slice Aa na ca, .slice Ba ma ea] 24)) = w1 at *
  have ka0 : w1.cell? ⟨w.heap.size, 0, none⟩ = some (.bool sa) := Xa.cell 0
  have ka1 : w1.cell? ⟨w.heap.size, 1, none⟩ = some (.slice Aa na ca) := Xa.cell 1
  have ka2 : w1.cell? ⟨w.heap.size, 2, none⟩ = some (.slice Ba ma ea) := Xa.cell 2
  have hal := (Below.refl w1.heap.size w1).alloc (Nat.le_refl _) (.cells #[.bool sa, .slice Aa na ca, .slice Ba ma ea] 24)
  have hS := Sm.lit1 (Blk.new w1 24 #[.bool sa, .slice Aa na ca, .slice Ba ma ea])
  have hw := hw.alloc hw.size (.cells #[.bool sa, .slice Aa na ca, .slice Ba ma ea] 24)
  have Xa := Xa.below hal
  have hxa := hxa.below hal
  have hya := hya.below hal
  clear hal
  go_wp2_with fail
  generalize w1.heap.size = gl at *
  generalize w1.alloc (.cells #[.bool sa, .slice Aa na ca, .slice Ba ma ea] 24) = w2 at *
  clear ka0
  clear ka1
  clear ka2
  refine (smallL_any _ _ _ _ _ hS).mono ?_
  rintro e v0 ⟨b, rfl, hiff, rfl⟩
  cases b with
  | false =>
    clear hiff
    go_wp2_with fail
    refine (known_true _ (hG.out.below hw)).mono ?_
    rintro e v1 ⟨rfl, hc1⟩
    go_wp2
    go_ret
    exact ⟨rfl, hw.trans (hc1.mono hw.size)⟩
  | true =>
    obtain ⟨h1a, h2a⟩ := small1_of (hiff.1 rfl)
    obtain ⟨qa, ha⟩ : ∃ q, AF w2 (.agg #[.bool sa, .slice Aa na ca, .slice Ba ma ea]) q 12 := ⟨_, AF.of hxa hya h1a h2a⟩
    clear hiff hS hxa hya h1a h2a
    have hB := Below.refl w2.heap.size w2
    have ka0 : w2.cell? ⟨w.heap.size, 0, none⟩ = some (.bool sa) := Xa.cell 0
    have ka1 : w2.cell? ⟨w.heap.size, 1, none⟩ = some (.slice Aa na ca) := Xa.cell 1
    have ka2 : w2.cell? ⟨w.heap.size, 2, none⟩ = some (.slice Ba ma ea) := Xa.cell 2
    go_wp2_with fail
    by_cases hd1 : d < 1
    · have hdb : decide (d < 1) = true := decide_eq_true hd1
      have hd1 := Lib.hid hd1
      clear ka0 ka1 ka2
      refine (FloorQ _ qa d 12 _ ha hd (by decide)).mono ?_
      rintro e v1 ⟨hdz, _⟩
      obtain ⟨_, rfl, q1, hc1⟩ := hdz hd1.out
      have hw := hw.trans (hc1.mono hw.size)
      have hB := Below.refl v1.heap.size v1
      have ha := ha.below hc1
      have Xa := Xa.below hc1
      have q1 := q1.le (show _ ≤ 60 by decide)
      obtain ⟨s1, A1, m1, c1, B1, n1, d1, rfl⟩ := q1.form
      clear hdz
      have had := (Below.refl v1.heap.size v1).alloc (Nat.le_refl _) (.cells #[.bool s1, .slice A1 m1 c1, .slice B1 n1 d1] 24)
      have Xd := Blk.new v1 24 #[.bool s1, .slice A1 m1 c1, .slice B1 n1 d1]
      have hw := hw.alloc hw.size (.cells #[.bool s1, .slice A1 m1 c1, .slice B1 n1 d1] 24)
      have ha := ha.below had
      have q1 := q1.below had
      have Xa := Xa.below had
      clear had
      have kd : ((v1.alloc (.cells #[.bool s1, .slice A1 m1 c1, .slice B1 n1 d1] 24)).cell? ⟨v1.heap.size, 0, none⟩ = some (.bool s1)) ∧ ((v1.alloc (.cells #[.bool s1, .slice A1 m1 c1, .slice B1 n1 d1] 24)).cell? ⟨v1.heap.size, 1, none⟩ = some (.slice A1 m1 c1)) ∧ ((v1.alloc (.cells #[.bool s1, .slice A1 m1 c1, .slice B1 n1 d1] 24)).cell? ⟨v1.heap.size, 2, none⟩ = some (.slice B1 n1 d1)) := ⟨Xd.cell 0, Xd.cell 1, Xd.cell 2⟩
      obtain ⟨kd0, kd1, kd2⟩ := kd
      go_wp2_with fail
      generalize v1.heap.size = gd at *
      generalize v1.alloc (.cells #[.bool s1, .slice A1 m1 c1, .slice B1 n1 d1] 24) = ud at *
      refine (sameT _ _ _ _ _ _ _ q1 (FQ.zero _) rfl).mono ?_
      rintro e v2 ⟨rfl, hc2⟩
      have hw := hw.trans (hc2.mono hw.size)
      have hB := Below.refl v2.heap.size v2
      have ha := ha.below hc2
      have q1 := q1.below hc2
      have Xa := Xa.below hc2
      have Xd := Xd.below hc2
      go_wp2_with fail
      refine (known_true _ (hG.out.below hw)).mono ?_
      rintro e v3 ⟨rfl, hc3⟩
      have hw := hw.trans (hc3.mono hw.size)
      have hB := Below.refl v3.heap.size v3
      have ha := ha.below hc3
      have q1 := q1.below hc3
      have Xa := Xa.below hc3
      have Xd := Xd.below hc3
      go_wp2
      go_ret
      exact ⟨rfl, hw⟩
    · have hdb : decide (d < 1) = false := decide_eq_false hd1
      have hd1 := Lib.hid hd1
      clear ka0 ka1 ka2
      refine (FloorQ _ qa d 12 _ ha hd (by decide)).mono ?_
      rintro e v1 ⟨_, hdz⟩
      obtain ⟨_, rfl, q1, hc1⟩ := hdz (by have := hd1.out; omega)
      have hw := hw.trans (hc1.mono hw.size)
      have hB := Below.refl v1.heap.size v1
      have ha := ha.below hc1
      have Xa := Xa.below hc1
      have q1 := q1.le (show _ ≤ 60 by decide)
      obtain ⟨s1, A1, m1, c1, B1, n1, d1, rfl⟩ := q1.form
      clear hdz
      have had := (Below.refl v1.heap.size v1).alloc (Nat.le_refl _) (.cells #[.bool s1, .slice A1 m1 c1, .slice B1 n1 d1] 24)
      have Xd := Blk.new v1 24 #[.bool s1, .slice A1 m1 c1, .slice B1 n1 d1]
      have hw := hw.alloc hw.size (.cells #[.bool s1, .slice A1 m1 c1, .slice B1 n1 d1] 24)
      have ha := ha.below had
      have q1 := q1.below had
      have Xa := Xa.below had
      clear had
      have kd0 : (v1.alloc (.cells #[.bool s1, .slice A1 m1 c1, .slice B1 n1 d1] 24)).cell? ⟨v1.heap.size, 0, none⟩ = some (.bool s1) := Xd.cell 0
      have kd1 : (v1.alloc (.cells #[.bool s1, .slice A1 m1 c1, .slice B1 n1 d1] 24)).cell? ⟨v1.heap.size, 1, none⟩ = some (.slice A1 m1 c1) := Xd.cell 1
      have kd2 : (v1.alloc (.cells #[.bool s1, .slice A1 m1 c1, .slice B1 n1 d1] 24)).cell? ⟨v1.heap.size, 2, none⟩ = some (.slice B1 n1 d1) := Xd.cell 2
      have ka0 : (v1.alloc (.cells #[.bool s1, .slice A1 m1 c1, .slice B1 n1 d1] 24)).cell? ⟨w.heap.size, 0, none⟩ = some (.bool sa) := Xa.cell 0
      have ka1 : (v1.alloc (.cells #[.bool s1, .slice A1 m1 c1, .slice B1 n1 d1] 24)).cell? ⟨w.heap.size, 1, none⟩ = some (.slice Aa na ca) := Xa.cell 1
      have ka2 : (v1.alloc (.cells #[.bool s1, .slice A1 m1 c1, .slice B1 n1 d1] 24)).cell? ⟨w.heap.size, 2, none⟩ = some (.slice Ba ma ea) := Xa.cell 2
      go_wp2_with fail
      generalize v1.heap.size = gd at *
      generalize v1.alloc (.cells #[.bool s1, .slice A1 m1 c1, .slice B1 n1 d1] 24) = ud at *
      clear kd0 kd1 kd2 ka0 ka1 ka2
      refine (refSubQ _ _ _ _ 12 60 _ ha q1.af (by decide)).mono ?_
      rintro e v2 ⟨_, rfl, q2, hc2⟩
      have hw := hw.trans (hc2.mono hw.size)
      have hB := Below.refl v2.heap.size v2
      have ha := ha.below hc2
      have q1 := q1.below hc2
      have Xa := Xa.below hc2
      have Xd := Xd.below hc2
      have q2 := q2.le (show _ ≤ 76 by decide)
      obtain ⟨s2, A2, m2, c2, B2, n2, d2, rfl⟩ := q2.form
      have har := (Below.refl v2.heap.size v2).alloc (Nat.le_refl _) (.cells #[.bool s2, .slice A2 m2 c2, .slice B2 n2 d2] 24)
      have Xr := Blk.new v2 24 #[.bool s2, .slice A2 m2 c2, .slice B2 n2 d2]
      have hw := hw.alloc hw.size (.cells #[.bool s2, .slice A2 m2 c2, .slice B2 n2 d2] 24)
      have ha := ha.below har
      have q1 := q1.below har
      have q2 := q2.below har
      have Xa := Xa.below har
      have Xd := Xd.below har
      clear har
      go_upto_region 7 with fail
      generalize v2.heap.size = gr at *
      generalize v2.alloc (.cells #[.bool s2, .slice A2 m2 c2, .slice B2 n2 d2] 24) = ur at *
      have hq1 := Lib.hid (floor_rest qa d (by have := hd1.out; omega))
      obtain ⟨y, hy⟩ : ∃ y, qs (qa + -(((qa * (d : Rat)).floor : Rat) * (d : Rat)⁻¹)) = y := ⟨_, rfl⟩
      obtain ⟨z, hz⟩ : ∃ z, cq (qa + -(((qa * (d : Rat)).floor : Rat) * (d : Rat)⁻¹)) (((1 : Int) : Rat) * (d : Rat)⁻¹) = z := ⟨_, rfl⟩
      have hyb : 0 ≤ y := by rw [← hy]; exact hq1.out.1
      have hzb : z < 0 := by rw [← hz]; exact hq1.out.2
      have hyd : decide (0 ≤ y) = true := decide_eq_true hyb
      have hzd : decide (z < 0) = true := decide_eq_true hzb
      have hy := Lib.hid hy
      have hz := Lib.hid hz
      have ka_0 : ur.cell? ⟨w.heap.size, 0, none⟩ = some (.bool sa) := Xa.cell 0
      have ka_1 : ur.cell? ⟨w.heap.size, 1, none⟩ = some (.slice Aa na ca) := Xa.cell 1
      have ka_2 : ur.cell? ⟨w.heap.size, 2, none⟩ = some (.slice Ba ma ea) := Xa.cell 2
      have kd_0 : ur.cell? ⟨gd, 0, none⟩ = some (.bool s1) := Xd.cell 0
      have kd_1 : ur.cell? ⟨gd, 1, none⟩ = some (.slice A1 m1 c1) := Xd.cell 1
      have kd_2 : ur.cell? ⟨gd, 2, none⟩ = some (.slice B1 n1 d1) := Xd.cell 2
      have kr_0 : ur.cell? ⟨gr, 0, none⟩ = some (.bool s2) := Xr.cell 0
      have kr_1 : ur.cell? ⟨gr, 1, none⟩ = some (.slice A2 m2 c2) := Xr.cell 1
      have kr_2 : ur.cell? ⟨gr, 2, none⟩ = some (.slice B2 n2 d2) := Xr.cell 2
      have hKeep := Lib.hid (fun (wx : World) (hb : Below ur.heap.size ur wx) => (⟨(hb.cell (World.block_lt_of_cell? _ _ ka_0)).trans ka_0, (hb.cell (World.block_lt_of_cell? _ _ ka_1)).trans ka_1, (hb.cell (World.block_lt_of_cell? _ _ ka_2)).trans ka_2, (hb.cell (World.block_lt_of_cell? _ _ kd_0)).trans kd_0, (hb.cell (World.block_lt_of_cell? _ _ kd_1)).trans kd_1, (hb.cell (World.block_lt_of_cell? _ _ kd_2)).trans kd_2, (hb.cell (World.block_lt_of_cell? _ _ kr_0)).trans kr_0, (hb.cell (World.block_lt_of_cell? _ _ kr_1)).trans kr_1, (hb.cell (World.block_lt_of_cell? _ _ kr_2)).trans kr_2⟩ : wx.cell? ⟨w.heap.size, 0, none⟩ = some (.bool sa) ∧ wx.cell? ⟨w.heap.size, 1, none⟩ = some (.slice Aa na ca) ∧ wx.cell? ⟨w.heap.size, 2, none⟩ = some (.slice Ba ma ea) ∧ wx.cell? ⟨gd, 0, none⟩ = some (.bool s1) ∧ wx.cell? ⟨gd, 1, none⟩ = some (.slice A1 m1 c1) ∧ wx.cell? ⟨gd, 2, none⟩ = some (.slice B1 n1 d1) ∧ wx.cell? ⟨gr, 0, none⟩ = some (.bool s2) ∧ wx.cell? ⟨gr, 1, none⟩ = some (.slice A2 m2 c2) ∧ wx.cell? ⟨gr, 2, none⟩ = some (.slice B2 n2 d2)))
      clear ka_0 ka_1 ka_2 kd_0 kd_1 kd_2 kr_0 kr_1 kr_2
      have hB := bel_drewN (Below.refl ur.heap.size ur) 1
      have ha := ha.below hB
      have q1 := q1.below hB
      have q2 := q2.below hB
      refine wp_region_held_drew (S := (fun wx => wx.cell? ⟨w.heap.size, 0, none⟩ = some (.bool sa) ∧ wx.cell? ⟨w.heap.size, 1, none⟩ = some (.slice Aa na ca) ∧ wx.cell? ⟨w.heap.size, 2, none⟩ = some (.slice Ba ma ea) ∧ wx.cell? ⟨gd, 0, none⟩ = some (.bool s1) ∧ wx.cell? ⟨gd, 1, none⟩ = some (.slice A1 m1 c1) ∧ wx.cell? ⟨gd, 2, none⟩ = some (.slice B1 n1 d1) ∧ wx.cell? ⟨gr, 0, none⟩ = some (.bool s2) ∧ wx.cell? ⟨gr, 1, none⟩ = some (.slice A2 m2 c2) ∧ wx.cell? ⟨gr, 2, none⟩ = some (.slice B2 n2 d2))) (by kernel_rfl) (hKeep.out _ hB) (fun hHeld => ?_)
      refine wpAnyH_take (i := 0) (v := .int .i64 0) rfl (by kernel_rfl) (by kernel_rfl) (by kernel_rfl) (fun _ _ _ h => h) (Or.inl ⟨by kernel_rfl, by (intro w hSw; (try dsimp only at hSw); go_simp)⟩) hHeld ?_
      try simp only [Act.put, List.getElem_toArray, List.getElem_cons_succ, List.getElem_cons_zero, List.setIfInBounds_toArray, List.set_cons_zero, List.set_cons_succ]
      refine wpAnyH_take (i := 1) (v := .bool true) rfl (by kernel_rfl) (by kernel_rfl) (by kernel_rfl) (fun _ _ _ h => h) (Or.inl ⟨by kernel_rfl, by (intro w hSw; (try dsimp only at hSw); go_simp)⟩) hHeld ?_
      try simp only [Act.put, List.getElem_toArray, List.getElem_cons_succ, List.getElem_cons_zero, List.setIfInBounds_toArray, List.set_cons_zero, List.set_cons_succ]
      refine wpAnyH_take (i := 2) (v := .bool true) rfl (by kernel_rfl) (by kernel_rfl) (by kernel_rfl) (fun _ _ _ h => h) (Or.inl ⟨by kernel_rfl, by (intro w hSw; (try dsimp only at hSw); go_simp)⟩) hHeld ?_
      try simp only [Act.put, List.getElem_toArray, List.getElem_cons_succ, List.getElem_cons_zero, List.setIfInBounds_toArray, List.set_cons_zero, List.set_cons_succ]
      refine wpAnyH_take (i := 3) (v := .agg #[.bool s1, .slice A1 m1 c1, .slice B1 n1 d1]) rfl (by kernel_rfl) (by kernel_rfl) (by kernel_rfl) (fun _ _ _ h => h) (Or.inl ⟨by kernel_rfl, by (intro w hSw; (try dsimp only at hSw); go_simp)⟩) hHeld ?_
      try simp only [Act.put, List.getElem_toArray, List.getElem_cons_succ, List.getElem_cons_zero, List.setIfInBounds_toArray, List.set_cons_zero, List.set_cons_succ]
      refine wpAnyH_take (i := 4) (v := .agg #[.bool sa, .slice Aa na ca, .slice Ba ma ea]) rfl (by kernel_rfl) (by kernel_rfl) (by kernel_rfl) (fun _ _ _ h => h) (Or.inl ⟨by kernel_rfl, by (intro w hSw; (try dsimp only at hSw); go_simp)⟩) hHeld ?_
      try simp only [Act.put, List.getElem_toArray, List.getElem_cons_succ, List.getElem_cons_zero, List.setIfInBounds_toArray, List.set_cons_zero, List.set_cons_succ]
      refine wpAnyH_take (i := 5) (v := .int .i64 d) rfl (by kernel_rfl) (by kernel_rfl) (by kernel_rfl) (fun _ _ _ h => h) (Or.inl ⟨by kernel_rfl, by (intro w hSw; (try dsimp only at hSw); go_simp)⟩) hHeld ?_
      try simp only [Act.put, List.getElem_toArray, List.getElem_cons_succ, List.getElem_cons_zero, List.setIfInBounds_toArray, List.set_cons_zero, List.set_cons_succ]
      refine wpAnyH_ready (rs := [6]) (by kernel_rfl) (by simp) ?_
      refine AllReadyH.cons rfl (fun K hK => ?_) AllReadyH.nil
      go_simp
      refine (refFloorQ _ qa d 12 _ ha hd (by have := hd1.out; intro h9; have := Rat.intCast_eq_zero_iff.1 h9; omega) (by decide)).mono ?_
      rintro e v3 ⟨_, rfl, q3, hc3⟩
      have q3 := q3.le (show _ ≤ 29 by decide)
      obtain ⟨s3, A3, m3, c3, B3, n3, d3, rfl⟩ := q3.form
      have hB := hB.trans (hc3.mono hB.size)
      have ha := ha.below hc3
      have q1 := q1.below hc3
      have q2 := q2.below hc3
      go_wp2_with fail
      refine hK.out _ _ ?_ (fun hHeld => ?_)
      · exact hKeep.out _ hB
      clear hK K
      try simp only [Act.put, List.getElem_toArray, List.getElem_cons_succ, List.getElem_cons_zero, List.setIfInBounds_toArray, List.set_cons_zero, List.set_cons_succ]
      refine wpAnyH_ready (rs := [7]) (by kernel_rfl) (by simp) ?_
      refine AllReadyH.cons rfl (fun K hK => ?_) AllReadyH.nil
      go_simp
      refine (sameT _ _ _ _ _ _ _ q1 q3 (rfl)).mono ?_
      rintro e v4 ⟨rfl, hc4⟩
      have hB := hB.trans (hc4.mono hB.size)
      have ha := ha.below hc4
      have q1 := q1.below hc4
      have q2 := q2.below hc4
      have q3 := q3.below hc4
      go_wp2_with fail
      refine hK.out _ _ ?_ (fun hHeld => ?_)
      · exact hKeep.out _ hB
      clear hK K
      try simp only [Act.put, List.getElem_toArray, List.getElem_cons_succ, List.getElem_cons_zero, List.setIfInBounds_toArray, List.set_cons_zero, List.set_cons_succ]
      refine wpAnyH_take (i := 8) (v := .bool true) rfl (by kernel_rfl) (by kernel_rfl) (by kernel_rfl) (fun _ _ _ h => h) (Or.inl ⟨by kernel_rfl, by (intro w hSw; (try dsimp only at hSw); go_simp)⟩) hHeld ?_
      try simp only [Act.put, List.getElem_toArray, List.getElem_cons_succ, List.getElem_cons_zero, List.setIfInBounds_toArray, List.set_cons_zero, List.set_cons_succ]
      refine wpAnyH_take (i := 9) (v := .bool true) rfl (by kernel_rfl) (by kernel_rfl) (by kernel_rfl) (fun _ _ _ h => h) (Or.inl ⟨by kernel_rfl, by (intro w hSw; (try dsimp only at hSw); go_simp)⟩) hHeld ?_
      try simp only [Act.put, List.getElem_toArray, List.getElem_cons_succ, List.getElem_cons_zero, List.setIfInBounds_toArray, List.set_cons_zero, List.set_cons_succ]
      refine wpAnyH_take (i := 10) (v := .agg #[.bool s2, .slice A2 m2 c2, .slice B2 n2 d2]) rfl (by kernel_rfl) (by kernel_rfl) (by kernel_rfl) (fun _ _ _ h => h) (Or.inl ⟨by kernel_rfl, by (intro w hSw; (try dsimp only at hSw); go_simp)⟩) hHeld ?_
      try simp only [Act.put, List.getElem_toArray, List.getElem_cons_succ, List.getElem_cons_zero, List.setIfInBounds_toArray, List.set_cons_zero, List.set_cons_succ]
      refine wpAnyH_ready (rs := [11]) (by kernel_rfl) (by simp) ?_
      refine AllReadyH.cons rfl (fun K hK => ?_) AllReadyH.nil
      go_simp
      refine (refSignQ _ _ 76 _ q2.af ).mono ?_
      rintro e v5 ⟨rfl, hc5⟩
      rw [hy.out]
      have hB := hB.trans (hc5.mono hB.size)
      have ha := ha.below hc5
      have q1 := q1.below hc5
      have q2 := q2.below hc5
      have q3 := q3.below hc5
      go_wp2_with fail
      refine hK.out _ _ ?_ (fun hHeld => ?_)
      · exact hKeep.out _ hB
      clear hK K
      try simp only [Act.put, List.getElem_toArray, List.getElem_cons_succ, List.getElem_cons_zero, List.setIfInBounds_toArray, List.set_cons_zero, List.set_cons_succ]
      refine wpAnyH_take (i := 12) (v := .bool true) rfl (by kernel_rfl) (by kernel_rfl) (by kernel_rfl) (fun _ _ _ h => h) (Or.inl ⟨by kernel_rfl, by (intro w hSw; (try dsimp only at hSw); go_simp)⟩) hHeld ?_
      try simp only [Act.put, List.getElem_toArray, List.getElem_cons_succ, List.getElem_cons_zero, List.setIfInBounds_toArray, List.set_cons_zero, List.set_cons_succ]
      refine wpAnyH_take (i := 13) (v := .bool true) rfl (by kernel_rfl) (by kernel_rfl) (by kernel_rfl) (fun _ _ _ h => h) (Or.inl ⟨by kernel_rfl, by (intro w hSw; (try dsimp only at hSw); go_simp)⟩) hHeld ?_
      try simp only [Act.put, List.getElem_toArray, List.getElem_cons_succ, List.getElem_cons_zero, List.setIfInBounds_toArray, List.set_cons_zero, List.set_cons_succ]
      refine wpAnyH_take (i := 14) (v := .bool true) rfl (by kernel_rfl) (by kernel_rfl) (by kernel_rfl) (fun _ _ _ h => h) (Or.inl ⟨by kernel_rfl, by (intro w hSw; (try dsimp only at hSw); go_simp)⟩) hHeld ?_
      try simp only [Act.put, List.getElem_toArray, List.getElem_cons_succ, List.getElem_cons_zero, List.setIfInBounds_toArray, List.set_cons_zero, List.set_cons_succ]
      refine wpAnyH_take (i := 15) (v := .agg #[.bool s2, .slice A2 m2 c2, .slice B2 n2 d2]) rfl (by kernel_rfl) (by kernel_rfl) (by kernel_rfl) (fun _ _ _ h => h) (Or.inl ⟨by kernel_rfl, by (intro w hSw; (try dsimp only at hSw); go_simp)⟩) hHeld ?_
      try simp only [Act.put, List.getElem_toArray, List.getElem_cons_succ, List.getElem_cons_zero, List.setIfInBounds_toArray, List.set_cons_zero, List.set_cons_succ]
      refine wpAnyH_take (i := 16) (v := .int .i64 d) rfl (by kernel_rfl) (by kernel_rfl) (by kernel_rfl) (fun _ _ _ h => h) (Or.inl ⟨by kernel_rfl, by (intro w hSw; (try dsimp only at hSw); go_simp)⟩) hHeld ?_
      try simp only [Act.put, List.getElem_toArray, List.getElem_cons_succ, List.getElem_cons_zero, List.setIfInBounds_toArray, List.set_cons_zero, List.set_cons_succ]
      refine wpAnyH_ready (rs := [17]) (by kernel_rfl) (by simp) ?_
      refine AllReadyH.cons rfl (fun K hK => ?_) AllReadyH.nil
      go_simp
      refine (refMakeQ _ _ _ (by decide) hd (by have := hd1.out; omega)).mono ?_
      rintro e v6 ⟨_, rfl, q6, hc6⟩
      have q6 := q6.le (show _ ≤ 5 by decide)
      obtain ⟨s6, A6, m6, c6, B6, n6, d6, rfl⟩ := q6.form
      have hB := hB.trans (hc6.mono hB.size)
      have ha := ha.below hc6
      have q1 := q1.below hc6
      have q2 := q2.below hc6
      have q3 := q3.below hc6
      go_wp2_with fail
      refine hK.out _ _ ?_ (fun hHeld => ?_)
      · exact hKeep.out _ hB
      clear hK K
      try simp only [Act.put, List.getElem_toArray, List.getElem_cons_succ, List.getElem_cons_zero, List.setIfInBounds_toArray, List.set_cons_zero, List.set_cons_succ]
      refine wpAnyH_ready (rs := [18]) (by kernel_rfl) (by simp) ?_
      refine AllReadyH.cons rfl (fun K hK => ?_) AllReadyH.nil
      go_simp
      refine (refCmpQ _ _ _ _ 76 5 _ q2.af q6.af (by decide)).mono ?_
      rintro e v7 ⟨rfl, hc7⟩
      rw [hz.out]
      have hB := hB.trans (hc7.mono hB.size)
      have ha := ha.below hc7
      have q1 := q1.below hc7
      have q2 := q2.below hc7
      have q3 := q3.below hc7
      have q6 := q6.below hc7
      go_wp2_with fail
      refine hK.out _ _ ?_ (fun hHeld => ?_)
      · exact hKeep.out _ hB
      clear hK K
      try simp only [Act.put, List.getElem_toArray, List.getElem_cons_succ, List.getElem_cons_zero, List.setIfInBounds_toArray, List.set_cons_zero, List.set_cons_succ]
      refine wpAnyH_take (i := 19) (v := .bool true) rfl (by kernel_rfl) (by kernel_rfl) (by kernel_rfl) (fun _ _ _ h => h) (Or.inl ⟨by kernel_rfl, by (intro w hSw; (try dsimp only at hSw); go_simp)⟩) hHeld ?_
      try simp only [Act.put, List.getElem_toArray, List.getElem_cons_succ, List.getElem_cons_zero, List.setIfInBounds_toArray, List.set_cons_zero, List.set_cons_succ]
      refine wpAnyH_take (i := 20) (v := .bool true) rfl (by kernel_rfl) (by kernel_rfl) (by kernel_rfl) (fun _ _ _ h => h) (Or.inl ⟨by kernel_rfl, by (intro w hSw; (try dsimp only at hSw); go_simp)⟩) hHeld ?_
      try simp only [Act.put, List.getElem_toArray, List.getElem_cons_succ, List.getElem_cons_zero, List.setIfInBounds_toArray, List.set_cons_zero, List.set_cons_succ]
      refine wpAnyH_take (i := 21) (v := .bool true) rfl (by kernel_rfl) (by kernel_rfl) (by kernel_rfl) (fun _ _ _ h => h) (Or.inl ⟨by kernel_rfl, by (intro w hSw; (try dsimp only at hSw); go_simp)⟩) hHeld ?_
      try simp only [Act.put, List.getElem_toArray, List.getElem_cons_succ, List.getElem_cons_zero, List.setIfInBounds_toArray, List.set_cons_zero, List.set_cons_succ]
      refine wpAnyH_ready (rs := [22]) (by kernel_rfl) (by simp) ?_
      refine AllReadyH.cons rfl (fun K hK => ?_) AllReadyH.nil
      go_simp
      refine (known_true _ (hG.out.below (hw.trans (hB.mono hw.size)))).mono ?_
      rintro e v8 ⟨rfl, hc8⟩
      have hB := hB.trans (hc8.mono hB.size)
      have ha := ha.below hc8
      have q1 := q1.below hc8
      have q2 := q2.below hc8
      have q3 := q3.below hc8
      have q6 := q6.below hc8
      go_wp2_with fail
      refine hK.out _ _ ?_ (fun hHeld => ?_)
      · exact hKeep.out _ hB
      clear hK K
      try simp only [Act.put, List.getElem_toArray, List.getElem_cons_succ, List.getElem_cons_zero, List.setIfInBounds_toArray, List.set_cons_zero, List.set_cons_succ]
      refine wpAnyH_take (i := 23) (v := .bool true) rfl (by kernel_rfl) (by kernel_rfl) (by kernel_rfl) (fun _ _ _ h => h) (Or.inl ⟨by kernel_rfl, by (intro w hSw; (try dsimp only at hSw); go_simp)⟩) hHeld ?_
      try simp only [Act.put, List.getElem_toArray, List.getElem_cons_succ, List.getElem_cons_zero, List.setIfInBounds_toArray, List.set_cons_zero, List.set_cons_succ]
      refine wpAnyH_take (i := 24) (v := .bool true) rfl (by kernel_rfl) (by kernel_rfl) (by kernel_rfl) (fun _ _ _ h => h) (Or.inl ⟨by kernel_rfl, by (intro w hSw; (try dsimp only at hSw); go_simp)⟩) hHeld ?_
      try simp only [Act.put, List.getElem_toArray, List.getElem_cons_succ, List.getElem_cons_zero, List.setIfInBounds_toArray, List.set_cons_zero, List.set_cons_succ]
      refine wpAnyH_done (by kernel_rfl) ?_ _
      have hw := hw.trans (hB.mono hw.size)
      have Xa := Xa.below hB
      have Xd := Xd.below hB
      have Xr := Xr.below hB
      go_wp2
      go_ret
      exact ⟨rfl, hw⟩
end Go.Proofs.YtanaljnclajkdaaGreatDoor.Fr
