/- FracMuls: products and quotients, or the error. -/
import Derived.Test.YtanaljnclajkdaaGreatDoorJK
import Derived.Test.YtanaljnclajkdaaGreatDoorHC
import Derived.Deep.RegionHeld3
namespace Go.Proofs.YtanaljnclajkdaaGreatDoor.Fr
open Go.RowKit Num

set_option linter.unusedSimpArgs false in
set_option maxHeartbeats 25600000 in
set_option maxRecDepth 100000 in
theorem muls_law (sa : Bool) (Aa : Option Addr) (na ca : Nat) (Ba : Option Addr) (ma ea : Nat) (xa ya : List Nat) (sb : Bool) (Ab : Option Addr) (nb cb : Nat) (Bb : Option Addr) (mb eb : Nat) (xb yb : List Nat) (w : World) (hxa : Dg .u32 w Aa na ca xa) (hya : Dg .u32 w Ba ma ea ya) (hxb : Dg .u32 w Ab nb cb xb) (hyb : Dg .u32 w Bb mb eb yb) (hG : Gl w) :
    Calls Tryz.prog 7 #[.agg #[.bool sa, .slice Aa na ca, .slice Ba ma ea], .agg #[.bool sb, .slice Ab nb cb, .slice Bb mb eb]] w fun e w' => e = .returned (.bool true) ∧ Below w.heap.size w w' := by
  have hG := Lib.hid hG
  have Xa := Blk.new w 24 #[.bool sa, .slice Aa na ca, .slice Ba ma ea]
  have Xb := Blk.new (w.alloc (.cells #[.bool sa, .slice Aa na ca, .slice Ba ma ea] 24)) 24 #[.bool sb, .slice Ab nb cb, .slice Bb mb eb]
  have Xa := Xa.alloc (.cells #[.bool sb, .slice Ab nb cb, .slice Bb mb eb] 24)
  have z1 : (w.alloc (.cells #[.bool sa, .slice Aa na ca, .slice Ba ma ea] 24)).heap.size = w.heap.size + 1 := by simp
  rw [z1] at Xb
  have hw := (((Below.refl w.heap.size w).alloc (Nat.le_refl _) (.cells #[.bool sa, .slice Aa na ca, .slice Ba ma ea] 24)).alloc (by rw [z1]; omega) (.cells #[.bool sb, .slice Ab nb cb, .slice Bb mb eb] 24))
  have hxa := hxa.below hw
  have hya := hya.below hw
  have hxb := hxb.below hw
  have hyb := hyb.below hw
  clear z1
  go_enter Tryz.func7, Tryz.ntmps7
  go_upto_region 1 with fail
  generalize ((w.alloc (.cells #[.bool sa, .slice Aa na ca, .slice Ba ma ea] 24)).alloc (.cells #[.bool sb, .slice Ab nb cb, .slice Bb mb eb] 24)) = w1 at *
  have ka0 : w1.cell? ⟨w.heap.size, 0, none⟩ = some (.bool sa) := Xa.cell 0
  have ka1 : w1.cell? ⟨w.heap.size, 1, none⟩ = some (.slice Aa na ca) := Xa.cell 1
  have ka2 : w1.cell? ⟨w.heap.size, 2, none⟩ = some (.slice Ba ma ea) := Xa.cell 2
  have kb0 : w1.cell? ⟨w.heap.size + 1, 0, none⟩ = some (.bool sb) := Xb.cell 0
  have kb1 : w1.cell? ⟨w.heap.size + 1, 1, none⟩ = some (.slice Ab nb cb) := Xb.cell 1
  have kb2 : w1.cell? ⟨w.heap.size + 1, 2, none⟩ = some (.slice Bb mb eb) := Xb.cell 2
  have hal := (Below.refl w1.heap.size w1).alloc (Nat.le_refl _) (.cells #[.bool sa, .slice Aa na ca, .slice Ba ma ea, .bool sb, .slice Ab nb cb, .slice Bb mb eb] 24)
  have hS := Sm.lit2 (Blk.new w1 24 #[.bool sa, .slice Aa na ca, .slice Ba ma ea, .bool sb, .slice Ab nb cb, .slice Bb mb eb])
  have hw := hw.alloc hw.size (.cells #[.bool sa, .slice Aa na ca, .slice Ba ma ea, .bool sb, .slice Ab nb cb, .slice Bb mb eb] 24)
  have Xa := Xa.below hal
  have hxa := hxa.below hal
  have hya := hya.below hal
  have Xb := Xb.below hal
  have hxb := hxb.below hal
  have hyb := hyb.below hal
  clear hal
  go_wp2_with fail
  generalize w1.heap.size = gl at *
  generalize w1.alloc (.cells #[.bool sa, .slice Aa na ca, .slice Ba ma ea, .bool sb, .slice Ab nb cb, .slice Bb mb eb] 24) = w2 at *
  clear ka0
  clear ka1
  clear ka2
  clear kb0
  clear kb1
  clear kb2
  refine (smallL_any _ _ _ _ _ hS).mono ?_
  rintro e v0 ⟨b, rfl, hiff, rfl⟩
  cases b with
  | false =>
    clear hiff
    go_wp2_with fail
    refine (known_true _ (hG.out.below hw)).mono ?_
    rintro e v1 ⟨rfl, hc1⟩
    go_wp2
    go_ret
    exact ⟨rfl, hw.trans (hc1.mono hw.size)⟩
  | true =>
    obtain ⟨⟨h1a, h2a⟩, ⟨h1b, h2b⟩⟩ := small2_of (hiff.1 rfl)
    obtain ⟨qa, ha⟩ : ∃ q, AF w2 (.agg #[.bool sa, .slice Aa na ca, .slice Ba ma ea]) q 12 := ⟨_, AF.of hxa hya h1a h2a⟩
    obtain ⟨qb, hb⟩ : ∃ q, AF w2 (.agg #[.bool sb, .slice Ab nb cb, .slice Bb mb eb]) q 12 := ⟨_, AF.of hxb hyb h1b h2b⟩
    clear hiff hS hxa hya h1a h2a hxb hyb h1b h2b
    have hB := Below.refl w2.heap.size w2
    have ka0 : w2.cell? ⟨w.heap.size, 0, none⟩ = some (.bool sa) := Xa.cell 0
    have ka1 : w2.cell? ⟨w.heap.size, 1, none⟩ = some (.slice Aa na ca) := Xa.cell 1
    have ka2 : w2.cell? ⟨w.heap.size, 2, none⟩ = some (.slice Ba ma ea) := Xa.cell 2
    have kb0 : w2.cell? ⟨w.heap.size + 1, 0, none⟩ = some (.bool sb) := Xb.cell 0
    have kb1 : w2.cell? ⟨w.heap.size + 1, 1, none⟩ = some (.slice Ab nb cb) := Xb.cell 1
    have kb2 : w2.cell? ⟨w.heap.size + 1, 2, none⟩ = some (.slice Bb mb eb) := Xb.cell 2
    go_wp2_with fail
    by_cases hq : qb = 0
    · have hq := Lib.hid hq
      clear ka0 ka1 ka2 kb0 kb1 kb2
      refine (divQ _ _ qa qb 12 _ ha hb (by decide)).mono ?_
      rintro e v1 ⟨hdz, _⟩
      obtain ⟨_, rfl, q1, hc1⟩ := hdz hq.out
      have hw := hw.trans (hc1.mono hw.size)
      have hB := Below.refl v1.heap.size v1
      have ha := ha.below hc1
      have hb := hb.below hc1
      have Xa := Xa.below hc1
      have Xb := Xb.below hc1
      have q1 := q1.le (show _ ≤ 100 by decide)
      obtain ⟨s1, A1, m1, c1, B1, n1, d1, rfl⟩ := q1.form
      clear hdz
      have had := (Below.refl v1.heap.size v1).alloc (Nat.le_refl _) (.cells #[.bool s1, .slice A1 m1 c1, .slice B1 n1 d1] 24)
      have Xd := Blk.new v1 24 #[.bool s1, .slice A1 m1 c1, .slice B1 n1 d1]
      have hw := hw.alloc hw.size (.cells #[.bool s1, .slice A1 m1 c1, .slice B1 n1 d1] 24)
      have ha := ha.below had
      have hb := hb.below had
      have q1 := q1.below had
      have Xa := Xa.below had
      have Xb := Xb.below had
      clear had
      go_upto_region 4 with fail
      generalize v1.heap.size = gd at *
      generalize v1.alloc (.cells #[.bool s1, .slice A1 m1 c1, .slice B1 n1 d1] 24) = ud at *
      have ka_0 : ud.cell? ⟨w.heap.size, 0, none⟩ = some (.bool sa) := Xa.cell 0
      have ka_1 : ud.cell? ⟨w.heap.size, 1, none⟩ = some (.slice Aa na ca) := Xa.cell 1
      have ka_2 : ud.cell? ⟨w.heap.size, 2, none⟩ = some (.slice Ba ma ea) := Xa.cell 2
      have kb_0 : ud.cell? ⟨w.heap.size + 1, 0, none⟩ = some (.bool sb) := Xb.cell 0
      have kb_1 : ud.cell? ⟨w.heap.size + 1, 1, none⟩ = some (.slice Ab nb cb) := Xb.cell 1
      have kb_2 : ud.cell? ⟨w.heap.size + 1, 2, none⟩ = some (.slice Bb mb eb) := Xb.cell 2
      have kd_0 : ud.cell? ⟨gd, 0, none⟩ = some (.bool s1) := Xd.cell 0
      have kd_1 : ud.cell? ⟨gd, 1, none⟩ = some (.slice A1 m1 c1) := Xd.cell 1
      have kd_2 : ud.cell? ⟨gd, 2, none⟩ = some (.slice B1 n1 d1) := Xd.cell 2
      have hKeep := Lib.hid (fun (wx : World) (hb : Below ud.heap.size ud wx) => (⟨(hb.cell (World.block_lt_of_cell? _ _ ka_0)).trans ka_0, (hb.cell (World.block_lt_of_cell? _ _ ka_1)).trans ka_1, (hb.cell (World.block_lt_of_cell? _ _ ka_2)).trans ka_2, (hb.cell (World.block_lt_of_cell? _ _ kb_0)).trans kb_0, (hb.cell (World.block_lt_of_cell? _ _ kb_1)).trans kb_1, (hb.cell (World.block_lt_of_cell? _ _ kb_2)).trans kb_2, (hb.cell (World.block_lt_of_cell? _ _ kd_0)).trans kd_0, (hb.cell (World.block_lt_of_cell? _ _ kd_1)).trans kd_1, (hb.cell (World.block_lt_of_cell? _ _ kd_2)).trans kd_2⟩ : wx.cell? ⟨w.heap.size, 0, none⟩ = some (.bool sa) ∧ wx.cell? ⟨w.heap.size, 1, none⟩ = some (.slice Aa na ca) ∧ wx.cell? ⟨w.heap.size, 2, none⟩ = some (.slice Ba ma ea) ∧ wx.cell? ⟨w.heap.size + 1, 0, none⟩ = some (.bool sb) ∧ wx.cell? ⟨w.heap.size + 1, 1, none⟩ = some (.slice Ab nb cb) ∧ wx.cell? ⟨w.heap.size + 1, 2, none⟩ = some (.slice Bb mb eb) ∧ wx.cell? ⟨gd, 0, none⟩ = some (.bool s1) ∧ wx.cell? ⟨gd, 1, none⟩ = some (.slice A1 m1 c1) ∧ wx.cell? ⟨gd, 2, none⟩ = some (.slice B1 n1 d1)))
      clear ka_0 ka_1 ka_2 kb_0 kb_1 kb_2 kd_0 kd_1 kd_2
      have hB := bel_drewN (Below.refl ud.heap.size ud) 1
      have ha := ha.below hB
      have hb := hb.below hB
      have q1 := q1.below hB
      refine wp_region_held_drew (S := (fun wx => wx.cell? ⟨w.heap.size, 0, none⟩ = some (.bool sa) ∧ wx.cell? ⟨w.heap.size, 1, none⟩ = some (.slice Aa na ca) ∧ wx.cell? ⟨w.heap.size, 2, none⟩ = some (.slice Ba ma ea) ∧ wx.cell? ⟨w.heap.size + 1, 0, none⟩ = some (.bool sb) ∧ wx.cell? ⟨w.heap.size + 1, 1, none⟩ = some (.slice Ab nb cb) ∧ wx.cell? ⟨w.heap.size + 1, 2, none⟩ = some (.slice Bb mb eb) ∧ wx.cell? ⟨gd, 0, none⟩ = some (.bool s1) ∧ wx.cell? ⟨gd, 1, none⟩ = some (.slice A1 m1 c1) ∧ wx.cell? ⟨gd, 2, none⟩ = some (.slice B1 n1 d1))) (by kernel_rfl) (hKeep.out _ hB) (fun hHeld => ?_)
      refine wpAnyH_take (i := 0) (v := .agg #[.bool sa, .slice Aa na ca, .slice Ba ma ea]) rfl (by kernel_rfl) (by kernel_rfl) (by kernel_rfl) (fun _ _ _ h => h) (Or.inl ⟨by kernel_rfl, by (intro w hSw; (try dsimp only at hSw); go_simp)⟩) hHeld ?_
      try simp only [Act.put, List.getElem_toArray, List.getElem_cons_succ, List.getElem_cons_zero, List.setIfInBounds_toArray, List.set_cons_zero, List.set_cons_succ]
      refine wpAnyH_take (i := 1) (v := .agg #[.bool sb, .slice Ab nb cb, .slice Bb mb eb]) rfl (by kernel_rfl) (by kernel_rfl) (by kernel_rfl) (fun _ _ _ h => h) (Or.inl ⟨by kernel_rfl, by (intro w hSw; (try dsimp only at hSw); go_simp)⟩) hHeld ?_
      try simp only [Act.put, List.getElem_toArray, List.getElem_cons_succ, List.getElem_cons_zero, List.setIfInBounds_toArray, List.set_cons_zero, List.set_cons_succ]
      refine wpAnyH_take (i := 3) (v := .agg #[.bool sa, .slice Aa na ca, .slice Ba ma ea]) rfl (by kernel_rfl) (by kernel_rfl) (by kernel_rfl) (fun _ _ _ h => h) (Or.inl ⟨by kernel_rfl, by (intro w hSw; (try dsimp only at hSw); go_simp)⟩) hHeld ?_
      try simp only [Act.put, List.getElem_toArray, List.getElem_cons_succ, List.getElem_cons_zero, List.setIfInBounds_toArray, List.set_cons_zero, List.set_cons_succ]
      refine wpAnyH_take (i := 4) (v := .agg #[.bool sb, .slice Ab nb cb, .slice Bb mb eb]) rfl (by kernel_rfl) (by kernel_rfl) (by kernel_rfl) (fun _ _ _ h => h) (Or.inl ⟨by kernel_rfl, by (intro w hSw; (try dsimp only at hSw); go_simp)⟩) hHeld ?_
      try simp only [Act.put, List.getElem_toArray, List.getElem_cons_succ, List.getElem_cons_zero, List.setIfInBounds_toArray, List.set_cons_zero, List.set_cons_succ]
      refine wpAnyH_ready (rs := [2]) (by kernel_rfl) (by simp) ?_
      refine AllReadyH.cons rfl (fun K hK => ?_) AllReadyH.nil
      go_simp
      refine (mulQ _ _ _ _ 12 _ ha hb (by decide)).mono ?_
      rintro e v2 ⟨_, rfl, q2, hc2⟩
      have q2 := q2.le (show _ ≤ 100 by decide)
      obtain ⟨s2, A2, m2, c2, B2, n2, d2, rfl⟩ := q2.form
      have hB := hB.trans (hc2.mono hB.size)
      have ha := ha.below hc2
      have hb := hb.below hc2
      have q1 := q1.below hc2
      go_wp2_with fail
      refine hK.out _ _ ?_ (fun hHeld => ?_)
      · exact hKeep.out _ hB
      clear hK K
      try simp only [Act.put, List.getElem_toArray, List.getElem_cons_succ, List.getElem_cons_zero, List.setIfInBounds_toArray, List.set_cons_zero, List.set_cons_succ]
      refine wpAnyH_ready (rs := [5]) (by kernel_rfl) (by simp) ?_
      refine AllReadyH.cons rfl (fun K hK => ?_) AllReadyH.nil
      go_simp
      refine (refMulQ _ _ _ _ 12 12 _ ha hb (by decide)).mono ?_
      rintro e v3 ⟨_, rfl, q3, hc3⟩
      have q3 := q3.le (show _ ≤ 27 by decide)
      obtain ⟨s3, A3, m3, c3, B3, n3, d3, rfl⟩ := q3.form
      have hB := hB.trans (hc3.mono hB.size)
      have ha := ha.below hc3
      have hb := hb.below hc3
      have q1 := q1.below hc3
      have q2 := q2.below hc3
      go_wp2_with fail
      refine hK.out _ _ ?_ (fun hHeld => ?_)
      · exact hKeep.out _ hB
      clear hK K
      try simp only [Act.put, List.getElem_toArray, List.getElem_cons_succ, List.getElem_cons_zero, List.setIfInBounds_toArray, List.set_cons_zero, List.set_cons_succ]
      refine wpAnyH_ready (rs := [6]) (by kernel_rfl) (by simp) ?_
      refine AllReadyH.cons rfl (fun K hK => ?_) AllReadyH.nil
      go_simp
      refine (sameT _ _ _ _ _ _ _ q2 q3 (rfl)).mono ?_
      rintro e v4 ⟨rfl, hc4⟩
      have hB := hB.trans (hc4.mono hB.size)
      have ha := ha.below hc4
      have hb := hb.below hc4
      have q1 := q1.below hc4
      have q2 := q2.below hc4
      have q3 := q3.below hc4
      go_wp2_with fail
      refine hK.out _ _ ?_ (fun hHeld => ?_)
      · exact hKeep.out _ hB
      clear hK K
      try simp only [Act.put, List.getElem_toArray, List.getElem_cons_succ, List.getElem_cons_zero, List.setIfInBounds_toArray, List.set_cons_zero, List.set_cons_succ]
      refine wpAnyH_take (i := 7) (v := .bool false) rfl (by kernel_rfl) (by kernel_rfl) (by kernel_rfl) (fun _ _ _ h => h) (Or.inl ⟨by kernel_rfl, by (intro w hSw; (try dsimp only at hSw); go_simp)⟩) hHeld ?_
      try simp only [Act.put, List.getElem_toArray, List.getElem_cons_succ, List.getElem_cons_zero, List.setIfInBounds_toArray, List.set_cons_zero, List.set_cons_succ]
      refine wpAnyH_done (by kernel_rfl) ?_ _
      have hw := hw.trans (hB.mono hw.size)
      have Xa := Xa.below hB
      have Xb := Xb.below hB
      have Xd := Xd.below hB
      have kb0 : v4.cell? ⟨w.heap.size + 1, 0, none⟩ = some (.bool sb) := Xb.cell 0
      have kb1 : v4.cell? ⟨w.heap.size + 1, 1, none⟩ = some (.slice Ab nb cb) := Xb.cell 1
      have kb2 : v4.cell? ⟨w.heap.size + 1, 2, none⟩ = some (.slice Bb mb eb) := Xb.cell 2
      go_wp2_with fail
      refine (refSignQ _ qb 12 _ hb).mono ?_
      rintro e v5 ⟨rfl, hc5⟩
      rw [qs_zero.2 hq.out]
      have hw := hw.trans (hc5.mono hw.size)
      have hB := Below.refl v5.heap.size v5
      have ha := ha.below hc5
      have hb := hb.below hc5
      have q1 := q1.below hc5
      have q2 := q2.below hc5
      have q3 := q3.below hc5
      have Xa := Xa.below hc5
      have Xb := Xb.below hc5
      have Xd := Xd.below hc5
      clear kb0 kb1 kb2
      have kd0 : v5.cell? ⟨gd, 0, none⟩ = some (.bool s1) := Xd.cell 0
      have kd1 : v5.cell? ⟨gd, 1, none⟩ = some (.slice A1 m1 c1) := Xd.cell 1
      have kd2 : v5.cell? ⟨gd, 2, none⟩ = some (.slice B1 n1 d1) := Xd.cell 2
      go_wp2_with fail
      refine (sameT _ _ _ _ _ _ _ q1 (FQ.zero _) rfl).mono ?_
      rintro e v6 ⟨rfl, hc6⟩
      have hw := hw.trans (hc6.mono hw.size)
      have hB := Below.refl v6.heap.size v6
      have ha := ha.below hc6
      have hb := hb.below hc6
      have q1 := q1.below hc6
      have q2 := q2.below hc6
      have q3 := q3.below hc6
      have Xa := Xa.below hc6
      have Xb := Xb.below hc6
      have Xd := Xd.below hc6
      go_wp2_with fail
      refine (known_true _ (hG.out.below hw)).mono ?_
      rintro e v7 ⟨rfl, hc7⟩
      have hw := hw.trans (hc7.mono hw.size)
      have hB := Below.refl v7.heap.size v7
      have ha := ha.below hc7
      have hb := hb.below hc7
      have q1 := q1.below hc7
      have q2 := q2.below hc7
      have q3 := q3.below hc7
      have Xa := Xa.below hc7
      have Xb := Xb.below hc7
      have Xd := Xd.below hc7
      go_wp2
      go_ret
      exact ⟨rfl, hw⟩
    · have hq := Lib.hid hq
      clear ka0 ka1 ka2 kb0 kb1 kb2
      refine (divQ _ _ qa qb 12 _ ha hb (by decide)).mono ?_
      rintro e v1 ⟨_, hdz⟩
      obtain ⟨_, rfl, q1, hc1⟩ := hdz hq.out
      have hw := hw.trans (hc1.mono hw.size)
      have hB := Below.refl v1.heap.size v1
      have ha := ha.below hc1
      have hb := hb.below hc1
      have Xa := Xa.below hc1
      have Xb := Xb.below hc1
      have q1 := q1.le (show _ ≤ 100 by decide)
      obtain ⟨s1, A1, m1, c1, B1, n1, d1, rfl⟩ := q1.form
      clear hdz
      have had := (Below.refl v1.heap.size v1).alloc (Nat.le_refl _) (.cells #[.bool s1, .slice A1 m1 c1, .slice B1 n1 d1] 24)
      have Xd := Blk.new v1 24 #[.bool s1, .slice A1 m1 c1, .slice B1 n1 d1]
      have hw := hw.alloc hw.size (.cells #[.bool s1, .slice A1 m1 c1, .slice B1 n1 d1] 24)
      have ha := ha.below had
      have hb := hb.below had
      have q1 := q1.below had
      have Xa := Xa.below had
      have Xb := Xb.below had
      clear had
      go_upto_region 4 with fail
      generalize v1.heap.size = gd at *
      generalize v1.alloc (.cells #[.bool s1, .slice A1 m1 c1, .slice B1 n1 d1] 24) = ud at *
      have ka_0 : ud.cell? ⟨w.heap.size, 0, none⟩ = some (.bool sa) := Xa.cell 0
      have ka_1 : ud.cell? ⟨w.heap.size, 1, none⟩ = some (.slice Aa na ca) := Xa.cell 1
      have ka_2 : ud.cell? ⟨w.heap.size, 2, none⟩ = some (.slice Ba ma ea) := Xa.cell 2
      have kb_0 : ud.cell? ⟨w.heap.size + 1, 0, none⟩ = some (.bool sb) := Xb.cell 0
      have kb_1 : ud.cell? ⟨w.heap.size + 1, 1, none⟩ = some (.slice Ab nb cb) := Xb.cell 1
      have kb_2 : ud.cell? ⟨w.heap.size + 1, 2, none⟩ = some (.slice Bb mb eb) := Xb.cell 2
      have kd_0 : ud.cell? ⟨gd, 0, none⟩ = some (.bool s1) := Xd.cell 0
      have kd_1 : ud.cell? ⟨gd, 1, none⟩ = some (.slice A1 m1 c1) := Xd.cell 1
      have kd_2 : ud.cell? ⟨gd, 2, none⟩ = some (.slice B1 n1 d1) := Xd.cell 2
      have hKeep := Lib.hid (fun (wx : World) (hb : Below ud.heap.size ud wx) => (⟨(hb.cell (World.block_lt_of_cell? _ _ ka_0)).trans ka_0, (hb.cell (World.block_lt_of_cell? _ _ ka_1)).trans ka_1, (hb.cell (World.block_lt_of_cell? _ _ ka_2)).trans ka_2, (hb.cell (World.block_lt_of_cell? _ _ kb_0)).trans kb_0, (hb.cell (World.block_lt_of_cell? _ _ kb_1)).trans kb_1, (hb.cell (World.block_lt_of_cell? _ _ kb_2)).trans kb_2, (hb.cell (World.block_lt_of_cell? _ _ kd_0)).trans kd_0, (hb.cell (World.block_lt_of_cell? _ _ kd_1)).trans kd_1, (hb.cell (World.block_lt_of_cell? _ _ kd_2)).trans kd_2⟩ : wx.cell? ⟨w.heap.size, 0, none⟩ = some (.bool sa) ∧ wx.cell? ⟨w.heap.size, 1, none⟩ = some (.slice Aa na ca) ∧ wx.cell? ⟨w.heap.size, 2, none⟩ = some (.slice Ba ma ea) ∧ wx.cell? ⟨w.heap.size + 1, 0, none⟩ = some (.bool sb) ∧ wx.cell? ⟨w.heap.size + 1, 1, none⟩ = some (.slice Ab nb cb) ∧ wx.cell? ⟨w.heap.size + 1, 2, none⟩ = some (.slice Bb mb eb) ∧ wx.cell? ⟨gd, 0, none⟩ = some (.bool s1) ∧ wx.cell? ⟨gd, 1, none⟩ = some (.slice A1 m1 c1) ∧ wx.cell? ⟨gd, 2, none⟩ = some (.slice B1 n1 d1)))
      clear ka_0 ka_1 ka_2 kb_0 kb_1 kb_2 kd_0 kd_1 kd_2
      have hB := bel_drewN (Below.refl ud.heap.size ud) 1
      have ha := ha.below hB
      have hb := hb.below hB
      have q1 := q1.below hB
      refine wp_region_held_drew (S := (fun wx => wx.cell? ⟨w.heap.size, 0, none⟩ = some (.bool sa) ∧ wx.cell? ⟨w.heap.size, 1, none⟩ = some (.slice Aa na ca) ∧ wx.cell? ⟨w.heap.size, 2, none⟩ = some (.slice Ba ma ea) ∧ wx.cell? ⟨w.heap.size + 1, 0, none⟩ = some (.bool sb) ∧ wx.cell? ⟨w.heap.size + 1, 1, none⟩ = some (.slice Ab nb cb) ∧ wx.cell? ⟨w.heap.size + 1, 2, none⟩ = some (.slice Bb mb eb) ∧ wx.cell? ⟨gd, 0, none⟩ = some (.bool s1) ∧ wx.cell? ⟨gd, 1, none⟩ = some (.slice A1 m1 c1) ∧ wx.cell? ⟨gd, 2, none⟩ = some (.slice B1 n1 d1))) (by kernel_rfl) (hKeep.out _ hB) (fun hHeld => ?_)
      refine wpAnyH_take (i := 0) (v := .agg #[.bool sa, .slice Aa na ca, .slice Ba ma ea]) rfl (by kernel_rfl) (by kernel_rfl) (by kernel_rfl) (fun _ _ _ h => h) (Or.inl ⟨by kernel_rfl, by (intro w hSw; (try dsimp only at hSw); go_simp)⟩) hHeld ?_
      try simp only [Act.put, List.getElem_toArray, List.getElem_cons_succ, List.getElem_cons_zero, List.setIfInBounds_toArray, List.set_cons_zero, List.set_cons_succ]
      refine wpAnyH_take (i := 1) (v := .agg #[.bool sb, .slice Ab nb cb, .slice Bb mb eb]) rfl (by kernel_rfl) (by kernel_rfl) (by kernel_rfl) (fun _ _ _ h => h) (Or.inl ⟨by kernel_rfl, by (intro w hSw; (try dsimp only at hSw); go_simp)⟩) hHeld ?_
      try simp only [Act.put, List.getElem_toArray, List.getElem_cons_succ, List.getElem_cons_zero, List.setIfInBounds_toArray, List.set_cons_zero, List.set_cons_succ]
      refine wpAnyH_take (i := 3) (v := .agg #[.bool sa, .slice Aa na ca, .slice Ba ma ea]) rfl (by kernel_rfl) (by kernel_rfl) (by kernel_rfl) (fun _ _ _ h => h) (Or.inl ⟨by kernel_rfl, by (intro w hSw; (try dsimp only at hSw); go_simp)⟩) hHeld ?_
      try simp only [Act.put, List.getElem_toArray, List.getElem_cons_succ, List.getElem_cons_zero, List.setIfInBounds_toArray, List.set_cons_zero, List.set_cons_succ]
      refine wpAnyH_take (i := 4) (v := .agg #[.bool sb, .slice Ab nb cb, .slice Bb mb eb]) rfl (by kernel_rfl) (by kernel_rfl) (by kernel_rfl) (fun _ _ _ h => h) (Or.inl ⟨by kernel_rfl, by (intro w hSw; (try dsimp only at hSw); go_simp)⟩) hHeld ?_
      try simp only [Act.put, List.getElem_toArray, List.getElem_cons_succ, List.getElem_cons_zero, List.setIfInBounds_toArray, List.set_cons_zero, List.set_cons_succ]
      refine wpAnyH_ready (rs := [2]) (by kernel_rfl) (by simp) ?_
      refine AllReadyH.cons rfl (fun K hK => ?_) AllReadyH.nil
      go_simp
      refine (mulQ _ _ _ _ 12 _ ha hb (by decide)).mono ?_
      rintro e v2 ⟨_, rfl, q2, hc2⟩
      have q2 := q2.le (show _ ≤ 100 by decide)
      obtain ⟨s2, A2, m2, c2, B2, n2, d2, rfl⟩ := q2.form
      have hB := hB.trans (hc2.mono hB.size)
      have ha := ha.below hc2
      have hb := hb.below hc2
      have q1 := q1.below hc2
      go_wp2_with fail
      refine hK.out _ _ ?_ (fun hHeld => ?_)
      · exact hKeep.out _ hB
      clear hK K
      try simp only [Act.put, List.getElem_toArray, List.getElem_cons_succ, List.getElem_cons_zero, List.setIfInBounds_toArray, List.set_cons_zero, List.set_cons_succ]
      refine wpAnyH_ready (rs := [5]) (by kernel_rfl) (by simp) ?_
      refine AllReadyH.cons rfl (fun K hK => ?_) AllReadyH.nil
      go_simp
      refine (refMulQ _ _ _ _ 12 12 _ ha hb (by decide)).mono ?_
      rintro e v3 ⟨_, rfl, q3, hc3⟩
      have q3 := q3.le (show _ ≤ 27 by decide)
      obtain ⟨s3, A3, m3, c3, B3, n3, d3, rfl⟩ := q3.form
      have hB := hB.trans (hc3.mono hB.size)
      have ha := ha.below hc3
      have hb := hb.below hc3
      have q1 := q1.below hc3
      have q2 := q2.below hc3
      go_wp2_with fail
      refine hK.out _ _ ?_ (fun hHeld => ?_)
      · exact hKeep.out _ hB
      clear hK K
      try simp only [Act.put, List.getElem_toArray, List.getElem_cons_succ, List.getElem_cons_zero, List.setIfInBounds_toArray, List.set_cons_zero, List.set_cons_succ]
      refine wpAnyH_ready (rs := [6]) (by kernel_rfl) (by simp) ?_
      refine AllReadyH.cons rfl (fun K hK => ?_) AllReadyH.nil
      go_simp
      refine (sameT _ _ _ _ _ _ _ q2 q3 (rfl)).mono ?_
      rintro e v4 ⟨rfl, hc4⟩
      have hB := hB.trans (hc4.mono hB.size)
      have ha := ha.below hc4
      have hb := hb.below hc4
      have q1 := q1.below hc4
      have q2 := q2.below hc4
      have q3 := q3.below hc4
      go_wp2_with fail
      refine hK.out _ _ ?_ (fun hHeld => ?_)
      · exact hKeep.out _ hB
      clear hK K
      try simp only [Act.put, List.getElem_toArray, List.getElem_cons_succ, List.getElem_cons_zero, List.setIfInBounds_toArray, List.set_cons_zero, List.set_cons_succ]
      refine wpAnyH_take (i := 7) (v := .bool false) rfl (by kernel_rfl) (by kernel_rfl) (by kernel_rfl) (fun _ _ _ h => h) (Or.inl ⟨by kernel_rfl, by (intro w hSw; (try dsimp only at hSw); go_simp)⟩) hHeld ?_
      try simp only [Act.put, List.getElem_toArray, List.getElem_cons_succ, List.getElem_cons_zero, List.setIfInBounds_toArray, List.set_cons_zero, List.set_cons_succ]
      refine wpAnyH_done (by kernel_rfl) ?_ _
      have hw := hw.trans (hB.mono hw.size)
      have Xa := Xa.below hB
      have Xb := Xb.below hB
      have Xd := Xd.below hB
      have kb0 : v4.cell? ⟨w.heap.size + 1, 0, none⟩ = some (.bool sb) := Xb.cell 0
      have kb1 : v4.cell? ⟨w.heap.size + 1, 1, none⟩ = some (.slice Ab nb cb) := Xb.cell 1
      have kb2 : v4.cell? ⟨w.heap.size + 1, 2, none⟩ = some (.slice Bb mb eb) := Xb.cell 2
      go_wp2_with fail
      have hsn : ((qs qb : Int) == 0) = false := by rw [beq_eq_false_iff_ne]; exact fun h => hq.out (qs_zero.1 h)
      obtain ⟨y, hy⟩ : ∃ y, qs qb = y := ⟨_, rfl⟩
      rw [hy] at hsn
      have hy := Lib.hid hy
      refine (refSignQ _ qb 12 _ hb).mono ?_
      rintro e v5 ⟨rfl, hc5⟩
      rw [hy.out]
      have hw := hw.trans (hc5.mono hw.size)
      have hB := Below.refl v5.heap.size v5
      have ha := ha.below hc5
      have hb := hb.below hc5
      have q1 := q1.below hc5
      have q2 := q2.below hc5
      have q3 := q3.below hc5
      have Xa := Xa.below hc5
      have Xb := Xb.below hc5
      have Xd := Xd.below hc5
      clear kb0 kb1 kb2
      go_upto_region 8 with fail
      have ka_0 : v5.cell? ⟨w.heap.size, 0, none⟩ = some (.bool sa) := Xa.cell 0
      have ka_1 : v5.cell? ⟨w.heap.size, 1, none⟩ = some (.slice Aa na ca) := Xa.cell 1
      have ka_2 : v5.cell? ⟨w.heap.size, 2, none⟩ = some (.slice Ba ma ea) := Xa.cell 2
      have kb_0 : v5.cell? ⟨w.heap.size + 1, 0, none⟩ = some (.bool sb) := Xb.cell 0
      have kb_1 : v5.cell? ⟨w.heap.size + 1, 1, none⟩ = some (.slice Ab nb cb) := Xb.cell 1
      have kb_2 : v5.cell? ⟨w.heap.size + 1, 2, none⟩ = some (.slice Bb mb eb) := Xb.cell 2
      have kd_0 : v5.cell? ⟨gd, 0, none⟩ = some (.bool s1) := Xd.cell 0
      have kd_1 : v5.cell? ⟨gd, 1, none⟩ = some (.slice A1 m1 c1) := Xd.cell 1
      have kd_2 : v5.cell? ⟨gd, 2, none⟩ = some (.slice B1 n1 d1) := Xd.cell 2
      have hKeep := Lib.hid (fun (wx : World) (hb : Below v5.heap.size v5 wx) => (⟨(hb.cell (World.block_lt_of_cell? _ _ ka_0)).trans ka_0, (hb.cell (World.block_lt_of_cell? _ _ ka_1)).trans ka_1, (hb.cell (World.block_lt_of_cell? _ _ ka_2)).trans ka_2, (hb.cell (World.block_lt_of_cell? _ _ kb_0)).trans kb_0, (hb.cell (World.block_lt_of_cell? _ _ kb_1)).trans kb_1, (hb.cell (World.block_lt_of_cell? _ _ kb_2)).trans kb_2, (hb.cell (World.block_lt_of_cell? _ _ kd_0)).trans kd_0, (hb.cell (World.block_lt_of_cell? _ _ kd_1)).trans kd_1, (hb.cell (World.block_lt_of_cell? _ _ kd_2)).trans kd_2⟩ : wx.cell? ⟨w.heap.size, 0, none⟩ = some (.bool sa) ∧ wx.cell? ⟨w.heap.size, 1, none⟩ = some (.slice Aa na ca) ∧ wx.cell? ⟨w.heap.size, 2, none⟩ = some (.slice Ba ma ea) ∧ wx.cell? ⟨w.heap.size + 1, 0, none⟩ = some (.bool sb) ∧ wx.cell? ⟨w.heap.size + 1, 1, none⟩ = some (.slice Ab nb cb) ∧ wx.cell? ⟨w.heap.size + 1, 2, none⟩ = some (.slice Bb mb eb) ∧ wx.cell? ⟨gd, 0, none⟩ = some (.bool s1) ∧ wx.cell? ⟨gd, 1, none⟩ = some (.slice A1 m1 c1) ∧ wx.cell? ⟨gd, 2, none⟩ = some (.slice B1 n1 d1)))
      clear ka_0 ka_1 ka_2 kb_0 kb_1 kb_2 kd_0 kd_1 kd_2
      have hB := bel_drewN (Below.refl v5.heap.size v5) 1
      have ha := ha.below hB
      have hb := hb.below hB
      have q1 := q1.below hB
      have q2 := q2.below hB
      have q3 := q3.below hB
      refine wp_region_held_drew (S := (fun wx => wx.cell? ⟨w.heap.size, 0, none⟩ = some (.bool sa) ∧ wx.cell? ⟨w.heap.size, 1, none⟩ = some (.slice Aa na ca) ∧ wx.cell? ⟨w.heap.size, 2, none⟩ = some (.slice Ba ma ea) ∧ wx.cell? ⟨w.heap.size + 1, 0, none⟩ = some (.bool sb) ∧ wx.cell? ⟨w.heap.size + 1, 1, none⟩ = some (.slice Ab nb cb) ∧ wx.cell? ⟨w.heap.size + 1, 2, none⟩ = some (.slice Bb mb eb) ∧ wx.cell? ⟨gd, 0, none⟩ = some (.bool s1) ∧ wx.cell? ⟨gd, 1, none⟩ = some (.slice A1 m1 c1) ∧ wx.cell? ⟨gd, 2, none⟩ = some (.slice B1 n1 d1))) (by kernel_rfl) (hKeep.out _ hB) (fun hHeld => ?_)
      refine wpAnyH_take (i := 0) (v := .int .i64 0) rfl (by kernel_rfl) (by kernel_rfl) (by kernel_rfl) (fun _ _ _ h => h) (Or.inl ⟨by kernel_rfl, by (intro w hSw; (try dsimp only at hSw); go_simp)⟩) hHeld ?_
      try simp only [Act.put, List.getElem_toArray, List.getElem_cons_succ, List.getElem_cons_zero, List.setIfInBounds_toArray, List.set_cons_zero, List.set_cons_succ]
      refine wpAnyH_take (i := 1) (v := .bool true) rfl (by kernel_rfl) (by kernel_rfl) (by kernel_rfl) (fun _ _ _ h => h) (Or.inl ⟨by kernel_rfl, by (intro w hSw; (try dsimp only at hSw); go_simp)⟩) hHeld ?_
      try simp only [Act.put, List.getElem_toArray, List.getElem_cons_succ, List.getElem_cons_zero, List.setIfInBounds_toArray, List.set_cons_zero, List.set_cons_succ]
      refine wpAnyH_take (i := 2) (v := .bool true) rfl (by kernel_rfl) (by kernel_rfl) (by kernel_rfl) (fun _ _ _ h => h) (Or.inl ⟨by kernel_rfl, by (intro w hSw; (try dsimp only at hSw); go_simp)⟩) hHeld ?_
      try simp only [Act.put, List.getElem_toArray, List.getElem_cons_succ, List.getElem_cons_zero, List.setIfInBounds_toArray, List.set_cons_zero, List.set_cons_succ]
      refine wpAnyH_take (i := 3) (v := .agg #[.bool s1, .slice A1 m1 c1, .slice B1 n1 d1]) rfl (by kernel_rfl) (by kernel_rfl) (by kernel_rfl) (fun _ _ _ h => h) (Or.inl ⟨by kernel_rfl, by (intro w hSw; (try dsimp only at hSw); go_simp)⟩) hHeld ?_
      try simp only [Act.put, List.getElem_toArray, List.getElem_cons_succ, List.getElem_cons_zero, List.setIfInBounds_toArray, List.set_cons_zero, List.set_cons_succ]
      refine wpAnyH_take (i := 4) (v := .agg #[.bool sa, .slice Aa na ca, .slice Ba ma ea]) rfl (by kernel_rfl) (by kernel_rfl) (by kernel_rfl) (fun _ _ _ h => h) (Or.inl ⟨by kernel_rfl, by (intro w hSw; (try dsimp only at hSw); go_simp)⟩) hHeld ?_
      try simp only [Act.put, List.getElem_toArray, List.getElem_cons_succ, List.getElem_cons_zero, List.setIfInBounds_toArray, List.set_cons_zero, List.set_cons_succ]
      refine wpAnyH_take (i := 5) (v := .agg #[.bool sb, .slice Ab nb cb, .slice Bb mb eb]) rfl (by kernel_rfl) (by kernel_rfl) (by kernel_rfl) (fun _ _ _ h => h) (Or.inl ⟨by kernel_rfl, by (intro w hSw; (try dsimp only at hSw); go_simp)⟩) hHeld ?_
      try simp only [Act.put, List.getElem_toArray, List.getElem_cons_succ, List.getElem_cons_zero, List.setIfInBounds_toArray, List.set_cons_zero, List.set_cons_succ]
      refine wpAnyH_ready (rs := [6]) (by kernel_rfl) (by simp) ?_
      refine AllReadyH.cons rfl (fun K hK => ?_) AllReadyH.nil
      go_simp
      refine (refDivQ _ _ qa qb 12 12 _ ha hb (by decide) hq.out).mono ?_
      rintro e v6 ⟨_, rfl, q6, hc6⟩
      have q6 := q6.le (show _ ≤ 29 by decide)
      obtain ⟨s6, A6, m6, c6, B6, n6, d6, rfl⟩ := q6.form
      have hB := hB.trans (hc6.mono hB.size)
      have ha := ha.below hc6
      have hb := hb.below hc6
      have q1 := q1.below hc6
      have q2 := q2.below hc6
      have q3 := q3.below hc6
      go_wp2_with fail
      refine hK.out _ _ ?_ (fun hHeld => ?_)
      · exact hKeep.out _ hB
      clear hK K
      try simp only [Act.put, List.getElem_toArray, List.getElem_cons_succ, List.getElem_cons_zero, List.setIfInBounds_toArray, List.set_cons_zero, List.set_cons_succ]
      refine wpAnyH_ready (rs := [7]) (by kernel_rfl) (by simp) ?_
      refine AllReadyH.cons rfl (fun K hK => ?_) AllReadyH.nil
      go_simp
      refine (sameT _ _ _ _ _ _ _ q1 q6 (rfl)).mono ?_
      rintro e v7 ⟨rfl, hc7⟩
      have hB := hB.trans (hc7.mono hB.size)
      have ha := ha.below hc7
      have hb := hb.below hc7
      have q1 := q1.below hc7
      have q2 := q2.below hc7
      have q3 := q3.below hc7
      have q6 := q6.below hc7
      go_wp2_with fail
      refine hK.out _ _ ?_ (fun hHeld => ?_)
      · exact hKeep.out _ hB
      clear hK K
      try simp only [Act.put, List.getElem_toArray, List.getElem_cons_succ, List.getElem_cons_zero, List.setIfInBounds_toArray, List.set_cons_zero, List.set_cons_succ]
      refine wpAnyH_take (i := 8) (v := .bool true) rfl (by kernel_rfl) (by kernel_rfl) (by kernel_rfl) (fun _ _ _ h => h) (Or.inl ⟨by kernel_rfl, by (intro w hSw; (try dsimp only at hSw); go_simp)⟩) hHeld ?_
      try simp only [Act.put, List.getElem_toArray, List.getElem_cons_succ, List.getElem_cons_zero, List.setIfInBounds_toArray, List.set_cons_zero, List.set_cons_succ]
      refine wpAnyH_take (i := 9) (v := .bool true) rfl (by kernel_rfl) (by kernel_rfl) (by kernel_rfl) (fun _ _ _ h => h) (Or.inl ⟨by kernel_rfl, by (intro w hSw; (try dsimp only at hSw); go_simp)⟩) hHeld ?_
      try simp only [Act.put, List.getElem_toArray, List.getElem_cons_succ, List.getElem_cons_zero, List.setIfInBounds_toArray, List.set_cons_zero, List.set_cons_succ]
      refine wpAnyH_ready (rs := [10]) (by kernel_rfl) (by simp) ?_
      refine AllReadyH.cons rfl (fun K hK => ?_) AllReadyH.nil
      go_simp
      refine (known_true _ (hG.out.below (hw.trans (hB.mono hw.size)))).mono ?_
      rintro e v8 ⟨rfl, hc8⟩
      have hB := hB.trans (hc8.mono hB.size)
      have ha := ha.below hc8
      have hb := hb.below hc8
      have q1 := q1.below hc8
      have q2 := q2.below hc8
      have q3 := q3.below hc8
      have q6 := q6.below hc8
      go_wp2_with fail
      refine hK.out _ _ ?_ (fun hHeld => ?_)
      · exact hKeep.out _ hB
      clear hK K
      try simp only [Act.put, List.getElem_toArray, List.getElem_cons_succ, List.getElem_cons_zero, List.setIfInBounds_toArray, List.set_cons_zero, List.set_cons_succ]
      refine wpAnyH_take (i := 11) (v := .bool true) rfl (by kernel_rfl) (by kernel_rfl) (by kernel_rfl) (fun _ _ _ h => h) (Or.inl ⟨by kernel_rfl, by (intro w hSw; (try dsimp only at hSw); go_simp)⟩) hHeld ?_
      try simp only [Act.put, List.getElem_toArray, List.getElem_cons_succ, List.getElem_cons_zero, List.setIfInBounds_toArray, List.set_cons_zero, List.set_cons_succ]
      refine wpAnyH_take (i := 12) (v := .bool true) rfl (by kernel_rfl) (by kernel_rfl) (by kernel_rfl) (fun _ _ _ h => h) (Or.inl ⟨by kernel_rfl, by (intro w hSw; (try dsimp only at hSw); go_simp)⟩) hHeld ?_
      try simp only [Act.put, List.getElem_toArray, List.getElem_cons_succ, List.getElem_cons_zero, List.setIfInBounds_toArray, List.set_cons_zero, List.set_cons_succ]
      refine wpAnyH_done (by kernel_rfl) ?_ _
      have hw := hw.trans (hB.mono hw.size)
      have Xa := Xa.below hB
      have Xb := Xb.below hB
      have Xd := Xd.below hB
      go_wp2
      go_ret
      exact ⟨rfl, hw⟩
end Go.Proofs.YtanaljnclajkdaaGreatDoor.Fr
