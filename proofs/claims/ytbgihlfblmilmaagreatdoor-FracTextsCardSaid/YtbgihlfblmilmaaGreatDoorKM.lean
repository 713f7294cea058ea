/- FracTexts: a number as a string, and read back. -/
import Derived.Test.YtbgihlfblmilmaaGreatDoorJK
import Derived.Test.YtbgihlfblmilmaaGreatDoorLD
import Derived.Test.YtbgihlfblmilmaaGreatDoorHC
import Derived.Deep.RegionHeld3
namespace Go.Proofs.YtbgihlfblmilmaaGreatDoor.Fr
open Go.RowKit Num

set_option linter.unusedSimpArgs false in
set_option maxHeartbeats 25600000 in
set_option maxRecDepth 100000 in
theorem texts_law (sa : Bool) (Aa : Option Addr) (na ca : Nat) (Ba : Option Addr) (ma ea : Nat) (xa ya : List Nat) (w : World) (hxa : Dg .u32 w Aa na ca xa) (hya : Dg .u32 w Ba ma ea ya) (hG : Gl w) :
    Calls Tryz.prog 16 #[.agg #[.bool sa, .slice Aa na ca, .slice Ba ma ea]] w fun e w' => e = .returned (.bool true) ∧ Below w.heap.size w w' := by
  have hG := Lib.hid hG
  have Xa := Blk.new w 24 #[.bool sa, .slice Aa na ca, .slice Ba ma ea]
  have hw := ((Below.refl w.heap.size w).alloc (Nat.le_refl _) (.cells #[.bool sa, .slice Aa na ca, .slice Ba ma ea] 24))
  have hxa := hxa.below hw
  have hya := hya.below hw
  go_enter Tryz.func16, Tryz.ntmps16
  go_upto_region 1 with fail
  generalize (w.alloc (.cells #[.bool sa, .slice Aa na ca, .slice Ba ma ea] 24)) = w1 at *
  have ka0 : w1.cell? ⟨w.heap.size, 0, none⟩ = some (.bool sa) := Xa.cell 0
  have ka1 : w1.cell? ⟨w.heap.size, 1, none⟩ = some (.slice Aa na ca) := Xa.cell 1
  have ka2 : w1.cell? ⟨w.heap.size, 2, none⟩ = some (.slice Ba ma ea) := Xa.cell 2
  have hal := (Below.refl w1.heap.size w1).alloc (Nat.le_refl _) (.cells #[.bool sa, .slice Aa na ca, .slice Ba ma ea] 24)
  have hS := Sm.lit1 (Blk.new w1 24 #[.bool sa, .slice Aa na ca, .slice Ba ma ea])
  have hw := hw.alloc hw.size (.cells #[.bool sa, .slice Aa na ca, .slice Ba ma ea] 24)
  have Xa := Xa.below hal
  have hxa := hxa.below hal
  have hya := hya.below hal
  clear hal
  go_wp2_with fail
  generalize w1.heap.size = gl at *
  generalize w1.alloc (.cells #[.bool sa, .slice Aa na ca, .slice Ba ma ea] 24) = w2 at *
  clear ka0
  clear ka1
  clear ka2
  refine (smallL_any _ _ _ _ _ hS).mono ?_
  rintro e v0 ⟨b, rfl, hiff, rfl⟩
  cases b with
  | false =>
    clear hiff
    go_wp2_with fail
    refine (known_true _ (hG.out.below hw)).mono ?_
    rintro e v1 ⟨rfl, hc1⟩
    go_wp2
    go_ret
    exact ⟨rfl, hw.trans (hc1.mono hw.size)⟩
  | true =>
    obtain ⟨h1a, h2a⟩ := small1_of (hiff.1 rfl)
    obtain ⟨qa, ha⟩ : ∃ q, AF w2 (.agg #[.bool sa, .slice Aa na ca, .slice Ba ma ea]) q 12 := ⟨_, AF.of hxa hya h1a h2a⟩
    clear hiff hS hxa hya h1a h2a
    have hB := Below.refl w2.heap.size w2
    have ka0 : w2.cell? ⟨w.heap.size, 0, none⟩ = some (.bool sa) := Xa.cell 0
    have ka1 : w2.cell? ⟨w.heap.size, 1, none⟩ = some (.slice Aa na ca) := Xa.cell 1
    have ka2 : w2.cell? ⟨w.heap.size, 2, none⟩ = some (.slice Ba ma ea) := Xa.cell 2
    have hln0 := txt_len ha
    have hPt := Lib.hid (fun (W : World) (hg : Gl W) => ParseTextQ qa W (by omega) hg)
    obtain ⟨tx, htx0⟩ : ∃ t, txt qa = t := ⟨_, rfl⟩
    rw [htx0] at hPt hln0
    have htx := Lib.hid htx0
    clear htx0
    go_wp2_with fail
    clear ka0 ka1 ka2
    refine (TextQ _ qa 12 _ ha (by decide) (hG.out.below hw)).mono ?_
    rintro e v1 ⟨rfl, hc1⟩
    rw [htx.out]
    have hw := hw.trans (hc1.mono hw.size)
    have hB := Below.refl v1.heap.size v1
    have ha := ha.below hc1
    have Xa := Xa.below hc1
    go_wp2_with fail
    refine (hPt.out _ (hG.out.below hw)).mono ?_
    rintro e v2 ⟨_, rfl, q2, hc2⟩
    have hw := hw.trans (hc2.mono hw.size)
    have hB := Below.refl v2.heap.size v2
    have ha := ha.below hc2
    have Xa := Xa.below hc2
    clear hPt
    have q2 := q2.le (show _ ≤ 40002 by decide)
    obtain ⟨s2, A2, m2, c2, B2, n2, d2, rfl⟩ := q2.form
    have hab := (Below.refl v2.heap.size v2).alloc (Nat.le_refl _) (.cells #[.bool s2, .slice A2 m2 c2, .slice B2 n2 d2] 24)
    have Xb := Blk.new v2 24 #[.bool s2, .slice A2 m2 c2, .slice B2 n2 d2]
    have hw := hw.alloc hw.size (.cells #[.bool s2, .slice A2 m2 c2, .slice B2 n2 d2] 24)
    have ha := ha.below hab
    have q2 := q2.below hab
    have Xa := Xa.below hab
    clear hab
    go_upto_region 5 with fail
    generalize v2.heap.size = gb at *
    generalize v2.alloc (.cells #[.bool s2, .slice A2 m2 c2, .slice B2 n2 d2] 24) = ub at *
    have ka_0 : ub.cell? ⟨w.heap.size, 0, none⟩ = some (.bool sa) := Xa.cell 0
    have ka_1 : ub.cell? ⟨w.heap.size, 1, none⟩ = some (.slice Aa na ca) := Xa.cell 1
    have ka_2 : ub.cell? ⟨w.heap.size, 2, none⟩ = some (.slice Ba ma ea) := Xa.cell 2
    have kb_0 : ub.cell? ⟨gb, 0, none⟩ = some (.bool s2) := Xb.cell 0
    have kb_1 : ub.cell? ⟨gb, 1, none⟩ = some (.slice A2 m2 c2) := Xb.cell 1
    have kb_2 : ub.cell? ⟨gb, 2, none⟩ = some (.slice B2 n2 d2) := Xb.cell 2
    have hKeep := Lib.hid (fun (wx : World) (hb : Below ub.heap.size ub wx) => (⟨(hb.cell (World.block_lt_of_cell? _ _ ka_0)).trans ka_0, (hb.cell (World.block_lt_of_cell? _ _ ka_1)).trans ka_1, (hb.cell (World.block_lt_of_cell? _ _ ka_2)).trans ka_2, (hb.cell (World.block_lt_of_cell? _ _ kb_0)).trans kb_0, (hb.cell (World.block_lt_of_cell? _ _ kb_1)).trans kb_1, (hb.cell (World.block_lt_of_cell? _ _ kb_2)).trans kb_2⟩ : wx.cell? ⟨w.heap.size, 0, none⟩ = some (.bool sa) ∧ wx.cell? ⟨w.heap.size, 1, none⟩ = some (.slice Aa na ca) ∧ wx.cell? ⟨w.heap.size, 2, none⟩ = some (.slice Ba ma ea) ∧ wx.cell? ⟨gb, 0, none⟩ = some (.bool s2) ∧ wx.cell? ⟨gb, 1, none⟩ = some (.slice A2 m2 c2) ∧ wx.cell? ⟨gb, 2, none⟩ = some (.slice B2 n2 d2)))
    clear ka_0 ka_1 ka_2 kb_0 kb_1 kb_2
    have hB := bel_drewN (Below.refl ub.heap.size ub) 1
    have ha := ha.below hB
    have q2 := q2.below hB
    refine wp_region_held_drew (S := (fun wx => wx.cell? ⟨w.heap.size, 0, none⟩ = some (.bool sa) ∧ wx.cell? ⟨w.heap.size, 1, none⟩ = some (.slice Aa na ca) ∧ wx.cell? ⟨w.heap.size, 2, none⟩ = some (.slice Ba ma ea) ∧ wx.cell? ⟨gb, 0, none⟩ = some (.bool s2) ∧ wx.cell? ⟨gb, 1, none⟩ = some (.slice A2 m2 c2) ∧ wx.cell? ⟨gb, 2, none⟩ = some (.slice B2 n2 d2))) (by kernel_rfl) (hKeep.out _ hB) (fun hHeld => ?_)
    refine wpAnyH_take (i := 0) (v := .string ⟨tx.toArray⟩) rfl (by kernel_rfl) (by kernel_rfl) (by kernel_rfl) (fun _ _ _ h => h) (Or.inl ⟨by kernel_rfl, by (intro w hSw; (try dsimp only at hSw); go_simp)⟩) hHeld ?_
    try simp only [Act.put, List.getElem_toArray, List.getElem_cons_succ, List.getElem_cons_zero, List.setIfInBounds_toArray, List.set_cons_zero, List.set_cons_succ]
    refine wpAnyH_take (i := 1) (v := .agg #[.bool sa, .slice Aa na ca, .slice Ba ma ea]) rfl (by kernel_rfl) (by kernel_rfl) (by kernel_rfl) (fun _ _ _ h => h) (Or.inl ⟨by kernel_rfl, by (intro w hSw; (try dsimp only at hSw); go_simp)⟩) hHeld ?_
    try simp only [Act.put, List.getElem_toArray, List.getElem_cons_succ, List.getElem_cons_zero, List.setIfInBounds_toArray, List.set_cons_zero, List.set_cons_succ]
    refine wpAnyH_ready (rs := [2]) (by kernel_rfl) (by simp) ?_
    refine AllReadyH.cons rfl (fun K hK => ?_) AllReadyH.nil
    go_simp
    refine (refTextQ _ qa 12 _ ha (by decide)).mono ?_
    rintro e v3 ⟨rfl, hc3⟩
    rw [htx.out]
    have hB := hB.trans (hc3.mono hB.size)
    have ha := ha.below hc3
    have q2 := q2.below hc3
    go_wp2_with fail
    refine hK.out _ _ ?_ (fun hHeld => ?_)
    · exact hKeep.out _ hB
    clear hK K
    try simp only [Act.put, List.getElem_toArray, List.getElem_cons_succ, List.getElem_cons_zero, List.setIfInBounds_toArray, List.set_cons_zero, List.set_cons_succ]
    refine wpAnyH_take (i := 3) (v := .bool true) rfl (by kernel_rfl) (by kernel_rfl) (by kernel_rfl) (fun _ _ _ h => h) (Or.inl ⟨by kernel_rfl, by (intro w hSw; (try dsimp only at hSw); go_simp)⟩) hHeld ?_
    try simp only [Act.put, List.getElem_toArray, List.getElem_cons_succ, List.getElem_cons_zero, List.setIfInBounds_toArray, List.set_cons_zero, List.set_cons_succ]
    refine wpAnyH_take (i := 4) (v := .bool true) rfl (by kernel_rfl) (by kernel_rfl) (by kernel_rfl) (fun _ _ _ h => h) (Or.inl ⟨by kernel_rfl, by (intro w hSw; (try dsimp only at hSw); go_simp)⟩) hHeld ?_
    try simp only [Act.put, List.getElem_toArray, List.getElem_cons_succ, List.getElem_cons_zero, List.setIfInBounds_toArray, List.set_cons_zero, List.set_cons_succ]
    refine wpAnyH_take (i := 5) (v := .int .i64 0) rfl (by kernel_rfl) (by kernel_rfl) (by kernel_rfl) (fun _ _ _ h => h) (Or.inl ⟨by kernel_rfl, by (intro w hSw; (try dsimp only at hSw); go_simp)⟩) hHeld ?_
    try simp only [Act.put, List.getElem_toArray, List.getElem_cons_succ, List.getElem_cons_zero, List.setIfInBounds_toArray, List.set_cons_zero, List.set_cons_succ]
    refine wpAnyH_take (i := 6) (v := .bool true) rfl (by kernel_rfl) (by kernel_rfl) (by kernel_rfl) (fun _ _ _ h => h) (Or.inl ⟨by kernel_rfl, by (intro w hSw; (try dsimp only at hSw); go_simp)⟩) hHeld ?_
    try simp only [Act.put, List.getElem_toArray, List.getElem_cons_succ, List.getElem_cons_zero, List.setIfInBounds_toArray, List.set_cons_zero, List.set_cons_succ]
    refine wpAnyH_take (i := 7) (v := .bool true) rfl (by kernel_rfl) (by kernel_rfl) (by kernel_rfl) (fun _ _ _ h => h) (Or.inl ⟨by kernel_rfl, by (intro w hSw; (try dsimp only at hSw); go_simp)⟩) hHeld ?_
    try simp only [Act.put, List.getElem_toArray, List.getElem_cons_succ, List.getElem_cons_zero, List.setIfInBounds_toArray, List.set_cons_zero, List.set_cons_succ]
    refine wpAnyH_take (i := 8) (v := .bool true) rfl (by kernel_rfl) (by kernel_rfl) (by kernel_rfl) (fun _ _ _ h => h) (Or.inl ⟨by kernel_rfl, by (intro w hSw; (try dsimp only at hSw); go_simp)⟩) hHeld ?_
    try simp only [Act.put, List.getElem_toArray, List.getElem_cons_succ, List.getElem_cons_zero, List.setIfInBounds_toArray, List.set_cons_zero, List.set_cons_succ]
    refine wpAnyH_take (i := 9) (v := .agg #[.bool s2, .slice A2 m2 c2, .slice B2 n2 d2]) rfl (by kernel_rfl) (by kernel_rfl) (by kernel_rfl) (fun _ _ _ h => h) (Or.inl ⟨by kernel_rfl, by (intro w hSw; (try dsimp only at hSw); go_simp)⟩) hHeld ?_
    try simp only [Act.put, List.getElem_toArray, List.getElem_cons_succ, List.getElem_cons_zero, List.setIfInBounds_toArray, List.set_cons_zero, List.set_cons_succ]
    refine wpAnyH_take (i := 10) (v := .agg #[.bool sa, .slice Aa na ca, .slice Ba ma ea]) rfl (by kernel_rfl) (by kernel_rfl) (by kernel_rfl) (fun _ _ _ h => h) (Or.inl ⟨by kernel_rfl, by (intro w hSw; (try dsimp only at hSw); go_simp)⟩) hHeld ?_
    try simp only [Act.put, List.getElem_toArray, List.getElem_cons_succ, List.getElem_cons_zero, List.setIfInBounds_toArray, List.set_cons_zero, List.set_cons_succ]
    refine wpAnyH_ready (rs := [11]) (by kernel_rfl) (by simp) ?_
    refine AllReadyH.cons rfl (fun K hK => ?_) AllReadyH.nil
    go_simp
    refine (refCanonQ _ _ 12 _ ha (by decide)).mono ?_
    rintro e v4 ⟨_, rfl, q4, hc4⟩
    have q4 := q4.le (show _ ≤ 13 by decide)
    obtain ⟨s4, A4, m4, c4, B4, n4, d4, rfl⟩ := q4.form
    have hB := hB.trans (hc4.mono hB.size)
    have ha := ha.below hc4
    have q2 := q2.below hc4
    go_wp2_with fail
    refine hK.out _ _ ?_ (fun hHeld => ?_)
    · exact hKeep.out _ hB
    clear hK K
    try simp only [Act.put, List.getElem_toArray, List.getElem_cons_succ, List.getElem_cons_zero, List.setIfInBounds_toArray, List.set_cons_zero, List.set_cons_succ]
    refine wpAnyH_ready (rs := [12]) (by kernel_rfl) (by simp) ?_
    refine AllReadyH.cons rfl (fun K hK => ?_) AllReadyH.nil
    go_simp
    refine (sameT _ _ _ _ _ _ _ q2 q4 (rfl)).mono ?_
    rintro e v5 ⟨rfl, hc5⟩
    have hB := hB.trans (hc5.mono hB.size)
    have ha := ha.below hc5
    have q2 := q2.below hc5
    have q4 := q4.below hc5
    go_wp2_with fail
    refine hK.out _ _ ?_ (fun hHeld => ?_)
    · exact hKeep.out _ hB
    clear hK K
    try simp only [Act.put, List.getElem_toArray, List.getElem_cons_succ, List.getElem_cons_zero, List.setIfInBounds_toArray, List.set_cons_zero, List.set_cons_succ]
    refine wpAnyH_take (i := 13) (v := .bool true) rfl (by kernel_rfl) (by kernel_rfl) (by kernel_rfl) (fun _ _ _ h => h) (Or.inl ⟨by kernel_rfl, by (intro w hSw; (try dsimp only at hSw); go_simp)⟩) hHeld ?_
    try simp only [Act.put, List.getElem_toArray, List.getElem_cons_succ, List.getElem_cons_zero, List.setIfInBounds_toArray, List.set_cons_zero, List.set_cons_succ]
    refine wpAnyH_take (i := 14) (v := .bool true) rfl (by kernel_rfl) (by kernel_rfl) (by kernel_rfl) (fun _ _ _ h => h) (Or.inl ⟨by kernel_rfl, by (intro w hSw; (try dsimp only at hSw); go_simp)⟩) hHeld ?_
    try simp only [Act.put, List.getElem_toArray, List.getElem_cons_succ, List.getElem_cons_zero, List.setIfInBounds_toArray, List.set_cons_zero, List.set_cons_succ]
    refine wpAnyH_ready (rs := [15]) (by kernel_rfl) (by simp) ?_
    refine AllReadyH.cons rfl (fun K hK => ?_) AllReadyH.nil
    go_simp
    refine (known_true _ (hG.out.below (hw.trans (hB.mono hw.size)))).mono ?_
    rintro e v6 ⟨rfl, hc6⟩
    have hB := hB.trans (hc6.mono hB.size)
    have ha := ha.below hc6
    have q2 := q2.below hc6
    have q4 := q4.below hc6
    go_wp2_with fail
    refine hK.out _ _ ?_ (fun hHeld => ?_)
    · exact hKeep.out _ hB
    clear hK K
    try simp only [Act.put, List.getElem_toArray, List.getElem_cons_succ, List.getElem_cons_zero, List.setIfInBounds_toArray, List.set_cons_zero, List.set_cons_succ]
    refine wpAnyH_take (i := 16) (v := .bool true) rfl (by kernel_rfl) (by kernel_rfl) (by kernel_rfl) (fun _ _ _ h => h) (Or.inl ⟨by kernel_rfl, by (intro w hSw; (try dsimp only at hSw); go_simp)⟩) hHeld ?_
    try simp only [Act.put, List.getElem_toArray, List.getElem_cons_succ, List.getElem_cons_zero, List.setIfInBounds_toArray, List.set_cons_zero, List.set_cons_succ]
    refine wpAnyH_take (i := 17) (v := .bool true) rfl (by kernel_rfl) (by kernel_rfl) (by kernel_rfl) (fun _ _ _ h => h) (Or.inl ⟨by kernel_rfl, by (intro w hSw; (try dsimp only at hSw); go_simp)⟩) hHeld ?_
    try simp only [Act.put, List.getElem_toArray, List.getElem_cons_succ, List.getElem_cons_zero, List.setIfInBounds_toArray, List.set_cons_zero, List.set_cons_succ]
    refine wpAnyH_done (by kernel_rfl) ?_ _
    have hw := hw.trans (hB.mono hw.size)
    have Xa := Xa.below hB
    have Xb := Xb.below hB
    go_wp2
    go_ret
    exact ⟨rfl, hw⟩
end Go.Proofs.YtbgihlfblmilmaaGreatDoor.Fr
