/- FracOrders: the order of two numbers, and signs. -/
import Derived.Test.YtanaljnclajkdaaGreatDoorJK
import Derived.Test.YtanaljnclajkdaaGreatDoorHC
import Derived.Deep.RegionHeld3
namespace Go.Proofs.YtanaljnclajkdaaGreatDoor.Fr
open Go.RowKit Num

theorem cq_neg (a b : Rat) : cq a b = -cq b a := by
  unfold cq
  have h1 := Rat.le_total (a := a) (b := b)
  split <;> split <;> (try split) <;> (try split) <;> grind
set_option linter.unusedSimpArgs false in
set_option maxHeartbeats 25600000 in
set_option maxRecDepth 100000 in
theorem orders_law (sa : Bool) (Aa : Option Addr) (na ca : Nat) (Ba : Option Addr) (ma ea : Nat) (xa ya : List Nat) (sb : Bool) (Ab : Option Addr) (nb cb : Nat) (Bb : Option Addr) (mb eb : Nat) (xb yb : List Nat) (w : World) (hxa : Dg .u32 w Aa na ca xa) (hya : Dg .u32 w Ba ma ea ya) (hxb : Dg .u32 w Ab nb cb xb) (hyb : Dg .u32 w Bb mb eb yb) (hG : Gl w) :
    Calls Tryz.prog 11 #[.agg #[.bool sa, .slice Aa na ca, .slice Ba ma ea], .agg #[.bool sb, .slice Ab nb cb, .slice Bb mb eb]] w fun e w' => e = .returned (.bool true) ∧ Below w.heap.size w w' := by
  have hG := Lib.hid hG
  have Xa := Blk.new w 24 #[.bool sa, .slice Aa na ca, .slice Ba ma ea]
  have Xb := Blk.new (w.alloc (.cells #[.bool sa, .slice Aa na ca, .slice Ba ma ea] 24)) 24 #[.bool sb, .slice Ab nb cb, .slice Bb mb eb]
  have Xa := Xa.alloc (.cells #[.bool sb, .slice Ab nb cb, .slice Bb mb eb] 24)
  have z1 : (w.alloc (.cells #[.bool sa, .slice Aa na ca, .slice Ba ma ea] 24)).heap.size = w.heap.size + 1 := by simp
  rw [z1] at Xb
  have hw := (((Below.refl w.heap.size w).alloc (Nat.le_refl _) (.cells #[.bool sa, .slice Aa na ca, .slice Ba ma ea] 24)).alloc (by rw [z1]; omega) (.cells #[.bool sb, .slice Ab nb cb, .slice Bb mb eb] 24))
  have hxa := hxa.below hw
  have hya := hya.below hw
  have hxb := hxb.below hw
  have hyb := hyb.below hw
  clear z1
  go_enter Tryz.func11, Tryz.ntmps11
  go_upto_region 1 with fail
  generalize ((w.alloc (.cells #[.bool sa, .slice Aa na ca, .slice Ba ma ea] 24)).alloc (.cells #[.bool sb, .slice Ab nb cb, .slice Bb mb eb] 24)) = w1 at *
  have ka0 : w1.cell? ⟨w.heap.size, 0, none⟩ = some (.bool sa) := Xa.cell 0
  have ka1 : w1.cell? ⟨w.heap.size, 1, none⟩ = some (.slice Aa na ca) := Xa.cell 1
  have ka2 : w1.cell? ⟨w.heap.size, 2, none⟩ = some (.slice Ba ma ea) := Xa.cell 2
  have kb0 : w1.cell? ⟨w.heap.size + 1, 0, none⟩ = some (.bool sb) := Xb.cell 0
  have kb1 : w1.cell? ⟨w.heap.size + 1, 1, none⟩ = some (.slice Ab nb cb) := Xb.cell 1
  have kb2 : w1.cell? ⟨w.heap.size + 1, 2, none⟩ = some (.slice Bb mb eb) := Xb.cell 2
  have hal := (Below.refl w1.heap.size w1).alloc (Nat.le_refl _) (.cells #[.bool sa, .slice Aa na ca, .slice Ba ma ea, .bool sb, .slice Ab nb cb, .slice Bb mb eb] 24)
  have hS := Sm.lit2 (Blk.new w1 24 #[.bool sa, .slice Aa na ca, .slice Ba ma ea, .bool sb, .slice Ab nb cb, .slice Bb mb eb])
  have hw := hw.alloc hw.size (.cells #[.bool sa, .slice Aa na ca, .slice Ba ma ea, .bool sb, .slice Ab nb cb, .slice Bb mb eb] 24)
  have Xa := Xa.below hal
  have hxa := hxa.below hal
  have hya := hya.below hal
  have Xb := Xb.below hal
  have hxb := hxb.below hal
  have hyb := hyb.below hal
  clear hal
  go_wp2_with fail
  generalize w1.heap.size = gl at *
  generalize w1.alloc (.cells #[.bool sa, .slice Aa na ca, .slice Ba ma ea, .bool sb, .slice Ab nb cb, .slice Bb mb eb] 24) = w2 at *
  clear ka0
  clear ka1
  clear ka2
  clear kb0
  clear kb1
  clear kb2
  refine (smallL_any _ _ _ _ _ hS).mono ?_
  rintro e v0 ⟨b, rfl, hiff, rfl⟩
  cases b with
  | false =>
    clear hiff
    go_wp2_with fail
    refine (known_true _ (hG.out.below hw)).mono ?_
    rintro e v1 ⟨rfl, hc1⟩
    go_wp2
    go_ret
    exact ⟨rfl, hw.trans (hc1.mono hw.size)⟩
  | true =>
    obtain ⟨⟨h1a, h2a⟩, ⟨h1b, h2b⟩⟩ := small2_of (hiff.1 rfl)
    obtain ⟨qa, ha⟩ : ∃ q, AF w2 (.agg #[.bool sa, .slice Aa na ca, .slice Ba ma ea]) q 12 := ⟨_, AF.of hxa hya h1a h2a⟩
    obtain ⟨qb, hb⟩ : ∃ q, AF w2 (.agg #[.bool sb, .slice Ab nb cb, .slice Bb mb eb]) q 12 := ⟨_, AF.of hxb hyb h1b h2b⟩
    clear hiff hS hxa hya h1a h2a hxb hyb h1b h2b
    have hB := Below.refl w2.heap.size w2
    obtain ⟨z, hz⟩ : ∃ z, cq qa qb = z := ⟨_, rfl⟩
    have hz2 := Lib.hid (show cq qb qa = -z by rw [← hz]; exact cq_neg qb qa)
    have hzb := cq_bound qa qb
    rw [hz] at hzb
    have hwn : IntKind.i64.wrap (-z) = -z := IntWalk.i64_in _ (by omega)
    obtain ⟨y, hy⟩ : ∃ y, qs qa = y := ⟨_, rfl⟩
    have hz := Lib.hid hz
    have hy := Lib.hid hy
    go_upto_region 3 with fail
    have ka_0 : w2.cell? ⟨w.heap.size, 0, none⟩ = some (.bool sa) := Xa.cell 0
    have ka_1 : w2.cell? ⟨w.heap.size, 1, none⟩ = some (.slice Aa na ca) := Xa.cell 1
    have ka_2 : w2.cell? ⟨w.heap.size, 2, none⟩ = some (.slice Ba ma ea) := Xa.cell 2
    have kb_0 : w2.cell? ⟨w.heap.size + 1, 0, none⟩ = some (.bool sb) := Xb.cell 0
    have kb_1 : w2.cell? ⟨w.heap.size + 1, 1, none⟩ = some (.slice Ab nb cb) := Xb.cell 1
    have kb_2 : w2.cell? ⟨w.heap.size + 1, 2, none⟩ = some (.slice Bb mb eb) := Xb.cell 2
    have hKeep := Lib.hid (fun (wx : World) (hb : Below w2.heap.size w2 wx) => (⟨(hb.cell (World.block_lt_of_cell? _ _ ka_0)).trans ka_0, (hb.cell (World.block_lt_of_cell? _ _ ka_1)).trans ka_1, (hb.cell (World.block_lt_of_cell? _ _ ka_2)).trans ka_2, (hb.cell (World.block_lt_of_cell? _ _ kb_0)).trans kb_0, (hb.cell (World.block_lt_of_cell? _ _ kb_1)).trans kb_1, (hb.cell (World.block_lt_of_cell? _ _ kb_2)).trans kb_2⟩ : wx.cell? ⟨w.heap.size, 0, none⟩ = some (.bool sa) ∧ wx.cell? ⟨w.heap.size, 1, none⟩ = some (.slice Aa na ca) ∧ wx.cell? ⟨w.heap.size, 2, none⟩ = some (.slice Ba ma ea) ∧ wx.cell? ⟨w.heap.size + 1, 0, none⟩ = some (.bool sb) ∧ wx.cell? ⟨w.heap.size + 1, 1, none⟩ = some (.slice Ab nb cb) ∧ wx.cell? ⟨w.heap.size + 1, 2, none⟩ = some (.slice Bb mb eb)))
    clear ka_0 ka_1 ka_2 kb_0 kb_1 kb_2
    have hB := bel_drewN (Below.refl w2.heap.size w2) 1
    have ha := ha.below hB
    have hb := hb.below hB
    refine wp_region_held_drew (S := (fun wx => wx.cell? ⟨w.heap.size, 0, none⟩ = some (.bool sa) ∧ wx.cell? ⟨w.heap.size, 1, none⟩ = some (.slice Aa na ca) ∧ wx.cell? ⟨w.heap.size, 2, none⟩ = some (.slice Ba ma ea) ∧ wx.cell? ⟨w.heap.size + 1, 0, none⟩ = some (.bool sb) ∧ wx.cell? ⟨w.heap.size + 1, 1, none⟩ = some (.slice Ab nb cb) ∧ wx.cell? ⟨w.heap.size + 1, 2, none⟩ = some (.slice Bb mb eb))) (by kernel_rfl) (hKeep.out _ hB) (fun hHeld => ?_)
    refine wpAnyH_take (i := 0) (v := .agg #[.bool sa, .slice Aa na ca, .slice Ba ma ea]) rfl (by kernel_rfl) (by kernel_rfl) (by kernel_rfl) (fun _ _ _ h => h) (Or.inl ⟨by kernel_rfl, by (intro w hSw; (try dsimp only at hSw); go_simp)⟩) hHeld ?_
    try simp only [Act.put, List.getElem_toArray, List.getElem_cons_succ, List.getElem_cons_zero, List.setIfInBounds_toArray, List.set_cons_zero, List.set_cons_succ]
    refine wpAnyH_take (i := 2) (v := .agg #[.bool sa, .slice Aa na ca, .slice Ba ma ea]) rfl (by kernel_rfl) (by kernel_rfl) (by kernel_rfl) (fun _ _ _ h => h) (Or.inl ⟨by kernel_rfl, by (intro w hSw; (try dsimp only at hSw); go_simp)⟩) hHeld ?_
    try simp only [Act.put, List.getElem_toArray, List.getElem_cons_succ, List.getElem_cons_zero, List.setIfInBounds_toArray, List.set_cons_zero, List.set_cons_succ]
    refine wpAnyH_ready (rs := [1]) (by kernel_rfl) (by simp) ?_
    refine AllReadyH.cons rfl (fun K hK => ?_) AllReadyH.nil
    go_simp
    refine (SignQ _ _ 12 _ ha (by decide)).mono ?_
    rintro e v1 ⟨rfl, hc1⟩
    rw [hy.out]
    have hB := hB.trans (hc1.mono hB.size)
    have ha := ha.below hc1
    have hb := hb.below hc1
    go_wp2_with fail
    refine hK.out _ _ ?_ (fun hHeld => ?_)
    · exact hKeep.out _ hB
    clear hK K
    try simp only [Act.put, List.getElem_toArray, List.getElem_cons_succ, List.getElem_cons_zero, List.setIfInBounds_toArray, List.set_cons_zero, List.set_cons_succ]
    refine wpAnyH_ready (rs := [3]) (by kernel_rfl) (by simp) ?_
    refine AllReadyH.cons rfl (fun K hK => ?_) AllReadyH.nil
    go_simp
    refine (refSignQ _ _ 12 _ ha ).mono ?_
    rintro e v2 ⟨rfl, hc2⟩
    rw [hy.out]
    have hB := hB.trans (hc2.mono hB.size)
    have ha := ha.below hc2
    have hb := hb.below hc2
    go_wp2_with fail
    refine hK.out _ _ ?_ (fun hHeld => ?_)
    · exact hKeep.out _ hB
    clear hK K
    try simp only [Act.put, List.getElem_toArray, List.getElem_cons_succ, List.getElem_cons_zero, List.setIfInBounds_toArray, List.set_cons_zero, List.set_cons_succ]
    refine wpAnyH_take (i := 4) (v := .bool true) rfl (by kernel_rfl) (by kernel_rfl) (by kernel_rfl) (fun _ _ _ h => h) (Or.inl ⟨by kernel_rfl, by (intro w hSw; (try dsimp only at hSw); go_simp)⟩) hHeld ?_
    try simp only [Act.put, List.getElem_toArray, List.getElem_cons_succ, List.getElem_cons_zero, List.setIfInBounds_toArray, List.set_cons_zero, List.set_cons_succ]
    refine wpAnyH_take (i := 5) (v := .bool true) rfl (by kernel_rfl) (by kernel_rfl) (by kernel_rfl) (fun _ _ _ h => h) (Or.inl ⟨by kernel_rfl, by (intro w hSw; (try dsimp only at hSw); go_simp)⟩) hHeld ?_
    try simp only [Act.put, List.getElem_toArray, List.getElem_cons_succ, List.getElem_cons_zero, List.setIfInBounds_toArray, List.set_cons_zero, List.set_cons_succ]
    refine wpAnyH_take (i := 6) (v := .agg #[.bool sa, .slice Aa na ca, .slice Ba ma ea]) rfl (by kernel_rfl) (by kernel_rfl) (by kernel_rfl) (fun _ _ _ h => h) (Or.inl ⟨by kernel_rfl, by (intro w hSw; (try dsimp only at hSw); go_simp)⟩) hHeld ?_
    try simp only [Act.put, List.getElem_toArray, List.getElem_cons_succ, List.getElem_cons_zero, List.setIfInBounds_toArray, List.set_cons_zero, List.set_cons_succ]
    refine wpAnyH_take (i := 7) (v := .agg #[.bool sb, .slice Ab nb cb, .slice Bb mb eb]) rfl (by kernel_rfl) (by kernel_rfl) (by kernel_rfl) (fun _ _ _ h => h) (Or.inl ⟨by kernel_rfl, by (intro w hSw; (try dsimp only at hSw); go_simp)⟩) hHeld ?_
    try simp only [Act.put, List.getElem_toArray, List.getElem_cons_succ, List.getElem_cons_zero, List.setIfInBounds_toArray, List.set_cons_zero, List.set_cons_succ]
    refine wpAnyH_take (i := 9) (v := .agg #[.bool sa, .slice Aa na ca, .slice Ba ma ea]) rfl (by kernel_rfl) (by kernel_rfl) (by kernel_rfl) (fun _ _ _ h => h) (Or.inl ⟨by kernel_rfl, by (intro w hSw; (try dsimp only at hSw); go_simp)⟩) hHeld ?_
    try simp only [Act.put, List.getElem_toArray, List.getElem_cons_succ, List.getElem_cons_zero, List.setIfInBounds_toArray, List.set_cons_zero, List.set_cons_succ]
    refine wpAnyH_take (i := 10) (v := .agg #[.bool sb, .slice Ab nb cb, .slice Bb mb eb]) rfl (by kernel_rfl) (by kernel_rfl) (by kernel_rfl) (fun _ _ _ h => h) (Or.inl ⟨by kernel_rfl, by (intro w hSw; (try dsimp only at hSw); go_simp)⟩) hHeld ?_
    try simp only [Act.put, List.getElem_toArray, List.getElem_cons_succ, List.getElem_cons_zero, List.setIfInBounds_toArray, List.set_cons_zero, List.set_cons_succ]
    refine wpAnyH_ready (rs := [8]) (by kernel_rfl) (by simp) ?_
    refine AllReadyH.cons rfl (fun K hK => ?_) AllReadyH.nil
    go_simp
    refine (CmpQ _ _ _ _ 12 _ ha hb (by decide)).mono ?_
    rintro e v3 ⟨rfl, hc3⟩
    rw [hz.out]
    have hB := hB.trans (hc3.mono hB.size)
    have ha := ha.below hc3
    have hb := hb.below hc3
    go_wp2_with fail
    refine hK.out _ _ ?_ (fun hHeld => ?_)
    · exact hKeep.out _ hB
    clear hK K
    try simp only [Act.put, List.getElem_toArray, List.getElem_cons_succ, List.getElem_cons_zero, List.setIfInBounds_toArray, List.set_cons_zero, List.set_cons_succ]
    refine wpAnyH_ready (rs := [11]) (by kernel_rfl) (by simp) ?_
    refine AllReadyH.cons rfl (fun K hK => ?_) AllReadyH.nil
    go_simp
    refine (refCmpQ _ _ _ _ 12 12 _ ha hb (by decide)).mono ?_
    rintro e v4 ⟨rfl, hc4⟩
    rw [hz.out]
    have hB := hB.trans (hc4.mono hB.size)
    have ha := ha.below hc4
    have hb := hb.below hc4
    go_wp2_with fail
    refine hK.out _ _ ?_ (fun hHeld => ?_)
    · exact hKeep.out _ hB
    clear hK K
    try simp only [Act.put, List.getElem_toArray, List.getElem_cons_succ, List.getElem_cons_zero, List.setIfInBounds_toArray, List.set_cons_zero, List.set_cons_succ]
    refine wpAnyH_take (i := 12) (v := .bool true) rfl (by kernel_rfl) (by kernel_rfl) (by kernel_rfl) (fun _ _ _ h => h) (Or.inl ⟨by kernel_rfl, by (intro w hSw; (try dsimp only at hSw); go_simp)⟩) hHeld ?_
    try simp only [Act.put, List.getElem_toArray, List.getElem_cons_succ, List.getElem_cons_zero, List.setIfInBounds_toArray, List.set_cons_zero, List.set_cons_succ]
    refine wpAnyH_take (i := 13) (v := .bool true) rfl (by kernel_rfl) (by kernel_rfl) (by kernel_rfl) (fun _ _ _ h => h) (Or.inl ⟨by kernel_rfl, by (intro w hSw; (try dsimp only at hSw); go_simp)⟩) hHeld ?_
    try simp only [Act.put, List.getElem_toArray, List.getElem_cons_succ, List.getElem_cons_zero, List.setIfInBounds_toArray, List.set_cons_zero, List.set_cons_succ]
    refine wpAnyH_take (i := 14) (v := .bool true) rfl (by kernel_rfl) (by kernel_rfl) (by kernel_rfl) (fun _ _ _ h => h) (Or.inl ⟨by kernel_rfl, by (intro w hSw; (try dsimp only at hSw); go_simp)⟩) hHeld ?_
    try simp only [Act.put, List.getElem_toArray, List.getElem_cons_succ, List.getElem_cons_zero, List.setIfInBounds_toArray, List.set_cons_zero, List.set_cons_succ]
    refine wpAnyH_take (i := 15) (v := .agg #[.bool sb, .slice Ab nb cb, .slice Bb mb eb]) rfl (by kernel_rfl) (by kernel_rfl) (by kernel_rfl) (fun _ _ _ h => h) (Or.inl ⟨by kernel_rfl, by (intro w hSw; (try dsimp only at hSw); go_simp)⟩) hHeld ?_
    try simp only [Act.put, List.getElem_toArray, List.getElem_cons_succ, List.getElem_cons_zero, List.setIfInBounds_toArray, List.set_cons_zero, List.set_cons_succ]
    refine wpAnyH_take (i := 16) (v := .agg #[.bool sa, .slice Aa na ca, .slice Ba ma ea]) rfl (by kernel_rfl) (by kernel_rfl) (by kernel_rfl) (fun _ _ _ h => h) (Or.inl ⟨by kernel_rfl, by (intro w hSw; (try dsimp only at hSw); go_simp)⟩) hHeld ?_
    try simp only [Act.put, List.getElem_toArray, List.getElem_cons_succ, List.getElem_cons_zero, List.setIfInBounds_toArray, List.set_cons_zero, List.set_cons_succ]
    refine wpAnyH_take (i := 18) (v := .agg #[.bool sa, .slice Aa na ca, .slice Ba ma ea]) rfl (by kernel_rfl) (by kernel_rfl) (by kernel_rfl) (fun _ _ _ h => h) (Or.inl ⟨by kernel_rfl, by (intro w hSw; (try dsimp only at hSw); go_simp)⟩) hHeld ?_
    try simp only [Act.put, List.getElem_toArray, List.getElem_cons_succ, List.getElem_cons_zero, List.setIfInBounds_toArray, List.set_cons_zero, List.set_cons_succ]
    refine wpAnyH_take (i := 19) (v := .agg #[.bool sb, .slice Ab nb cb, .slice Bb mb eb]) rfl (by kernel_rfl) (by kernel_rfl) (by kernel_rfl) (fun _ _ _ h => h) (Or.inl ⟨by kernel_rfl, by (intro w hSw; (try dsimp only at hSw); go_simp)⟩) hHeld ?_
    try simp only [Act.put, List.getElem_toArray, List.getElem_cons_succ, List.getElem_cons_zero, List.setIfInBounds_toArray, List.set_cons_zero, List.set_cons_succ]
    refine wpAnyH_ready (rs := [17]) (by kernel_rfl) (by simp) ?_
    refine AllReadyH.cons rfl (fun K hK => ?_) AllReadyH.nil
    go_simp
    refine (CmpQ _ _ _ _ 12 _ hb ha (by decide)).mono ?_
    rintro e v5 ⟨rfl, hc5⟩
    rw [hz2.out]
    have hB := hB.trans (hc5.mono hB.size)
    have ha := ha.below hc5
    have hb := hb.below hc5
    go_wp2_with fail
    refine hK.out _ _ ?_ (fun hHeld => ?_)
    · exact hKeep.out _ hB
    clear hK K
    try simp only [Act.put, List.getElem_toArray, List.getElem_cons_succ, List.getElem_cons_zero, List.setIfInBounds_toArray, List.set_cons_zero, List.set_cons_succ]
    refine wpAnyH_ready (rs := [20]) (by kernel_rfl) (by simp) ?_
    refine AllReadyH.cons rfl (fun K hK => ?_) AllReadyH.nil
    go_simp
    refine (refCmpQ _ _ _ _ 12 12 _ ha hb (by decide)).mono ?_
    rintro e v6 ⟨rfl, hc6⟩
    rw [hz.out]
    have hB := hB.trans (hc6.mono hB.size)
    have ha := ha.below hc6
    have hb := hb.below hc6
    go_wp2_with fail
    refine hK.out _ _ ?_ (fun hHeld => ?_)
    · exact hKeep.out _ hB
    clear hK K
    try simp only [Act.put, List.getElem_toArray, List.getElem_cons_succ, List.getElem_cons_zero, List.setIfInBounds_toArray, List.set_cons_zero, List.set_cons_succ]
    refine wpAnyH_take (i := 21) (v := .int .i64 (-z)) rfl (by kernel_rfl) (by kernel_rfl) (by kernel_rfl) (fun _ _ _ h => h) (Or.inl ⟨by kernel_rfl, by (intro w hSw; (try dsimp only at hSw); go_simp)⟩) hHeld ?_
    try simp only [Act.put, List.getElem_toArray, List.getElem_cons_succ, List.getElem_cons_zero, List.setIfInBounds_toArray, List.set_cons_zero, List.set_cons_succ]
    refine wpAnyH_take (i := 22) (v := .bool true) rfl (by kernel_rfl) (by kernel_rfl) (by kernel_rfl) (fun _ _ _ h => h) (Or.inl ⟨by kernel_rfl, by (intro w hSw; (try dsimp only at hSw); go_simp)⟩) hHeld ?_
    try simp only [Act.put, List.getElem_toArray, List.getElem_cons_succ, List.getElem_cons_zero, List.setIfInBounds_toArray, List.set_cons_zero, List.set_cons_succ]
    refine wpAnyH_take (i := 23) (v := .bool true) rfl (by kernel_rfl) (by kernel_rfl) (by kernel_rfl) (fun _ _ _ h => h) (Or.inl ⟨by kernel_rfl, by (intro w hSw; (try dsimp only at hSw); go_simp)⟩) hHeld ?_
    try simp only [Act.put, List.getElem_toArray, List.getElem_cons_succ, List.getElem_cons_zero, List.setIfInBounds_toArray, List.set_cons_zero, List.set_cons_succ]
    refine wpAnyH_take (i := 24) (v := .bool true) rfl (by kernel_rfl) (by kernel_rfl) (by kernel_rfl) (fun _ _ _ h => h) (Or.inl ⟨by kernel_rfl, by (intro w hSw; (try dsimp only at hSw); go_simp)⟩) hHeld ?_
    try simp only [Act.put, List.getElem_toArray, List.getElem_cons_succ, List.getElem_cons_zero, List.setIfInBounds_toArray, List.set_cons_zero, List.set_cons_succ]
    refine wpAnyH_ready (rs := [25]) (by kernel_rfl) (by simp) ?_
    refine AllReadyH.cons rfl (fun K hK => ?_) AllReadyH.nil
    go_simp
    refine (known_true _ (hG.out.below (hw.trans (hB.mono hw.size)))).mono ?_
    rintro e v7 ⟨rfl, hc7⟩
    have hB := hB.trans (hc7.mono hB.size)
    have ha := ha.below hc7
    have hb := hb.below hc7
    go_wp2_with fail
    refine hK.out _ _ ?_ (fun hHeld => ?_)
    · exact hKeep.out _ hB
    clear hK K
    try simp only [Act.put, List.getElem_toArray, List.getElem_cons_succ, List.getElem_cons_zero, List.setIfInBounds_toArray, List.set_cons_zero, List.set_cons_succ]
    refine wpAnyH_take (i := 26) (v := .bool true) rfl (by kernel_rfl) (by kernel_rfl) (by kernel_rfl) (fun _ _ _ h => h) (Or.inl ⟨by kernel_rfl, by (intro w hSw; (try dsimp only at hSw); go_simp)⟩) hHeld ?_
    try simp only [Act.put, List.getElem_toArray, List.getElem_cons_succ, List.getElem_cons_zero, List.setIfInBounds_toArray, List.set_cons_zero, List.set_cons_succ]
    refine wpAnyH_take (i := 27) (v := .bool true) rfl (by kernel_rfl) (by kernel_rfl) (by kernel_rfl) (fun _ _ _ h => h) (Or.inl ⟨by kernel_rfl, by (intro w hSw; (try dsimp only at hSw); go_simp)⟩) hHeld ?_
    try simp only [Act.put, List.getElem_toArray, List.getElem_cons_succ, List.getElem_cons_zero, List.setIfInBounds_toArray, List.set_cons_zero, List.set_cons_succ]
    refine wpAnyH_done (by kernel_rfl) ?_ _
    have hw := hw.trans (hB.mono hw.size)
    have Xa := Xa.below hB
    have Xb := Xb.below hB
    go_wp2
    go_ret
    exact ⟨rfl, hw⟩
end Go.Proofs.YtanaljnclajkdaaGreatDoor.Fr
