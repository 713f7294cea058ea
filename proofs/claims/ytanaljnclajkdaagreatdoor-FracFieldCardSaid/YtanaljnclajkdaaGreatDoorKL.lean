/- FracField: the laws of a field. -/
import Derived.Test.YtanaljnclajkdaaGreatDoorJK
import Derived.Test.YtanaljnclajkdaaGreatDoorGS
import Derived.Deep.RegionHeld3
namespace Go.Proofs.YtanaljnclajkdaaGreatDoor.Fr
open Go.RowKit Num

set_option linter.unusedSimpArgs false in
set_option maxHeartbeats 25600000 in
set_option maxRecDepth 100000 in
theorem field_law (sa : Bool) (Aa : Option Addr) (na ca : Nat) (Ba : Option Addr) (ma ea : Nat) (xa ya : List Nat) (sb : Bool) (Ab : Option Addr) (nb cb : Nat) (Bb : Option Addr) (mb eb : Nat) (xb yb : List Nat) (sc : Bool) (Ac : Option Addr) (nc cc : Nat) (Bc : Option Addr) (mc ec : Nat) (xc yc : List Nat) (w : World) (hxa : Dg .u32 w Aa na ca xa) (hya : Dg .u32 w Ba ma ea ya) (hxb : Dg .u32 w Ab nb cb xb) (hyb : Dg .u32 w Bb mb eb yb) (hxc : Dg .u32 w Ac nc cc xc) (hyc : Dg .u32 w Bc mc ec yc) (hG : Gl w) :
    Calls Tryz.prog 8 #[.agg #[.bool sa, .slice Aa na ca, .slice Ba ma ea], .agg #[.bool sb, .slice Ab nb cb, .slice Bb mb eb], .agg #[.bool sc, .slice Ac nc cc, .slice Bc mc ec]] w fun e w' => e = .returned (.bool true) ∧ Below w.heap.size w w' := by
  have hG := Lib.hid hG
  have Xa := Blk.new w 24 #[.bool sa, .slice Aa na ca, .slice Ba ma ea]
  have Xb := Blk.new (w.alloc (.cells #[.bool sa, .slice Aa na ca, .slice Ba ma ea] 24)) 24 #[.bool sb, .slice Ab nb cb, .slice Bb mb eb]
  have Xa := Xa.alloc (.cells #[.bool sb, .slice Ab nb cb, .slice Bb mb eb] 24)
  have Xc := Blk.new ((w.alloc (.cells #[.bool sa, .slice Aa na ca, .slice Ba ma ea] 24)).alloc (.cells #[.bool sb, .slice Ab nb cb, .slice Bb mb eb] 24)) 24 #[.bool sc, .slice Ac nc cc, .slice Bc mc ec]
  have Xa := Xa.alloc (.cells #[.bool sc, .slice Ac nc cc, .slice Bc mc ec] 24)
  have Xb := Xb.alloc (.cells #[.bool sc, .slice Ac nc cc, .slice Bc mc ec] 24)
  have z1 : (w.alloc (.cells #[.bool sa, .slice Aa na ca, .slice Ba ma ea] 24)).heap.size = w.heap.size + 1 := by simp
  rw [z1] at Xb
  have z2 : ((w.alloc (.cells #[.bool sa, .slice Aa na ca, .slice Ba ma ea] 24)).alloc (.cells #[.bool sb, .slice Ab nb cb, .slice Bb mb eb] 24)).heap.size = w.heap.size + 1 + 1 := by simp
  rw [z2] at Xc
  have hw := ((((Below.refl w.heap.size w).alloc (Nat.le_refl _) (.cells #[.bool sa, .slice Aa na ca, .slice Ba ma ea] 24)).alloc (by rw [z1]; omega) (.cells #[.bool sb, .slice Ab nb cb, .slice Bb mb eb] 24)).alloc (by rw [z2]; omega) (.cells #[.bool sc, .slice Ac nc cc, .slice Bc mc ec] 24))
  have hxa := hxa.below hw
  have hya := hya.below hw
  have hxb := hxb.below hw
  have hyb := hyb.below hw
  have hxc := hxc.below hw
  have hyc := hyc.below hw
  clear z1 z2
  go_enter Tryz.func8, Tryz.ntmps8
  go_upto_region 1 with fail
  generalize (((w.alloc (.cells #[.bool sa, .slice Aa na ca, .slice Ba ma ea] 24)).alloc (.cells #[.bool sb, .slice Ab nb cb, .slice Bb mb eb] 24)).alloc (.cells #[.bool sc, .slice Ac nc cc, .slice Bc mc ec] 24)) = w1 at *
  have ka0 : w1.cell? ⟨w.heap.size, 0, none⟩ = some (.bool sa) := Xa.cell 0
  have ka1 : w1.cell? ⟨w.heap.size, 1, none⟩ = some (.slice Aa na ca) := Xa.cell 1
  have ka2 : w1.cell? ⟨w.heap.size, 2, none⟩ = some (.slice Ba ma ea) := Xa.cell 2
  have kb0 : w1.cell? ⟨w.heap.size + 1, 0, none⟩ = some (.bool sb) := Xb.cell 0
  have kb1 : w1.cell? ⟨w.heap.size + 1, 1, none⟩ = some (.slice Ab nb cb) := Xb.cell 1
  have kb2 : w1.cell? ⟨w.heap.size + 1, 2, none⟩ = some (.slice Bb mb eb) := Xb.cell 2
  have kc0 : w1.cell? ⟨w.heap.size + 1 + 1, 0, none⟩ = some (.bool sc) := Xc.cell 0
  have kc1 : w1.cell? ⟨w.heap.size + 1 + 1, 1, none⟩ = some (.slice Ac nc cc) := Xc.cell 1
  have kc2 : w1.cell? ⟨w.heap.size + 1 + 1, 2, none⟩ = some (.slice Bc mc ec) := Xc.cell 2
  by_cases hl_na : 6 < na
  · have f1 : decide ((6 : Int) < (na : Int)) = true := decide_eq_true (by omega)
    have f2 := decide_eq_true hl_na
    go_wp2_with fail
    refine (known_true _ (hG.out.below hw)).mono ?_
    rintro e v1 ⟨rfl, hc1⟩
    go_wp2
    go_ret
    exact ⟨rfl, hw.trans (hc1.mono hw.size)⟩
  have g1_na : decide ((6 : Int) < (na : Int)) = false := decide_eq_false (by omega)
  have g2_na := decide_eq_false hl_na
  by_cases hl_ma : 6 < ma
  · have f1 : decide ((6 : Int) < (ma : Int)) = true := decide_eq_true (by omega)
    have f2 := decide_eq_true hl_ma
    go_wp2_with fail
    refine (known_true _ (hG.out.below hw)).mono ?_
    rintro e v1 ⟨rfl, hc1⟩
    go_wp2
    go_ret
    exact ⟨rfl, hw.trans (hc1.mono hw.size)⟩
  have g1_ma : decide ((6 : Int) < (ma : Int)) = false := decide_eq_false (by omega)
  have g2_ma := decide_eq_false hl_ma
  by_cases hl_nb : 6 < nb
  · have f1 : decide ((6 : Int) < (nb : Int)) = true := decide_eq_true (by omega)
    have f2 := decide_eq_true hl_nb
    go_wp2_with fail
    refine (known_true _ (hG.out.below hw)).mono ?_
    rintro e v1 ⟨rfl, hc1⟩
    go_wp2
    go_ret
    exact ⟨rfl, hw.trans (hc1.mono hw.size)⟩
  have g1_nb : decide ((6 : Int) < (nb : Int)) = false := decide_eq_false (by omega)
  have g2_nb := decide_eq_false hl_nb
  by_cases hl_mb : 6 < mb
  · have f1 : decide ((6 : Int) < (mb : Int)) = true := decide_eq_true (by omega)
    have f2 := decide_eq_true hl_mb
    go_wp2_with fail
    refine (known_true _ (hG.out.below hw)).mono ?_
    rintro e v1 ⟨rfl, hc1⟩
    go_wp2
    go_ret
    exact ⟨rfl, hw.trans (hc1.mono hw.size)⟩
  have g1_mb : decide ((6 : Int) < (mb : Int)) = false := decide_eq_false (by omega)
  have g2_mb := decide_eq_false hl_mb
  by_cases hl_nc : 6 < nc
  · have f1 : decide ((6 : Int) < (nc : Int)) = true := decide_eq_true (by omega)
    have f2 := decide_eq_true hl_nc
    go_wp2_with fail
    refine (known_true _ (hG.out.below hw)).mono ?_
    rintro e v1 ⟨rfl, hc1⟩
    go_wp2
    go_ret
    exact ⟨rfl, hw.trans (hc1.mono hw.size)⟩
  have g1_nc : decide ((6 : Int) < (nc : Int)) = false := decide_eq_false (by omega)
  have g2_nc := decide_eq_false hl_nc
  by_cases hl_mc : 6 < mc
  · have f1 : decide ((6 : Int) < (mc : Int)) = true := decide_eq_true (by omega)
    have f2 := decide_eq_true hl_mc
    go_wp2_with fail
    refine (known_true _ (hG.out.below hw)).mono ?_
    rintro e v1 ⟨rfl, hc1⟩
    go_wp2
    go_ret
    exact ⟨rfl, hw.trans (hc1.mono hw.size)⟩
  have g1_mc : decide ((6 : Int) < (mc : Int)) = false := decide_eq_false (by omega)
  have g2_mc := decide_eq_false hl_mc
  obtain ⟨qa, ha⟩ : ∃ q, AF w1 (.agg #[.bool sa, .slice Aa na ca, .slice Ba ma ea]) q 6 := ⟨_, AF.of hxa hya (by omega) (by omega)⟩
  obtain ⟨qb, hb⟩ : ∃ q, AF w1 (.agg #[.bool sb, .slice Ab nb cb, .slice Bb mb eb]) q 6 := ⟨_, AF.of hxb hyb (by omega) (by omega)⟩
  obtain ⟨qc, hc⟩ : ∃ q, AF w1 (.agg #[.bool sc, .slice Ac nc cc, .slice Bc mc ec]) q 6 := ⟨_, AF.of hxc hyc (by omega) (by omega)⟩
  have hB := Below.refl w1.heap.size w1
  go_upto_region 3 with fail
  clear hxa hya hxb hyb hxc hyc hl_na g1_na g2_na hl_ma g1_ma g2_ma hl_nb g1_nb g2_nb hl_mb g1_mb g2_mb hl_nc g1_nc g2_nc hl_mc g1_mc g2_mc
  clear ka0 ka1 ka2 kb0 kb1 kb2 kc0 kc1 kc2
  have ka_0 : w1.cell? ⟨w.heap.size, 0, none⟩ = some (.bool sa) := Xa.cell 0
  have ka_1 : w1.cell? ⟨w.heap.size, 1, none⟩ = some (.slice Aa na ca) := Xa.cell 1
  have ka_2 : w1.cell? ⟨w.heap.size, 2, none⟩ = some (.slice Ba ma ea) := Xa.cell 2
  have kb_0 : w1.cell? ⟨w.heap.size + 1, 0, none⟩ = some (.bool sb) := Xb.cell 0
  have kb_1 : w1.cell? ⟨w.heap.size + 1, 1, none⟩ = some (.slice Ab nb cb) := Xb.cell 1
  have kb_2 : w1.cell? ⟨w.heap.size + 1, 2, none⟩ = some (.slice Bb mb eb) := Xb.cell 2
  have kc_0 : w1.cell? ⟨w.heap.size + 1 + 1, 0, none⟩ = some (.bool sc) := Xc.cell 0
  have kc_1 : w1.cell? ⟨w.heap.size + 1 + 1, 1, none⟩ = some (.slice Ac nc cc) := Xc.cell 1
  have kc_2 : w1.cell? ⟨w.heap.size + 1 + 1, 2, none⟩ = some (.slice Bc mc ec) := Xc.cell 2
  have hKeep := Lib.hid (fun (wx : World) (hb : Below w1.heap.size w1 wx) => (⟨(hb.cell (World.block_lt_of_cell? _ _ ka_0)).trans ka_0, (hb.cell (World.block_lt_of_cell? _ _ ka_1)).trans ka_1, (hb.cell (World.block_lt_of_cell? _ _ ka_2)).trans ka_2, (hb.cell (World.block_lt_of_cell? _ _ kb_0)).trans kb_0, (hb.cell (World.block_lt_of_cell? _ _ kb_1)).trans kb_1, (hb.cell (World.block_lt_of_cell? _ _ kb_2)).trans kb_2, (hb.cell (World.block_lt_of_cell? _ _ kc_0)).trans kc_0, (hb.cell (World.block_lt_of_cell? _ _ kc_1)).trans kc_1, (hb.cell (World.block_lt_of_cell? _ _ kc_2)).trans kc_2⟩ : wx.cell? ⟨w.heap.size, 0, none⟩ = some (.bool sa) ∧ wx.cell? ⟨w.heap.size, 1, none⟩ = some (.slice Aa na ca) ∧ wx.cell? ⟨w.heap.size, 2, none⟩ = some (.slice Ba ma ea) ∧ wx.cell? ⟨w.heap.size + 1, 0, none⟩ = some (.bool sb) ∧ wx.cell? ⟨w.heap.size + 1, 1, none⟩ = some (.slice Ab nb cb) ∧ wx.cell? ⟨w.heap.size + 1, 2, none⟩ = some (.slice Bb mb eb) ∧ wx.cell? ⟨w.heap.size + 1 + 1, 0, none⟩ = some (.bool sc) ∧ wx.cell? ⟨w.heap.size + 1 + 1, 1, none⟩ = some (.slice Ac nc cc) ∧ wx.cell? ⟨w.heap.size + 1 + 1, 2, none⟩ = some (.slice Bc mc ec)))
  clear ka_0 ka_1 ka_2 kb_0 kb_1 kb_2 kc_0 kc_1 kc_2
  go_cut [7] (fun v wx => ∃ g s A m c B n d, v = .pointer (some ⟨g, 0, none⟩) ∧ Blk wx g 24 #[.bool s, .slice A m c, .slice B n d] ∧ FQ wx (.agg #[.bool s, .slice A m c, .slice B n d]) (qa + qb + qc) 1098 ∧ Below w1.heap.size w1 wx)
  case first =>
    as_aux_lemma =>
      have hB := bel_drewN (Below.refl w1.heap.size w1) 1
      have ha := ha.below hB
      have hb := hb.below hB
      have hc := hc.below hB
      refine wp_region_held_drew (S := (fun wx => wx.cell? ⟨w.heap.size, 0, none⟩ = some (.bool sa) ∧ wx.cell? ⟨w.heap.size, 1, none⟩ = some (.slice Aa na ca) ∧ wx.cell? ⟨w.heap.size, 2, none⟩ = some (.slice Ba ma ea) ∧ wx.cell? ⟨w.heap.size + 1, 0, none⟩ = some (.bool sb) ∧ wx.cell? ⟨w.heap.size + 1, 1, none⟩ = some (.slice Ab nb cb) ∧ wx.cell? ⟨w.heap.size + 1, 2, none⟩ = some (.slice Bb mb eb) ∧ wx.cell? ⟨w.heap.size + 1 + 1, 0, none⟩ = some (.bool sc) ∧ wx.cell? ⟨w.heap.size + 1 + 1, 1, none⟩ = some (.slice Ac nc cc) ∧ wx.cell? ⟨w.heap.size + 1 + 1, 2, none⟩ = some (.slice Bc mc ec))) (by kernel_rfl) (hKeep.out _ hB) (fun hHeld => ?_)
      refine wpAnyH_take (i := 0) (v := .agg #[.bool sa, .slice Aa na ca, .slice Ba ma ea]) rfl (by kernel_rfl) (by kernel_rfl) (by kernel_rfl) (fun _ _ _ h => h) (Or.inl ⟨by kernel_rfl, by (intro w hSw; (try dsimp only at hSw); go_simp)⟩) hHeld ?_
      try simp only [Act.put, List.getElem_toArray, List.getElem_cons_succ, List.getElem_cons_zero, List.setIfInBounds_toArray, List.set_cons_zero, List.set_cons_succ]
      refine wpAnyH_take (i := 1) (v := .agg #[.bool sb, .slice Ab nb cb, .slice Bb mb eb]) rfl (by kernel_rfl) (by kernel_rfl) (by kernel_rfl) (fun _ _ _ h => h) (Or.inl ⟨by kernel_rfl, by (intro w hSw; (try dsimp only at hSw); go_simp)⟩) hHeld ?_
      try simp only [Act.put, List.getElem_toArray, List.getElem_cons_succ, List.getElem_cons_zero, List.setIfInBounds_toArray, List.set_cons_zero, List.set_cons_succ]
      refine wpAnyH_take (i := 3) (v := .agg #[.bool sc, .slice Ac nc cc, .slice Bc mc ec]) rfl (by kernel_rfl) (by kernel_rfl) (by kernel_rfl) (fun _ _ _ h => h) (Or.inl ⟨by kernel_rfl, by (intro w hSw; (try dsimp only at hSw); go_simp)⟩) hHeld ?_
      try simp only [Act.put, List.getElem_toArray, List.getElem_cons_succ, List.getElem_cons_zero, List.setIfInBounds_toArray, List.set_cons_zero, List.set_cons_succ]
      refine wpAnyH_ready (rs := [2, 5]) (by kernel_rfl) (by simp) ?_
      refine AllReadyH.cons rfl (fun K hK => ?_) ?_
      · skip
        go_simp
        refine (addQ _ _ _ _ 6 _ ha hb (by decide)).mono ?_
        rintro e v1 ⟨_, rfl, q1, hc1⟩
        have q1 := q1.le (show _ ≤ 90 by decide)
        obtain ⟨s1, A1, m1, c1, B1, n1, d1, rfl⟩ := q1.form
        have hB := hB.trans (hc1.mono hB.size)
        have ha := ha.below hc1
        have hb := hb.below hc1
        have hc := hc.below hc1
        go_wp2_with fail
        refine hK.out _ _ ?_ (fun hHeld => ?_)
        · exact hKeep.out _ hB
        clear hK K
        try simp only [Act.put, List.getElem_toArray, List.getElem_cons_succ, List.getElem_cons_zero, List.setIfInBounds_toArray, List.set_cons_zero, List.set_cons_succ]
        refine wpAnyH_ready (rs := [4, 5]) (by kernel_rfl) (by simp) ?_
        refine AllReadyH.cons rfl (fun K hK => ?_) ?_
        · skip
          go_simp
          refine (addQ _ _ _ _ 90 _ q1.af (hc.le (show 6 ≤ 90 by decide)) (by decide)).mono ?_
          rintro e v2 ⟨_, rfl, q2, hc2⟩
          have q2 := q2.le (show _ ≤ 1098 by decide)
          obtain ⟨s2, A2, m2, c2, B2, n2, d2, rfl⟩ := q2.form
          have hB := hB.trans (hc2.mono hB.size)
          have ha := ha.below hc2
          have hb := hb.below hc2
          have hc := hc.below hc2
          have q1 := q1.below hc2
          go_wp2_with fail
          refine hK.out _ _ ?_ (fun hHeld => ?_)
          · exact hKeep.out _ hB
          clear hK K
          try simp only [Act.put, List.getElem_toArray, List.getElem_cons_succ, List.getElem_cons_zero, List.setIfInBounds_toArray, List.set_cons_zero, List.set_cons_succ]
          refine wpAnyH_ready (rs := [5]) (by kernel_rfl) (by simp) ?_
          refine AllReadyH.cons rfl (fun K hK => ?_) AllReadyH.nil
          go_simp
          refine hK.out _ _ ?_ (fun hHeld => ?_)
          · exact hKeep.out _ (hB.alloc hB.size _)
          clear hK K
          try simp only [Act.put, List.getElem_toArray, List.getElem_cons_succ, List.getElem_cons_zero, List.setIfInBounds_toArray, List.set_cons_zero, List.set_cons_succ]
          have hgz := Lib.hid (show w1.heap.size ≤ (v2 : World).heap.size from hB.size)
          have Z : Blk ((v2 : World).alloc (.cells #[.bool false, .slice none 0 0, .slice none 0 0] 24)) (v2 : World).heap.size 24 #[.bool false, .slice none 0 0, .slice none 0 0] := Blk.new v2 24 #[.bool false, .slice none 0 0, .slice none 0 0]
          refine wpAnyH_ready (rs := [6]) (by kernel_rfl) (by simp) ?_
          refine AllReadyH.cons rfl (fun K hK => ?_) AllReadyH.nil
          have r0 := Z.cell 0
          have r1 := Z.cell 1
          have r2 := Z.cell 2
          have f0 := Z.frozen 0
          have f1 := Z.frozen 1
          have f2 := Z.frozen 2
          go_simp
          refine hK.out _ _ ?_ (fun hHeld => ?_)
          · exact hKeep.out _ (hB.alloc hB.size _)
          clear hK K
          try simp only [Act.put, List.getElem_toArray, List.getElem_cons_succ, List.getElem_cons_zero, List.setIfInBounds_toArray, List.set_cons_zero, List.set_cons_succ]
          refine wpAnyH_done (by kernel_rfl) ?_ _
          go_wp2_with fail
          go_meet
          exact ⟨_, s2, A2, m2, c2, B2, n2, d2, rfl, Blk.new _ _ _, q2.below ((Below.refl _ _).alloc (Nat.le_refl _) _), hB.alloc hB.size _⟩
        refine AllReadyH.cons rfl (fun K hK => ?_) AllReadyH.nil
        go_simp
        refine hK.out _ _ ?_ (fun hHeld => ?_)
        · exact hKeep.out _ (hB.alloc hB.size _)
        clear hK K
        try simp only [Act.put, List.getElem_toArray, List.getElem_cons_succ, List.getElem_cons_zero, List.setIfInBounds_toArray, List.set_cons_zero, List.set_cons_succ]
        have hgz := Lib.hid (show w1.heap.size ≤ (v1 : World).heap.size from hB.size)
        have Z : Blk ((v1 : World).alloc (.cells #[.bool false, .slice none 0 0, .slice none 0 0] 24)) (v1 : World).heap.size 24 #[.bool false, .slice none 0 0, .slice none 0 0] := Blk.new v1 24 #[.bool false, .slice none 0 0, .slice none 0 0]
        have hal := (Below.refl (v1 : World).heap.size v1).alloc (Nat.le_refl _) (.cells #[.bool false, .slice none 0 0, .slice none 0 0] 24)
        have hB := hB.alloc hB.size (.cells #[.bool false, .slice none 0 0, .slice none 0 0] 24)
        have ha := ha.below hal
        have hb := hb.below hal
        have hc := hc.below hal
        have q1 := q1.below hal
        refine wpAnyH_ready (rs := [4]) (by kernel_rfl) (by simp) ?_
        refine AllReadyH.cons rfl (fun K hK => ?_) AllReadyH.nil
        go_simp
        refine (addQ _ _ _ _ 90 _ q1.af (hc.le (show 6 ≤ 90 by decide)) (by decide)).mono ?_
        rintro e v3 ⟨_, rfl, q3, hc3⟩
        have q3 := q3.le (show _ ≤ 1098 by decide)
        obtain ⟨s3, A3, m3, c3, B3, n3, d3, rfl⟩ := q3.form
        have hB := hB.trans (hc3.mono hB.size)
        have ha := ha.below hc3
        have hb := hb.below hc3
        have hc := hc.below hc3
        have q1 := q1.below hc3
        have Z := Z.below hc3
        go_wp2_with fail
        refine hK.out _ _ ?_ (fun hHeld => ?_)
        · exact hKeep.out _ hB
        clear hK K
        try simp only [Act.put, List.getElem_toArray, List.getElem_cons_succ, List.getElem_cons_zero, List.setIfInBounds_toArray, List.set_cons_zero, List.set_cons_succ]
        refine wpAnyH_ready (rs := [6]) (by kernel_rfl) (by simp) ?_
        refine AllReadyH.cons rfl (fun K hK => ?_) AllReadyH.nil
        have r0 := Z.cell 0
        have r1 := Z.cell 1
        have r2 := Z.cell 2
        have f0 := Z.frozen 0
        have f1 := Z.frozen 1
        have f2 := Z.frozen 2
        go_simp
        refine hK.out _ _ ?_ (fun hHeld => ?_)
        · exact hKeep.out _ (bel_set3 hB hgz.out _ _ _)
        clear hK K
        try simp only [Act.put, List.getElem_toArray, List.getElem_cons_succ, List.getElem_cons_zero, List.setIfInBounds_toArray, List.set_cons_zero, List.set_cons_succ]
        refine wpAnyH_done (by kernel_rfl) ?_ _
        go_wp2_with fail
        go_meet
        exact ⟨_, s3, A3, m3, c3, B3, n3, d3, rfl, ((Z.set_ 0 _).set_ 1 _).set_ 2 _, q3.set3 Z _ _ _, bel_set3 hB hgz.out _ _ _⟩
      refine AllReadyH.cons rfl (fun K hK => ?_) AllReadyH.nil
      go_simp
      refine hK.out _ _ ?_ (fun hHeld => ?_)
      · exact hKeep.out _ (hB.alloc hB.size _)
      clear hK K
      try simp only [Act.put, List.getElem_toArray, List.getElem_cons_succ, List.getElem_cons_zero, List.setIfInBounds_toArray, List.set_cons_zero, List.set_cons_succ]
      have hgz := Lib.hid (show w1.heap.size ≤ w1.heap.size from hB.size)
      have Z : Blk ((w1.drew : World).alloc (.cells #[.bool false, .slice none 0 0, .slice none 0 0] 24)) w1.heap.size 24 #[.bool false, .slice none 0 0, .slice none 0 0] := Blk.new w1.drew 24 #[.bool false, .slice none 0 0, .slice none 0 0]
      have hal := (Below.refl (w1.drew : World).heap.size w1.drew).alloc (Nat.le_refl _) (.cells #[.bool false, .slice none 0 0, .slice none 0 0] 24)
      have hB := hB.alloc hB.size (.cells #[.bool false, .slice none 0 0, .slice none 0 0] 24)
      have ha := ha.below hal
      have hb := hb.below hal
      have hc := hc.below hal
      refine wpAnyH_ready (rs := [2]) (by kernel_rfl) (by simp) ?_
      refine AllReadyH.cons rfl (fun K hK => ?_) AllReadyH.nil
      go_simp
      refine (addQ _ _ _ _ 6 _ ha hb (by decide)).mono ?_
      rintro e v4 ⟨_, rfl, q4, hc4⟩
      have q4 := q4.le (show _ ≤ 90 by decide)
      obtain ⟨s4, A4, m4, c4, B4, n4, d4, rfl⟩ := q4.form
      have hB := hB.trans (hc4.mono hB.size)
      have ha := ha.below hc4
      have hb := hb.below hc4
      have hc := hc.below hc4
      have Z := Z.below hc4
      go_wp2_with fail
      refine hK.out _ _ ?_ (fun hHeld => ?_)
      · exact hKeep.out _ hB
      clear hK K
      try simp only [Act.put, List.getElem_toArray, List.getElem_cons_succ, List.getElem_cons_zero, List.setIfInBounds_toArray, List.set_cons_zero, List.set_cons_succ]
      refine wpAnyH_ready (rs := [4]) (by kernel_rfl) (by simp) ?_
      refine AllReadyH.cons rfl (fun K hK => ?_) AllReadyH.nil
      go_simp
      refine (addQ _ _ _ _ 90 _ q4.af (hc.le (show 6 ≤ 90 by decide)) (by decide)).mono ?_
      rintro e v5 ⟨_, rfl, q5, hc5⟩
      have q5 := q5.le (show _ ≤ 1098 by decide)
      obtain ⟨s5, A5, m5, c5, B5, n5, d5, rfl⟩ := q5.form
      have hB := hB.trans (hc5.mono hB.size)
      have ha := ha.below hc5
      have hb := hb.below hc5
      have hc := hc.below hc5
      have q4 := q4.below hc5
      have Z := Z.below hc5
      go_wp2_with fail
      refine hK.out _ _ ?_ (fun hHeld => ?_)
      · exact hKeep.out _ hB
      clear hK K
      try simp only [Act.put, List.getElem_toArray, List.getElem_cons_succ, List.getElem_cons_zero, List.setIfInBounds_toArray, List.set_cons_zero, List.set_cons_succ]
      refine wpAnyH_ready (rs := [6]) (by kernel_rfl) (by simp) ?_
      refine AllReadyH.cons rfl (fun K hK => ?_) AllReadyH.nil
      have r0 := Z.cell 0
      have r1 := Z.cell 1
      have r2 := Z.cell 2
      have f0 := Z.frozen 0
      have f1 := Z.frozen 1
      have f2 := Z.frozen 2
      go_simp
      refine hK.out _ _ ?_ (fun hHeld => ?_)
      · exact hKeep.out _ (bel_set3 hB hgz.out _ _ _)
      clear hK K
      try simp only [Act.put, List.getElem_toArray, List.getElem_cons_succ, List.getElem_cons_zero, List.setIfInBounds_toArray, List.set_cons_zero, List.set_cons_succ]
      refine wpAnyH_done (by kernel_rfl) ?_ _
      go_wp2_with fail
      go_meet
      exact ⟨_, s5, A5, m5, c5, B5, n5, d5, rfl, ((Z.set_ 0 _).set_ 1 _).set_ 2 _, q5.set3 Z _ _ _, bel_set3 hB hgz.out _ _ _⟩
  case rest =>
    clear hKeep
    obtain ⟨gx, s_x, A_x, m_x, c_x, B_x, n_x, d_x, rfl, Xx, qx, hB⟩ := hcut
    generalize wc = ux at *
    have hw := hw.trans (hB.mono hw.size)
    have ha := ha.below hB
    have hb := hb.below hB
    have hc := hc.below hB
    have Xa := Xa.below hB
    have Xb := Xb.below hB
    have Xc := Xc.below hB
    have hB := Below.refl ux.heap.size ux
    go_upto_region 4 with fail
    have ka_0 : ux.cell? ⟨w.heap.size, 0, none⟩ = some (.bool sa) := Xa.cell 0
    have ka_1 : ux.cell? ⟨w.heap.size, 1, none⟩ = some (.slice Aa na ca) := Xa.cell 1
    have ka_2 : ux.cell? ⟨w.heap.size, 2, none⟩ = some (.slice Ba ma ea) := Xa.cell 2
    have kc_0 : ux.cell? ⟨w.heap.size + 1 + 1, 0, none⟩ = some (.bool sc) := Xc.cell 0
    have kc_1 : ux.cell? ⟨w.heap.size + 1 + 1, 1, none⟩ = some (.slice Ac nc cc) := Xc.cell 1
    have kc_2 : ux.cell? ⟨w.heap.size + 1 + 1, 2, none⟩ = some (.slice Bc mc ec) := Xc.cell 2
    have kb_0 : ux.cell? ⟨w.heap.size + 1, 0, none⟩ = some (.bool sb) := Xb.cell 0
    have kb_1 : ux.cell? ⟨w.heap.size + 1, 1, none⟩ = some (.slice Ab nb cb) := Xb.cell 1
    have kb_2 : ux.cell? ⟨w.heap.size + 1, 2, none⟩ = some (.slice Bb mb eb) := Xb.cell 2
    have hKeep := Lib.hid (fun (wx : World) (hb : Below ux.heap.size ux wx) => (⟨(hb.cell (World.block_lt_of_cell? _ _ ka_0)).trans ka_0, (hb.cell (World.block_lt_of_cell? _ _ ka_1)).trans ka_1, (hb.cell (World.block_lt_of_cell? _ _ ka_2)).trans ka_2, (hb.cell (World.block_lt_of_cell? _ _ kc_0)).trans kc_0, (hb.cell (World.block_lt_of_cell? _ _ kc_1)).trans kc_1, (hb.cell (World.block_lt_of_cell? _ _ kc_2)).trans kc_2, (hb.cell (World.block_lt_of_cell? _ _ kb_0)).trans kb_0, (hb.cell (World.block_lt_of_cell? _ _ kb_1)).trans kb_1, (hb.cell (World.block_lt_of_cell? _ _ kb_2)).trans kb_2⟩ : wx.cell? ⟨w.heap.size, 0, none⟩ = some (.bool sa) ∧ wx.cell? ⟨w.heap.size, 1, none⟩ = some (.slice Aa na ca) ∧ wx.cell? ⟨w.heap.size, 2, none⟩ = some (.slice Ba ma ea) ∧ wx.cell? ⟨w.heap.size + 1 + 1, 0, none⟩ = some (.bool sc) ∧ wx.cell? ⟨w.heap.size + 1 + 1, 1, none⟩ = some (.slice Ac nc cc) ∧ wx.cell? ⟨w.heap.size + 1 + 1, 2, none⟩ = some (.slice Bc mc ec) ∧ wx.cell? ⟨w.heap.size + 1, 0, none⟩ = some (.bool sb) ∧ wx.cell? ⟨w.heap.size + 1, 1, none⟩ = some (.slice Ab nb cb) ∧ wx.cell? ⟨w.heap.size + 1, 2, none⟩ = some (.slice Bb mb eb)))
    clear ka_0 ka_1 ka_2 kc_0 kc_1 kc_2 kb_0 kb_1 kb_2
    go_cut [8] (fun v wx => ∃ g s A m c B n d, v = .pointer (some ⟨g, 0, none⟩) ∧ Blk wx g 24 #[.bool s, .slice A m c, .slice B n d] ∧ FQ wx (.agg #[.bool s, .slice A m c, .slice B n d]) (qa + (qc + qb)) 1098 ∧ Below ux.heap.size ux wx)
    case first =>
      as_aux_lemma =>
        have hB := bel_drewN (Below.refl ux.heap.size ux) 1
        have ha := ha.below hB
        have hb := hb.below hB
        have hc := hc.below hB
        have qx := qx.below hB
        refine wp_region_held_drew (S := (fun wx => wx.cell? ⟨w.heap.size, 0, none⟩ = some (.bool sa) ∧ wx.cell? ⟨w.heap.size, 1, none⟩ = some (.slice Aa na ca) ∧ wx.cell? ⟨w.heap.size, 2, none⟩ = some (.slice Ba ma ea) ∧ wx.cell? ⟨w.heap.size + 1 + 1, 0, none⟩ = some (.bool sc) ∧ wx.cell? ⟨w.heap.size + 1 + 1, 1, none⟩ = some (.slice Ac nc cc) ∧ wx.cell? ⟨w.heap.size + 1 + 1, 2, none⟩ = some (.slice Bc mc ec) ∧ wx.cell? ⟨w.heap.size + 1, 0, none⟩ = some (.bool sb) ∧ wx.cell? ⟨w.heap.size + 1, 1, none⟩ = some (.slice Ab nb cb) ∧ wx.cell? ⟨w.heap.size + 1, 2, none⟩ = some (.slice Bb mb eb))) (by kernel_rfl) (hKeep.out _ hB) (fun hHeld => ?_)
        refine wpAnyH_take (i := 0) (v := .agg #[.bool sa, .slice Aa na ca, .slice Ba ma ea]) rfl (by kernel_rfl) (by kernel_rfl) (by kernel_rfl) (fun _ _ _ h => h) (Or.inl ⟨by kernel_rfl, by (intro w hSw; (try dsimp only at hSw); go_simp)⟩) hHeld ?_
        try simp only [Act.put, List.getElem_toArray, List.getElem_cons_succ, List.getElem_cons_zero, List.setIfInBounds_toArray, List.set_cons_zero, List.set_cons_succ]
        refine wpAnyH_take (i := 1) (v := .agg #[.bool sc, .slice Ac nc cc, .slice Bc mc ec]) rfl (by kernel_rfl) (by kernel_rfl) (by kernel_rfl) (fun _ _ _ h => h) (Or.inl ⟨by kernel_rfl, by (intro w hSw; (try dsimp only at hSw); go_simp)⟩) hHeld ?_
        try simp only [Act.put, List.getElem_toArray, List.getElem_cons_succ, List.getElem_cons_zero, List.setIfInBounds_toArray, List.set_cons_zero, List.set_cons_succ]
        refine wpAnyH_take (i := 2) (v := .agg #[.bool sb, .slice Ab nb cb, .slice Bb mb eb]) rfl (by kernel_rfl) (by kernel_rfl) (by kernel_rfl) (fun _ _ _ h => h) (Or.inl ⟨by kernel_rfl, by (intro w hSw; (try dsimp only at hSw); go_simp)⟩) hHeld ?_
        try simp only [Act.put, List.getElem_toArray, List.getElem_cons_succ, List.getElem_cons_zero, List.setIfInBounds_toArray, List.set_cons_zero, List.set_cons_succ]
        refine wpAnyH_ready (rs := [3, 5]) (by kernel_rfl) (by simp) ?_
        refine AllReadyH.cons rfl (fun K hK => ?_) ?_
        · skip
          go_simp
          refine (addQ _ _ _ _ 6 _ hc hb (by decide)).mono ?_
          rintro e v6 ⟨_, rfl, q6, hc6⟩
          have q6 := q6.le (show _ ≤ 90 by decide)
          obtain ⟨s6, A6, m6, c6, B6, n6, d6, rfl⟩ := q6.form
          have hB := hB.trans (hc6.mono hB.size)
          have ha := ha.below hc6
          have hb := hb.below hc6
          have hc := hc.below hc6
          have qx := qx.below hc6
          go_wp2_with fail
          refine hK.out _ _ ?_ (fun hHeld => ?_)
          · exact hKeep.out _ hB
          clear hK K
          try simp only [Act.put, List.getElem_toArray, List.getElem_cons_succ, List.getElem_cons_zero, List.setIfInBounds_toArray, List.set_cons_zero, List.set_cons_succ]
          refine wpAnyH_ready (rs := [4, 5]) (by kernel_rfl) (by simp) ?_
          refine AllReadyH.cons rfl (fun K hK => ?_) ?_
          · skip
            go_simp
            refine (addQ _ _ _ _ 90 _ (ha.le (show 6 ≤ 90 by decide)) q6.af (by decide)).mono ?_
            rintro e v7 ⟨_, rfl, q7, hc7⟩
            have q7 := q7.le (show _ ≤ 1098 by decide)
            obtain ⟨s7, A7, m7, c7, B7, n7, d7, rfl⟩ := q7.form
            have hB := hB.trans (hc7.mono hB.size)
            have ha := ha.below hc7
            have hb := hb.below hc7
            have hc := hc.below hc7
            have qx := qx.below hc7
            have q6 := q6.below hc7
            go_wp2_with fail
            refine hK.out _ _ ?_ (fun hHeld => ?_)
            · exact hKeep.out _ hB
            clear hK K
            try simp only [Act.put, List.getElem_toArray, List.getElem_cons_succ, List.getElem_cons_zero, List.setIfInBounds_toArray, List.set_cons_zero, List.set_cons_succ]
            refine wpAnyH_ready (rs := [5]) (by kernel_rfl) (by simp) ?_
            refine AllReadyH.cons rfl (fun K hK => ?_) AllReadyH.nil
            go_simp
            refine hK.out _ _ ?_ (fun hHeld => ?_)
            · exact hKeep.out _ (hB.alloc hB.size _)
            clear hK K
            try simp only [Act.put, List.getElem_toArray, List.getElem_cons_succ, List.getElem_cons_zero, List.setIfInBounds_toArray, List.set_cons_zero, List.set_cons_succ]
            have hgz := Lib.hid (show ux.heap.size ≤ (v7 : World).heap.size from hB.size)
            have Z : Blk ((v7 : World).alloc (.cells #[.bool false, .slice none 0 0, .slice none 0 0] 24)) (v7 : World).heap.size 24 #[.bool false, .slice none 0 0, .slice none 0 0] := Blk.new v7 24 #[.bool false, .slice none 0 0, .slice none 0 0]
            refine wpAnyH_ready (rs := [6]) (by kernel_rfl) (by simp) ?_
            refine AllReadyH.cons rfl (fun K hK => ?_) AllReadyH.nil
            have r0 := Z.cell 0
            have r1 := Z.cell 1
            have r2 := Z.cell 2
            have f0 := Z.frozen 0
            have f1 := Z.frozen 1
            have f2 := Z.frozen 2
            go_simp
            refine hK.out _ _ ?_ (fun hHeld => ?_)
            · exact hKeep.out _ (hB.alloc hB.size _)
            clear hK K
            try simp only [Act.put, List.getElem_toArray, List.getElem_cons_succ, List.getElem_cons_zero, List.setIfInBounds_toArray, List.set_cons_zero, List.set_cons_succ]
            refine wpAnyH_done (by kernel_rfl) ?_ _
            go_wp2_with fail
            go_meet
            exact ⟨_, s7, A7, m7, c7, B7, n7, d7, rfl, Blk.new _ _ _, q7.below ((Below.refl _ _).alloc (Nat.le_refl _) _), hB.alloc hB.size _⟩
          refine AllReadyH.cons rfl (fun K hK => ?_) AllReadyH.nil
          go_simp
          refine hK.out _ _ ?_ (fun hHeld => ?_)
          · exact hKeep.out _ (hB.alloc hB.size _)
          clear hK K
          try simp only [Act.put, List.getElem_toArray, List.getElem_cons_succ, List.getElem_cons_zero, List.setIfInBounds_toArray, List.set_cons_zero, List.set_cons_succ]
          have hgz := Lib.hid (show ux.heap.size ≤ (v6 : World).heap.size from hB.size)
          have Z : Blk ((v6 : World).alloc (.cells #[.bool false, .slice none 0 0, .slice none 0 0] 24)) (v6 : World).heap.size 24 #[.bool false, .slice none 0 0, .slice none 0 0] := Blk.new v6 24 #[.bool false, .slice none 0 0, .slice none 0 0]
          have hal := (Below.refl (v6 : World).heap.size v6).alloc (Nat.le_refl _) (.cells #[.bool false, .slice none 0 0, .slice none 0 0] 24)
          have hB := hB.alloc hB.size (.cells #[.bool false, .slice none 0 0, .slice none 0 0] 24)
          have ha := ha.below hal
          have hb := hb.below hal
          have hc := hc.below hal
          have qx := qx.below hal
          have q6 := q6.below hal
          refine wpAnyH_ready (rs := [4]) (by kernel_rfl) (by simp) ?_
          refine AllReadyH.cons rfl (fun K hK => ?_) AllReadyH.nil
          go_simp
          refine (addQ _ _ _ _ 90 _ (ha.le (show 6 ≤ 90 by decide)) q6.af (by decide)).mono ?_
          rintro e v8 ⟨_, rfl, q8, hc8⟩
          have q8 := q8.le (show _ ≤ 1098 by decide)
          obtain ⟨s8, A8, m8, c8, B8, n8, d8, rfl⟩ := q8.form
          have hB := hB.trans (hc8.mono hB.size)
          have ha := ha.below hc8
          have hb := hb.below hc8
          have hc := hc.below hc8
          have qx := qx.below hc8
          have q6 := q6.below hc8
          have Z := Z.below hc8
          go_wp2_with fail
          refine hK.out _ _ ?_ (fun hHeld => ?_)
          · exact hKeep.out _ hB
          clear hK K
          try simp only [Act.put, List.getElem_toArray, List.getElem_cons_succ, List.getElem_cons_zero, List.setIfInBounds_toArray, List.set_cons_zero, List.set_cons_succ]
          refine wpAnyH_ready (rs := [6]) (by kernel_rfl) (by simp) ?_
          refine AllReadyH.cons rfl (fun K hK => ?_) AllReadyH.nil
          have r0 := Z.cell 0
          have r1 := Z.cell 1
          have r2 := Z.cell 2
          have f0 := Z.frozen 0
          have f1 := Z.frozen 1
          have f2 := Z.frozen 2
          go_simp
          refine hK.out _ _ ?_ (fun hHeld => ?_)
          · exact hKeep.out _ (bel_set3 hB hgz.out _ _ _)
          clear hK K
          try simp only [Act.put, List.getElem_toArray, List.getElem_cons_succ, List.getElem_cons_zero, List.setIfInBounds_toArray, List.set_cons_zero, List.set_cons_succ]
          refine wpAnyH_done (by kernel_rfl) ?_ _
          go_wp2_with fail
          go_meet
          exact ⟨_, s8, A8, m8, c8, B8, n8, d8, rfl, ((Z.set_ 0 _).set_ 1 _).set_ 2 _, q8.set3 Z _ _ _, bel_set3 hB hgz.out _ _ _⟩
        refine AllReadyH.cons rfl (fun K hK => ?_) AllReadyH.nil
        go_simp
        refine hK.out _ _ ?_ (fun hHeld => ?_)
        · exact hKeep.out _ (hB.alloc hB.size _)
        clear hK K
        try simp only [Act.put, List.getElem_toArray, List.getElem_cons_succ, List.getElem_cons_zero, List.setIfInBounds_toArray, List.set_cons_zero, List.set_cons_succ]
        have hgz := Lib.hid (show ux.heap.size ≤ ux.heap.size from hB.size)
        have Z : Blk ((ux.drew : World).alloc (.cells #[.bool false, .slice none 0 0, .slice none 0 0] 24)) ux.heap.size 24 #[.bool false, .slice none 0 0, .slice none 0 0] := Blk.new ux.drew 24 #[.bool false, .slice none 0 0, .slice none 0 0]
        have hal := (Below.refl (ux.drew : World).heap.size ux.drew).alloc (Nat.le_refl _) (.cells #[.bool false, .slice none 0 0, .slice none 0 0] 24)
        have hB := hB.alloc hB.size (.cells #[.bool false, .slice none 0 0, .slice none 0 0] 24)
        have ha := ha.below hal
        have hb := hb.below hal
        have hc := hc.below hal
        have qx := qx.below hal
        refine wpAnyH_ready (rs := [3]) (by kernel_rfl) (by simp) ?_
        refine AllReadyH.cons rfl (fun K hK => ?_) AllReadyH.nil
        go_simp
        refine (addQ _ _ _ _ 6 _ hc hb (by decide)).mono ?_
        rintro e v9 ⟨_, rfl, q9, hc9⟩
        have q9 := q9.le (show _ ≤ 90 by decide)
        obtain ⟨s9, A9, m9, c9, B9, n9, d9, rfl⟩ := q9.form
        have hB := hB.trans (hc9.mono hB.size)
        have ha := ha.below hc9
        have hb := hb.below hc9
        have hc := hc.below hc9
        have qx := qx.below hc9
        have Z := Z.below hc9
        go_wp2_with fail
        refine hK.out _ _ ?_ (fun hHeld => ?_)
        · exact hKeep.out _ hB
        clear hK K
        try simp only [Act.put, List.getElem_toArray, List.getElem_cons_succ, List.getElem_cons_zero, List.setIfInBounds_toArray, List.set_cons_zero, List.set_cons_succ]
        refine wpAnyH_ready (rs := [4]) (by kernel_rfl) (by simp) ?_
        refine AllReadyH.cons rfl (fun K hK => ?_) AllReadyH.nil
        go_simp
        refine (addQ _ _ _ _ 90 _ (ha.le (show 6 ≤ 90 by decide)) q9.af (by decide)).mono ?_
        rintro e v10 ⟨_, rfl, q10, hc10⟩
        have q10 := q10.le (show _ ≤ 1098 by decide)
        obtain ⟨s10, A10, m10, c10, B10, n10, d10, rfl⟩ := q10.form
        have hB := hB.trans (hc10.mono hB.size)
        have ha := ha.below hc10
        have hb := hb.below hc10
        have hc := hc.below hc10
        have qx := qx.below hc10
        have q9 := q9.below hc10
        have Z := Z.below hc10
        go_wp2_with fail
        refine hK.out _ _ ?_ (fun hHeld => ?_)
        · exact hKeep.out _ hB
        clear hK K
        try simp only [Act.put, List.getElem_toArray, List.getElem_cons_succ, List.getElem_cons_zero, List.setIfInBounds_toArray, List.set_cons_zero, List.set_cons_succ]
        refine wpAnyH_ready (rs := [6]) (by kernel_rfl) (by simp) ?_
        refine AllReadyH.cons rfl (fun K hK => ?_) AllReadyH.nil
        have r0 := Z.cell 0
        have r1 := Z.cell 1
        have r2 := Z.cell 2
        have f0 := Z.frozen 0
        have f1 := Z.frozen 1
        have f2 := Z.frozen 2
        go_simp
        refine hK.out _ _ ?_ (fun hHeld => ?_)
        · exact hKeep.out _ (bel_set3 hB hgz.out _ _ _)
        clear hK K
        try simp only [Act.put, List.getElem_toArray, List.getElem_cons_succ, List.getElem_cons_zero, List.setIfInBounds_toArray, List.set_cons_zero, List.set_cons_succ]
        refine wpAnyH_done (by kernel_rfl) ?_ _
        go_wp2_with fail
        go_meet
        exact ⟨_, s10, A10, m10, c10, B10, n10, d10, rfl, ((Z.set_ 0 _).set_ 1 _).set_ 2 _, q10.set3 Z _ _ _, bel_set3 hB hgz.out _ _ _⟩
    case rest =>
      clear hKeep
      obtain ⟨gy, s_y, A_y, m_y, c_y, B_y, n_y, d_y, rfl, Xy, qy, hB⟩ := hcut
      generalize wc = uy at *
      have hw := hw.trans (hB.mono hw.size)
      have ha := ha.below hB
      have hb := hb.below hB
      have hc := hc.below hB
      have qx := qx.below hB
      have Xa := Xa.below hB
      have Xb := Xb.below hB
      have Xc := Xc.below hB
      have Xx := Xx.below hB
      have hB := Below.refl uy.heap.size uy
      go_upto_region 5 with fail
      have ka_0 : uy.cell? ⟨w.heap.size, 0, none⟩ = some (.bool sa) := Xa.cell 0
      have ka_1 : uy.cell? ⟨w.heap.size, 1, none⟩ = some (.slice Aa na ca) := Xa.cell 1
      have ka_2 : uy.cell? ⟨w.heap.size, 2, none⟩ = some (.slice Ba ma ea) := Xa.cell 2
      have kb_0 : uy.cell? ⟨w.heap.size + 1, 0, none⟩ = some (.bool sb) := Xb.cell 0
      have kb_1 : uy.cell? ⟨w.heap.size + 1, 1, none⟩ = some (.slice Ab nb cb) := Xb.cell 1
      have kb_2 : uy.cell? ⟨w.heap.size + 1, 2, none⟩ = some (.slice Bb mb eb) := Xb.cell 2
      have kc_0 : uy.cell? ⟨w.heap.size + 1 + 1, 0, none⟩ = some (.bool sc) := Xc.cell 0
      have kc_1 : uy.cell? ⟨w.heap.size + 1 + 1, 1, none⟩ = some (.slice Ac nc cc) := Xc.cell 1
      have kc_2 : uy.cell? ⟨w.heap.size + 1 + 1, 2, none⟩ = some (.slice Bc mc ec) := Xc.cell 2
      have hKeep := Lib.hid (fun (wx : World) (hb : Below uy.heap.size uy wx) => (⟨(hb.cell (World.block_lt_of_cell? _ _ ka_0)).trans ka_0, (hb.cell (World.block_lt_of_cell? _ _ ka_1)).trans ka_1, (hb.cell (World.block_lt_of_cell? _ _ ka_2)).trans ka_2, (hb.cell (World.block_lt_of_cell? _ _ kb_0)).trans kb_0, (hb.cell (World.block_lt_of_cell? _ _ kb_1)).trans kb_1, (hb.cell (World.block_lt_of_cell? _ _ kb_2)).trans kb_2, (hb.cell (World.block_lt_of_cell? _ _ kc_0)).trans kc_0, (hb.cell (World.block_lt_of_cell? _ _ kc_1)).trans kc_1, (hb.cell (World.block_lt_of_cell? _ _ kc_2)).trans kc_2⟩ : wx.cell? ⟨w.heap.size, 0, none⟩ = some (.bool sa) ∧ wx.cell? ⟨w.heap.size, 1, none⟩ = some (.slice Aa na ca) ∧ wx.cell? ⟨w.heap.size, 2, none⟩ = some (.slice Ba ma ea) ∧ wx.cell? ⟨w.heap.size + 1, 0, none⟩ = some (.bool sb) ∧ wx.cell? ⟨w.heap.size + 1, 1, none⟩ = some (.slice Ab nb cb) ∧ wx.cell? ⟨w.heap.size + 1, 2, none⟩ = some (.slice Bb mb eb) ∧ wx.cell? ⟨w.heap.size + 1 + 1, 0, none⟩ = some (.bool sc) ∧ wx.cell? ⟨w.heap.size + 1 + 1, 1, none⟩ = some (.slice Ac nc cc) ∧ wx.cell? ⟨w.heap.size + 1 + 1, 2, none⟩ = some (.slice Bc mc ec)))
      clear ka_0 ka_1 ka_2 kb_0 kb_1 kb_2 kc_0 kc_1 kc_2
      go_cut [9] (fun v wx => ∃ g s A m c B n d, v = .pointer (some ⟨g, 0, none⟩) ∧ Blk wx g 24 #[.bool s, .slice A m c, .slice B n d] ∧ FQ wx (.agg #[.bool s, .slice A m c, .slice B n d]) (qa * qb * qc) 420 ∧ Below uy.heap.size uy wx)
      case first =>
        as_aux_lemma =>
          have hB := bel_drewN (Below.refl uy.heap.size uy) 1
          have ha := ha.below hB
          have hb := hb.below hB
          have hc := hc.below hB
          have qx := qx.below hB
          have qy := qy.below hB
          refine wp_region_held_drew (S := (fun wx => wx.cell? ⟨w.heap.size, 0, none⟩ = some (.bool sa) ∧ wx.cell? ⟨w.heap.size, 1, none⟩ = some (.slice Aa na ca) ∧ wx.cell? ⟨w.heap.size, 2, none⟩ = some (.slice Ba ma ea) ∧ wx.cell? ⟨w.heap.size + 1, 0, none⟩ = some (.bool sb) ∧ wx.cell? ⟨w.heap.size + 1, 1, none⟩ = some (.slice Ab nb cb) ∧ wx.cell? ⟨w.heap.size + 1, 2, none⟩ = some (.slice Bb mb eb) ∧ wx.cell? ⟨w.heap.size + 1 + 1, 0, none⟩ = some (.bool sc) ∧ wx.cell? ⟨w.heap.size + 1 + 1, 1, none⟩ = some (.slice Ac nc cc) ∧ wx.cell? ⟨w.heap.size + 1 + 1, 2, none⟩ = some (.slice Bc mc ec))) (by kernel_rfl) (hKeep.out _ hB) (fun hHeld => ?_)
          refine wpAnyH_take (i := 0) (v := .agg #[.bool sa, .slice Aa na ca, .slice Ba ma ea]) rfl (by kernel_rfl) (by kernel_rfl) (by kernel_rfl) (fun _ _ _ h => h) (Or.inl ⟨by kernel_rfl, by (intro w hSw; (try dsimp only at hSw); go_simp)⟩) hHeld ?_
          try simp only [Act.put, List.getElem_toArray, List.getElem_cons_succ, List.getElem_cons_zero, List.setIfInBounds_toArray, List.set_cons_zero, List.set_cons_succ]
          refine wpAnyH_take (i := 1) (v := .agg #[.bool sb, .slice Ab nb cb, .slice Bb mb eb]) rfl (by kernel_rfl) (by kernel_rfl) (by kernel_rfl) (fun _ _ _ h => h) (Or.inl ⟨by kernel_rfl, by (intro w hSw; (try dsimp only at hSw); go_simp)⟩) hHeld ?_
          try simp only [Act.put, List.getElem_toArray, List.getElem_cons_succ, List.getElem_cons_zero, List.setIfInBounds_toArray, List.set_cons_zero, List.set_cons_succ]
          refine wpAnyH_take (i := 3) (v := .agg #[.bool sc, .slice Ac nc cc, .slice Bc mc ec]) rfl (by kernel_rfl) (by kernel_rfl) (by kernel_rfl) (fun _ _ _ h => h) (Or.inl ⟨by kernel_rfl, by (intro w hSw; (try dsimp only at hSw); go_simp)⟩) hHeld ?_
          try simp only [Act.put, List.getElem_toArray, List.getElem_cons_succ, List.getElem_cons_zero, List.setIfInBounds_toArray, List.set_cons_zero, List.set_cons_succ]
          refine wpAnyH_ready (rs := [2, 5]) (by kernel_rfl) (by simp) ?_
          refine AllReadyH.cons rfl (fun K hK => ?_) ?_
          · skip
            go_simp
            refine (mulQ _ _ _ _ 6 _ ha hb (by decide)).mono ?_
            rintro e v11 ⟨_, rfl, q11, hc11⟩
            have q11 := q11.le (show _ ≤ 52 by decide)
            obtain ⟨s11, A11, m11, c11, B11, n11, d11, rfl⟩ := q11.form
            have hB := hB.trans (hc11.mono hB.size)
            have ha := ha.below hc11
            have hb := hb.below hc11
            have hc := hc.below hc11
            have qx := qx.below hc11
            have qy := qy.below hc11
            go_wp2_with fail
            refine hK.out _ _ ?_ (fun hHeld => ?_)
            · exact hKeep.out _ hB
            clear hK K
            try simp only [Act.put, List.getElem_toArray, List.getElem_cons_succ, List.getElem_cons_zero, List.setIfInBounds_toArray, List.set_cons_zero, List.set_cons_succ]
            refine wpAnyH_ready (rs := [4, 5]) (by kernel_rfl) (by simp) ?_
            refine AllReadyH.cons rfl (fun K hK => ?_) ?_
            · skip
              go_simp
              refine (mulQ _ _ _ _ 52 _ q11.af (hc.le (show 6 ≤ 52 by decide)) (by decide)).mono ?_
              rintro e v12 ⟨_, rfl, q12, hc12⟩
              have q12 := q12.le (show _ ≤ 420 by decide)
              obtain ⟨s12, A12, m12, c12, B12, n12, d12, rfl⟩ := q12.form
              have hB := hB.trans (hc12.mono hB.size)
              have ha := ha.below hc12
              have hb := hb.below hc12
              have hc := hc.below hc12
              have qx := qx.below hc12
              have qy := qy.below hc12
              have q11 := q11.below hc12
              go_wp2_with fail
              refine hK.out _ _ ?_ (fun hHeld => ?_)
              · exact hKeep.out _ hB
              clear hK K
              try simp only [Act.put, List.getElem_toArray, List.getElem_cons_succ, List.getElem_cons_zero, List.setIfInBounds_toArray, List.set_cons_zero, List.set_cons_succ]
              refine wpAnyH_ready (rs := [5]) (by kernel_rfl) (by simp) ?_
              refine AllReadyH.cons rfl (fun K hK => ?_) AllReadyH.nil
              go_simp
              refine hK.out _ _ ?_ (fun hHeld => ?_)
              · exact hKeep.out _ (hB.alloc hB.size _)
              clear hK K
              try simp only [Act.put, List.getElem_toArray, List.getElem_cons_succ, List.getElem_cons_zero, List.setIfInBounds_toArray, List.set_cons_zero, List.set_cons_succ]
              have hgz := Lib.hid (show uy.heap.size ≤ (v12 : World).heap.size from hB.size)
              have Z : Blk ((v12 : World).alloc (.cells #[.bool false, .slice none 0 0, .slice none 0 0] 24)) (v12 : World).heap.size 24 #[.bool false, .slice none 0 0, .slice none 0 0] := Blk.new v12 24 #[.bool false, .slice none 0 0, .slice none 0 0]
              refine wpAnyH_ready (rs := [6]) (by kernel_rfl) (by simp) ?_
              refine AllReadyH.cons rfl (fun K hK => ?_) AllReadyH.nil
              have r0 := Z.cell 0
              have r1 := Z.cell 1
              have r2 := Z.cell 2
              have f0 := Z.frozen 0
              have f1 := Z.frozen 1
              have f2 := Z.frozen 2
              go_simp
              refine hK.out _ _ ?_ (fun hHeld => ?_)
              · exact hKeep.out _ (hB.alloc hB.size _)
              clear hK K
              try simp only [Act.put, List.getElem_toArray, List.getElem_cons_succ, List.getElem_cons_zero, List.setIfInBounds_toArray, List.set_cons_zero, List.set_cons_succ]
              refine wpAnyH_done (by kernel_rfl) ?_ _
              go_wp2_with fail
              go_meet
              exact ⟨_, s12, A12, m12, c12, B12, n12, d12, rfl, Blk.new _ _ _, q12.below ((Below.refl _ _).alloc (Nat.le_refl _) _), hB.alloc hB.size _⟩
            refine AllReadyH.cons rfl (fun K hK => ?_) AllReadyH.nil
            go_simp
            refine hK.out _ _ ?_ (fun hHeld => ?_)
            · exact hKeep.out _ (hB.alloc hB.size _)
            clear hK K
            try simp only [Act.put, List.getElem_toArray, List.getElem_cons_succ, List.getElem_cons_zero, List.setIfInBounds_toArray, List.set_cons_zero, List.set_cons_succ]
            have hgz := Lib.hid (show uy.heap.size ≤ (v11 : World).heap.size from hB.size)
            have Z : Blk ((v11 : World).alloc (.cells #[.bool false, .slice none 0 0, .slice none 0 0] 24)) (v11 : World).heap.size 24 #[.bool false, .slice none 0 0, .slice none 0 0] := Blk.new v11 24 #[.bool false, .slice none 0 0, .slice none 0 0]
            have hal := (Below.refl (v11 : World).heap.size v11).alloc (Nat.le_refl _) (.cells #[.bool false, .slice none 0 0, .slice none 0 0] 24)
            have hB := hB.alloc hB.size (.cells #[.bool false, .slice none 0 0, .slice none 0 0] 24)
            have ha := ha.below hal
            have hb := hb.below hal
            have hc := hc.below hal
            have qx := qx.below hal
            have qy := qy.below hal
            have q11 := q11.below hal
            refine wpAnyH_ready (rs := [4]) (by kernel_rfl) (by simp) ?_
            refine AllReadyH.cons rfl (fun K hK => ?_) AllReadyH.nil
            go_simp
            refine (mulQ _ _ _ _ 52 _ q11.af (hc.le (show 6 ≤ 52 by decide)) (by decide)).mono ?_
            rintro e v13 ⟨_, rfl, q13, hc13⟩
            have q13 := q13.le (show _ ≤ 420 by decide)
            obtain ⟨s13, A13, m13, c13, B13, n13, d13, rfl⟩ := q13.form
            have hB := hB.trans (hc13.mono hB.size)
            have ha := ha.below hc13
            have hb := hb.below hc13
            have hc := hc.below hc13
            have qx := qx.below hc13
            have qy := qy.below hc13
            have q11 := q11.below hc13
            have Z := Z.below hc13
            go_wp2_with fail
            refine hK.out _ _ ?_ (fun hHeld => ?_)
            · exact hKeep.out _ hB
            clear hK K
            try simp only [Act.put, List.getElem_toArray, List.getElem_cons_succ, List.getElem_cons_zero, List.setIfInBounds_toArray, List.set_cons_zero, List.set_cons_succ]
            refine wpAnyH_ready (rs := [6]) (by kernel_rfl) (by simp) ?_
            refine AllReadyH.cons rfl (fun K hK => ?_) AllReadyH.nil
            have r0 := Z.cell 0
            have r1 := Z.cell 1
            have r2 := Z.cell 2
            have f0 := Z.frozen 0
            have f1 := Z.frozen 1
            have f2 := Z.frozen 2
            go_simp
            refine hK.out _ _ ?_ (fun hHeld => ?_)
            · exact hKeep.out _ (bel_set3 hB hgz.out _ _ _)
            clear hK K
            try simp only [Act.put, List.getElem_toArray, List.getElem_cons_succ, List.getElem_cons_zero, List.setIfInBounds_toArray, List.set_cons_zero, List.set_cons_succ]
            refine wpAnyH_done (by kernel_rfl) ?_ _
            go_wp2_with fail
            go_meet
            exact ⟨_, s13, A13, m13, c13, B13, n13, d13, rfl, ((Z.set_ 0 _).set_ 1 _).set_ 2 _, q13.set3 Z _ _ _, bel_set3 hB hgz.out _ _ _⟩
          refine AllReadyH.cons rfl (fun K hK => ?_) AllReadyH.nil
          go_simp
          refine hK.out _ _ ?_ (fun hHeld => ?_)
          · exact hKeep.out _ (hB.alloc hB.size _)
          clear hK K
          try simp only [Act.put, List.getElem_toArray, List.getElem_cons_succ, List.getElem_cons_zero, List.setIfInBounds_toArray, List.set_cons_zero, List.set_cons_succ]
          have hgz := Lib.hid (show uy.heap.size ≤ uy.heap.size from hB.size)
          have Z : Blk ((uy.drew : World).alloc (.cells #[.bool false, .slice none 0 0, .slice none 0 0] 24)) uy.heap.size 24 #[.bool false, .slice none 0 0, .slice none 0 0] := Blk.new uy.drew 24 #[.bool false, .slice none 0 0, .slice none 0 0]
          have hal := (Below.refl (uy.drew : World).heap.size uy.drew).alloc (Nat.le_refl _) (.cells #[.bool false, .slice none 0 0, .slice none 0 0] 24)
          have hB := hB.alloc hB.size (.cells #[.bool false, .slice none 0 0, .slice none 0 0] 24)
          have ha := ha.below hal
          have hb := hb.below hal
          have hc := hc.below hal
          have qx := qx.below hal
          have qy := qy.below hal
          refine wpAnyH_ready (rs := [2]) (by kernel_rfl) (by simp) ?_
          refine AllReadyH.cons rfl (fun K hK => ?_) AllReadyH.nil
          go_simp
          refine (mulQ _ _ _ _ 6 _ ha hb (by decide)).mono ?_
          rintro e v14 ⟨_, rfl, q14, hc14⟩
          have q14 := q14.le (show _ ≤ 52 by decide)
          obtain ⟨s14, A14, m14, c14, B14, n14, d14, rfl⟩ := q14.form
          have hB := hB.trans (hc14.mono hB.size)
          have ha := ha.below hc14
          have hb := hb.below hc14
          have hc := hc.below hc14
          have qx := qx.below hc14
          have qy := qy.below hc14
          have Z := Z.below hc14
          go_wp2_with fail
          refine hK.out _ _ ?_ (fun hHeld => ?_)
          · exact hKeep.out _ hB
          clear hK K
          try simp only [Act.put, List.getElem_toArray, List.getElem_cons_succ, List.getElem_cons_zero, List.setIfInBounds_toArray, List.set_cons_zero, List.set_cons_succ]
          refine wpAnyH_ready (rs := [4]) (by kernel_rfl) (by simp) ?_
          refine AllReadyH.cons rfl (fun K hK => ?_) AllReadyH.nil
          go_simp
          refine (mulQ _ _ _ _ 52 _ q14.af (hc.le (show 6 ≤ 52 by decide)) (by decide)).mono ?_
          rintro e v15 ⟨_, rfl, q15, hc15⟩
          have q15 := q15.le (show _ ≤ 420 by decide)
          obtain ⟨s15, A15, m15, c15, B15, n15, d15, rfl⟩ := q15.form
          have hB := hB.trans (hc15.mono hB.size)
          have ha := ha.below hc15
          have hb := hb.below hc15
          have hc := hc.below hc15
          have qx := qx.below hc15
          have qy := qy.below hc15
          have q14 := q14.below hc15
          have Z := Z.below hc15
          go_wp2_with fail
          refine hK.out _ _ ?_ (fun hHeld => ?_)
          · exact hKeep.out _ hB
          clear hK K
          try simp only [Act.put, List.getElem_toArray, List.getElem_cons_succ, List.getElem_cons_zero, List.setIfInBounds_toArray, List.set_cons_zero, List.set_cons_succ]
          refine wpAnyH_ready (rs := [6]) (by kernel_rfl) (by simp) ?_
          refine AllReadyH.cons rfl (fun K hK => ?_) AllReadyH.nil
          have r0 := Z.cell 0
          have r1 := Z.cell 1
          have r2 := Z.cell 2
          have f0 := Z.frozen 0
          have f1 := Z.frozen 1
          have f2 := Z.frozen 2
          go_simp
          refine hK.out _ _ ?_ (fun hHeld => ?_)
          · exact hKeep.out _ (bel_set3 hB hgz.out _ _ _)
          clear hK K
          try simp only [Act.put, List.getElem_toArray, List.getElem_cons_succ, List.getElem_cons_zero, List.setIfInBounds_toArray, List.set_cons_zero, List.set_cons_succ]
          refine wpAnyH_done (by kernel_rfl) ?_ _
          go_wp2_with fail
          go_meet
          exact ⟨_, s15, A15, m15, c15, B15, n15, d15, rfl, ((Z.set_ 0 _).set_ 1 _).set_ 2 _, q15.set3 Z _ _ _, bel_set3 hB hgz.out _ _ _⟩
      case rest =>
        clear hKeep
        obtain ⟨gu, s_u, A_u, m_u, c_u, B_u, n_u, d_u, rfl, Xu, qu, hB⟩ := hcut
        generalize wc = uu at *
        have hw := hw.trans (hB.mono hw.size)
        have ha := ha.below hB
        have hb := hb.below hB
        have hc := hc.below hB
        have qx := qx.below hB
        have qy := qy.below hB
        have Xa := Xa.below hB
        have Xb := Xb.below hB
        have Xc := Xc.below hB
        have Xx := Xx.below hB
        have Xy := Xy.below hB
        have hB := Below.refl uu.heap.size uu
        go_upto_region 6 with fail
        have kb_0 : uu.cell? ⟨w.heap.size + 1, 0, none⟩ = some (.bool sb) := Xb.cell 0
        have kb_1 : uu.cell? ⟨w.heap.size + 1, 1, none⟩ = some (.slice Ab nb cb) := Xb.cell 1
        have kb_2 : uu.cell? ⟨w.heap.size + 1, 2, none⟩ = some (.slice Bb mb eb) := Xb.cell 2
        have ka_0 : uu.cell? ⟨w.heap.size, 0, none⟩ = some (.bool sa) := Xa.cell 0
        have ka_1 : uu.cell? ⟨w.heap.size, 1, none⟩ = some (.slice Aa na ca) := Xa.cell 1
        have ka_2 : uu.cell? ⟨w.heap.size, 2, none⟩ = some (.slice Ba ma ea) := Xa.cell 2
        have kc_0 : uu.cell? ⟨w.heap.size + 1 + 1, 0, none⟩ = some (.bool sc) := Xc.cell 0
        have kc_1 : uu.cell? ⟨w.heap.size + 1 + 1, 1, none⟩ = some (.slice Ac nc cc) := Xc.cell 1
        have kc_2 : uu.cell? ⟨w.heap.size + 1 + 1, 2, none⟩ = some (.slice Bc mc ec) := Xc.cell 2
        have hKeep := Lib.hid (fun (wx : World) (hb : Below uu.heap.size uu wx) => (⟨(hb.cell (World.block_lt_of_cell? _ _ kb_0)).trans kb_0, (hb.cell (World.block_lt_of_cell? _ _ kb_1)).trans kb_1, (hb.cell (World.block_lt_of_cell? _ _ kb_2)).trans kb_2, (hb.cell (World.block_lt_of_cell? _ _ ka_0)).trans ka_0, (hb.cell (World.block_lt_of_cell? _ _ ka_1)).trans ka_1, (hb.cell (World.block_lt_of_cell? _ _ ka_2)).trans ka_2, (hb.cell (World.block_lt_of_cell? _ _ kc_0)).trans kc_0, (hb.cell (World.block_lt_of_cell? _ _ kc_1)).trans kc_1, (hb.cell (World.block_lt_of_cell? _ _ kc_2)).trans kc_2⟩ : wx.cell? ⟨w.heap.size + 1, 0, none⟩ = some (.bool sb) ∧ wx.cell? ⟨w.heap.size + 1, 1, none⟩ = some (.slice Ab nb cb) ∧ wx.cell? ⟨w.heap.size + 1, 2, none⟩ = some (.slice Bb mb eb) ∧ wx.cell? ⟨w.heap.size, 0, none⟩ = some (.bool sa) ∧ wx.cell? ⟨w.heap.size, 1, none⟩ = some (.slice Aa na ca) ∧ wx.cell? ⟨w.heap.size, 2, none⟩ = some (.slice Ba ma ea) ∧ wx.cell? ⟨w.heap.size + 1 + 1, 0, none⟩ = some (.bool sc) ∧ wx.cell? ⟨w.heap.size + 1 + 1, 1, none⟩ = some (.slice Ac nc cc) ∧ wx.cell? ⟨w.heap.size + 1 + 1, 2, none⟩ = some (.slice Bc mc ec)))
        clear kb_0 kb_1 kb_2 ka_0 ka_1 ka_2 kc_0 kc_1 kc_2
        go_cut [10] (fun v wx => ∃ g s A m c B n d, v = .pointer (some ⟨g, 0, none⟩) ∧ Blk wx g 24 #[.bool s, .slice A m c, .slice B n d] ∧ FQ wx (.agg #[.bool s, .slice A m c, .slice B n d]) (qb * (qa * qc)) 420 ∧ Below uu.heap.size uu wx)
        case first =>
          as_aux_lemma =>
            have hB := bel_drewN (Below.refl uu.heap.size uu) 1
            have ha := ha.below hB
            have hb := hb.below hB
            have hc := hc.below hB
            have qx := qx.below hB
            have qy := qy.below hB
            have qu := qu.below hB
            refine wp_region_held_drew (S := (fun wx => wx.cell? ⟨w.heap.size + 1, 0, none⟩ = some (.bool sb) ∧ wx.cell? ⟨w.heap.size + 1, 1, none⟩ = some (.slice Ab nb cb) ∧ wx.cell? ⟨w.heap.size + 1, 2, none⟩ = some (.slice Bb mb eb) ∧ wx.cell? ⟨w.heap.size, 0, none⟩ = some (.bool sa) ∧ wx.cell? ⟨w.heap.size, 1, none⟩ = some (.slice Aa na ca) ∧ wx.cell? ⟨w.heap.size, 2, none⟩ = some (.slice Ba ma ea) ∧ wx.cell? ⟨w.heap.size + 1 + 1, 0, none⟩ = some (.bool sc) ∧ wx.cell? ⟨w.heap.size + 1 + 1, 1, none⟩ = some (.slice Ac nc cc) ∧ wx.cell? ⟨w.heap.size + 1 + 1, 2, none⟩ = some (.slice Bc mc ec))) (by kernel_rfl) (hKeep.out _ hB) (fun hHeld => ?_)
            refine wpAnyH_take (i := 0) (v := .agg #[.bool sb, .slice Ab nb cb, .slice Bb mb eb]) rfl (by kernel_rfl) (by kernel_rfl) (by kernel_rfl) (fun _ _ _ h => h) (Or.inl ⟨by kernel_rfl, by (intro w hSw; (try dsimp only at hSw); go_simp)⟩) hHeld ?_
            try simp only [Act.put, List.getElem_toArray, List.getElem_cons_succ, List.getElem_cons_zero, List.setIfInBounds_toArray, List.set_cons_zero, List.set_cons_succ]
            refine wpAnyH_take (i := 1) (v := .agg #[.bool sa, .slice Aa na ca, .slice Ba ma ea]) rfl (by kernel_rfl) (by kernel_rfl) (by kernel_rfl) (fun _ _ _ h => h) (Or.inl ⟨by kernel_rfl, by (intro w hSw; (try dsimp only at hSw); go_simp)⟩) hHeld ?_
            try simp only [Act.put, List.getElem_toArray, List.getElem_cons_succ, List.getElem_cons_zero, List.setIfInBounds_toArray, List.set_cons_zero, List.set_cons_succ]
            refine wpAnyH_take (i := 2) (v := .agg #[.bool sc, .slice Ac nc cc, .slice Bc mc ec]) rfl (by kernel_rfl) (by kernel_rfl) (by kernel_rfl) (fun _ _ _ h => h) (Or.inl ⟨by kernel_rfl, by (intro w hSw; (try dsimp only at hSw); go_simp)⟩) hHeld ?_
            try simp only [Act.put, List.getElem_toArray, List.getElem_cons_succ, List.getElem_cons_zero, List.setIfInBounds_toArray, List.set_cons_zero, List.set_cons_succ]
            refine wpAnyH_ready (rs := [3, 5]) (by kernel_rfl) (by simp) ?_
            refine AllReadyH.cons rfl (fun K hK => ?_) ?_
            · skip
              go_simp
              refine (mulQ _ _ _ _ 6 _ ha hc (by decide)).mono ?_
              rintro e v16 ⟨_, rfl, q16, hc16⟩
              have q16 := q16.le (show _ ≤ 52 by decide)
              obtain ⟨s16, A16, m16, c16, B16, n16, d16, rfl⟩ := q16.form
              have hB := hB.trans (hc16.mono hB.size)
              have ha := ha.below hc16
              have hb := hb.below hc16
              have hc := hc.below hc16
              have qx := qx.below hc16
              have qy := qy.below hc16
              have qu := qu.below hc16
              go_wp2_with fail
              refine hK.out _ _ ?_ (fun hHeld => ?_)
              · exact hKeep.out _ hB
              clear hK K
              try simp only [Act.put, List.getElem_toArray, List.getElem_cons_succ, List.getElem_cons_zero, List.setIfInBounds_toArray, List.set_cons_zero, List.set_cons_succ]
              refine wpAnyH_ready (rs := [4, 5]) (by kernel_rfl) (by simp) ?_
              refine AllReadyH.cons rfl (fun K hK => ?_) ?_
              · skip
                go_simp
                refine (mulQ _ _ _ _ 52 _ (hb.le (show 6 ≤ 52 by decide)) q16.af (by decide)).mono ?_
                rintro e v17 ⟨_, rfl, q17, hc17⟩
                have q17 := q17.le (show _ ≤ 420 by decide)
                obtain ⟨s17, A17, m17, c17, B17, n17, d17, rfl⟩ := q17.form
                have hB := hB.trans (hc17.mono hB.size)
                have ha := ha.below hc17
                have hb := hb.below hc17
                have hc := hc.below hc17
                have qx := qx.below hc17
                have qy := qy.below hc17
                have qu := qu.below hc17
                have q16 := q16.below hc17
                go_wp2_with fail
                refine hK.out _ _ ?_ (fun hHeld => ?_)
                · exact hKeep.out _ hB
                clear hK K
                try simp only [Act.put, List.getElem_toArray, List.getElem_cons_succ, List.getElem_cons_zero, List.setIfInBounds_toArray, List.set_cons_zero, List.set_cons_succ]
                refine wpAnyH_ready (rs := [5]) (by kernel_rfl) (by simp) ?_
                refine AllReadyH.cons rfl (fun K hK => ?_) AllReadyH.nil
                go_simp
                refine hK.out _ _ ?_ (fun hHeld => ?_)
                · exact hKeep.out _ (hB.alloc hB.size _)
                clear hK K
                try simp only [Act.put, List.getElem_toArray, List.getElem_cons_succ, List.getElem_cons_zero, List.setIfInBounds_toArray, List.set_cons_zero, List.set_cons_succ]
                have hgz := Lib.hid (show uu.heap.size ≤ (v17 : World).heap.size from hB.size)
                have Z : Blk ((v17 : World).alloc (.cells #[.bool false, .slice none 0 0, .slice none 0 0] 24)) (v17 : World).heap.size 24 #[.bool false, .slice none 0 0, .slice none 0 0] := Blk.new v17 24 #[.bool false, .slice none 0 0, .slice none 0 0]
                refine wpAnyH_ready (rs := [6]) (by kernel_rfl) (by simp) ?_
                refine AllReadyH.cons rfl (fun K hK => ?_) AllReadyH.nil
                have r0 := Z.cell 0
                have r1 := Z.cell 1
                have r2 := Z.cell 2
                have f0 := Z.frozen 0
                have f1 := Z.frozen 1
                have f2 := Z.frozen 2
                go_simp
                refine hK.out _ _ ?_ (fun hHeld => ?_)
                · exact hKeep.out _ (hB.alloc hB.size _)
                clear hK K
                try simp only [Act.put, List.getElem_toArray, List.getElem_cons_succ, List.getElem_cons_zero, List.setIfInBounds_toArray, List.set_cons_zero, List.set_cons_succ]
                refine wpAnyH_done (by kernel_rfl) ?_ _
                go_wp2_with fail
                go_meet
                exact ⟨_, s17, A17, m17, c17, B17, n17, d17, rfl, Blk.new _ _ _, q17.below ((Below.refl _ _).alloc (Nat.le_refl _) _), hB.alloc hB.size _⟩
              refine AllReadyH.cons rfl (fun K hK => ?_) AllReadyH.nil
              go_simp
              refine hK.out _ _ ?_ (fun hHeld => ?_)
              · exact hKeep.out _ (hB.alloc hB.size _)
              clear hK K
              try simp only [Act.put, List.getElem_toArray, List.getElem_cons_succ, List.getElem_cons_zero, List.setIfInBounds_toArray, List.set_cons_zero, List.set_cons_succ]
              have hgz := Lib.hid (show uu.heap.size ≤ (v16 : World).heap.size from hB.size)
              have Z : Blk ((v16 : World).alloc (.cells #[.bool false, .slice none 0 0, .slice none 0 0] 24)) (v16 : World).heap.size 24 #[.bool false, .slice none 0 0, .slice none 0 0] := Blk.new v16 24 #[.bool false, .slice none 0 0, .slice none 0 0]
              have hal := (Below.refl (v16 : World).heap.size v16).alloc (Nat.le_refl _) (.cells #[.bool false, .slice none 0 0, .slice none 0 0] 24)
              have hB := hB.alloc hB.size (.cells #[.bool false, .slice none 0 0, .slice none 0 0] 24)
              have ha := ha.below hal
              have hb := hb.below hal
              have hc := hc.below hal
              have qx := qx.below hal
              have qy := qy.below hal
              have qu := qu.below hal
              have q16 := q16.below hal
              refine wpAnyH_ready (rs := [4]) (by kernel_rfl) (by simp) ?_
              refine AllReadyH.cons rfl (fun K hK => ?_) AllReadyH.nil
              go_simp
              refine (mulQ _ _ _ _ 52 _ (hb.le (show 6 ≤ 52 by decide)) q16.af (by decide)).mono ?_
              rintro e v18 ⟨_, rfl, q18, hc18⟩
              have q18 := q18.le (show _ ≤ 420 by decide)
              obtain ⟨s18, A18, m18, c18, B18, n18, d18, rfl⟩ := q18.form
              have hB := hB.trans (hc18.mono hB.size)
              have ha := ha.below hc18
              have hb := hb.below hc18
              have hc := hc.below hc18
              have qx := qx.below hc18
              have qy := qy.below hc18
              have qu := qu.below hc18
              have q16 := q16.below hc18
              have Z := Z.below hc18
              go_wp2_with fail
              refine hK.out _ _ ?_ (fun hHeld => ?_)
              · exact hKeep.out _ hB
              clear hK K
              try simp only [Act.put, List.getElem_toArray, List.getElem_cons_succ, List.getElem_cons_zero, List.setIfInBounds_toArray, List.set_cons_zero, List.set_cons_succ]
              refine wpAnyH_ready (rs := [6]) (by kernel_rfl) (by simp) ?_
              refine AllReadyH.cons rfl (fun K hK => ?_) AllReadyH.nil
              have r0 := Z.cell 0
              have r1 := Z.cell 1
              have r2 := Z.cell 2
              have f0 := Z.frozen 0
              have f1 := Z.frozen 1
              have f2 := Z.frozen 2
              go_simp
              refine hK.out _ _ ?_ (fun hHeld => ?_)
              · exact hKeep.out _ (bel_set3 hB hgz.out _ _ _)
              clear hK K
              try simp only [Act.put, List.getElem_toArray, List.getElem_cons_succ, List.getElem_cons_zero, List.setIfInBounds_toArray, List.set_cons_zero, List.set_cons_succ]
              refine wpAnyH_done (by kernel_rfl) ?_ _
              go_wp2_with fail
              go_meet
              exact ⟨_, s18, A18, m18, c18, B18, n18, d18, rfl, ((Z.set_ 0 _).set_ 1 _).set_ 2 _, q18.set3 Z _ _ _, bel_set3 hB hgz.out _ _ _⟩
            refine AllReadyH.cons rfl (fun K hK => ?_) AllReadyH.nil
            go_simp
            refine hK.out _ _ ?_ (fun hHeld => ?_)
            · exact hKeep.out _ (hB.alloc hB.size _)
            clear hK K
            try simp only [Act.put, List.getElem_toArray, List.getElem_cons_succ, List.getElem_cons_zero, List.setIfInBounds_toArray, List.set_cons_zero, List.set_cons_succ]
            have hgz := Lib.hid (show uu.heap.size ≤ uu.heap.size from hB.size)
            have Z : Blk ((uu.drew : World).alloc (.cells #[.bool false, .slice none 0 0, .slice none 0 0] 24)) uu.heap.size 24 #[.bool false, .slice none 0 0, .slice none 0 0] := Blk.new uu.drew 24 #[.bool false, .slice none 0 0, .slice none 0 0]
            have hal := (Below.refl (uu.drew : World).heap.size uu.drew).alloc (Nat.le_refl _) (.cells #[.bool false, .slice none 0 0, .slice none 0 0] 24)
            have hB := hB.alloc hB.size (.cells #[.bool false, .slice none 0 0, .slice none 0 0] 24)
            have ha := ha.below hal
            have hb := hb.below hal
            have hc := hc.below hal
            have qx := qx.below hal
            have qy := qy.below hal
            have qu := qu.below hal
            refine wpAnyH_ready (rs := [3]) (by kernel_rfl) (by simp) ?_
            refine AllReadyH.cons rfl (fun K hK => ?_) AllReadyH.nil
            go_simp
            refine (mulQ _ _ _ _ 6 _ ha hc (by decide)).mono ?_
            rintro e v19 ⟨_, rfl, q19, hc19⟩
            have q19 := q19.le (show _ ≤ 52 by decide)
            obtain ⟨s19, A19, m19, c19, B19, n19, d19, rfl⟩ := q19.form
            have hB := hB.trans (hc19.mono hB.size)
            have ha := ha.below hc19
            have hb := hb.below hc19
            have hc := hc.below hc19
            have qx := qx.below hc19
            have qy := qy.below hc19
            have qu := qu.below hc19
            have Z := Z.below hc19
            go_wp2_with fail
            refine hK.out _ _ ?_ (fun hHeld => ?_)
            · exact hKeep.out _ hB
            clear hK K
            try simp only [Act.put, List.getElem_toArray, List.getElem_cons_succ, List.getElem_cons_zero, List.setIfInBounds_toArray, List.set_cons_zero, List.set_cons_succ]
            refine wpAnyH_ready (rs := [4]) (by kernel_rfl) (by simp) ?_
            refine AllReadyH.cons rfl (fun K hK => ?_) AllReadyH.nil
            go_simp
            refine (mulQ _ _ _ _ 52 _ (hb.le (show 6 ≤ 52 by decide)) q19.af (by decide)).mono ?_
            rintro e v20 ⟨_, rfl, q20, hc20⟩
            have q20 := q20.le (show _ ≤ 420 by decide)
            obtain ⟨s20, A20, m20, c20, B20, n20, d20, rfl⟩ := q20.form
            have hB := hB.trans (hc20.mono hB.size)
            have ha := ha.below hc20
            have hb := hb.below hc20
            have hc := hc.below hc20
            have qx := qx.below hc20
            have qy := qy.below hc20
            have qu := qu.below hc20
            have q19 := q19.below hc20
            have Z := Z.below hc20
            go_wp2_with fail
            refine hK.out _ _ ?_ (fun hHeld => ?_)
            · exact hKeep.out _ hB
            clear hK K
            try simp only [Act.put, List.getElem_toArray, List.getElem_cons_succ, List.getElem_cons_zero, List.setIfInBounds_toArray, List.set_cons_zero, List.set_cons_succ]
            refine wpAnyH_ready (rs := [6]) (by kernel_rfl) (by simp) ?_
            refine AllReadyH.cons rfl (fun K hK => ?_) AllReadyH.nil
            have r0 := Z.cell 0
            have r1 := Z.cell 1
            have r2 := Z.cell 2
            have f0 := Z.frozen 0
            have f1 := Z.frozen 1
            have f2 := Z.frozen 2
            go_simp
            refine hK.out _ _ ?_ (fun hHeld => ?_)
            · exact hKeep.out _ (bel_set3 hB hgz.out _ _ _)
            clear hK K
            try simp only [Act.put, List.getElem_toArray, List.getElem_cons_succ, List.getElem_cons_zero, List.setIfInBounds_toArray, List.set_cons_zero, List.set_cons_succ]
            refine wpAnyH_done (by kernel_rfl) ?_ _
            go_wp2_with fail
            go_meet
            exact ⟨_, s20, A20, m20, c20, B20, n20, d20, rfl, ((Z.set_ 0 _).set_ 1 _).set_ 2 _, q20.set3 Z _ _ _, bel_set3 hB hgz.out _ _ _⟩
        case rest =>
          clear hKeep
          obtain ⟨gv, s_v, A_v, m_v, c_v, B_v, n_v, d_v, rfl, Xv, qv, hB⟩ := hcut
          generalize wc = uv at *
          have hw := hw.trans (hB.mono hw.size)
          have ha := ha.below hB
          have hb := hb.below hB
          have hc := hc.below hB
          have qx := qx.below hB
          have qy := qy.below hB
          have qu := qu.below hB
          have Xa := Xa.below hB
          have Xb := Xb.below hB
          have Xc := Xc.below hB
          have Xx := Xx.below hB
          have Xy := Xy.below hB
          have Xu := Xu.below hB
          have hB := Below.refl uv.heap.size uv
          go_upto_region 7 with fail
          have ka_0 : uv.cell? ⟨w.heap.size, 0, none⟩ = some (.bool sa) := Xa.cell 0
          have ka_1 : uv.cell? ⟨w.heap.size, 1, none⟩ = some (.slice Aa na ca) := Xa.cell 1
          have ka_2 : uv.cell? ⟨w.heap.size, 2, none⟩ = some (.slice Ba ma ea) := Xa.cell 2
          have kb_0 : uv.cell? ⟨w.heap.size + 1, 0, none⟩ = some (.bool sb) := Xb.cell 0
          have kb_1 : uv.cell? ⟨w.heap.size + 1, 1, none⟩ = some (.slice Ab nb cb) := Xb.cell 1
          have kb_2 : uv.cell? ⟨w.heap.size + 1, 2, none⟩ = some (.slice Bb mb eb) := Xb.cell 2
          have kc_0 : uv.cell? ⟨w.heap.size + 1 + 1, 0, none⟩ = some (.bool sc) := Xc.cell 0
          have kc_1 : uv.cell? ⟨w.heap.size + 1 + 1, 1, none⟩ = some (.slice Ac nc cc) := Xc.cell 1
          have kc_2 : uv.cell? ⟨w.heap.size + 1 + 1, 2, none⟩ = some (.slice Bc mc ec) := Xc.cell 2
          have hKeep := Lib.hid (fun (wx : World) (hb : Below uv.heap.size uv wx) => (⟨(hb.cell (World.block_lt_of_cell? _ _ ka_0)).trans ka_0, (hb.cell (World.block_lt_of_cell? _ _ ka_1)).trans ka_1, (hb.cell (World.block_lt_of_cell? _ _ ka_2)).trans ka_2, (hb.cell (World.block_lt_of_cell? _ _ kb_0)).trans kb_0, (hb.cell (World.block_lt_of_cell? _ _ kb_1)).trans kb_1, (hb.cell (World.block_lt_of_cell? _ _ kb_2)).trans kb_2, (hb.cell (World.block_lt_of_cell? _ _ kc_0)).trans kc_0, (hb.cell (World.block_lt_of_cell? _ _ kc_1)).trans kc_1, (hb.cell (World.block_lt_of_cell? _ _ kc_2)).trans kc_2⟩ : wx.cell? ⟨w.heap.size, 0, none⟩ = some (.bool sa) ∧ wx.cell? ⟨w.heap.size, 1, none⟩ = some (.slice Aa na ca) ∧ wx.cell? ⟨w.heap.size, 2, none⟩ = some (.slice Ba ma ea) ∧ wx.cell? ⟨w.heap.size + 1, 0, none⟩ = some (.bool sb) ∧ wx.cell? ⟨w.heap.size + 1, 1, none⟩ = some (.slice Ab nb cb) ∧ wx.cell? ⟨w.heap.size + 1, 2, none⟩ = some (.slice Bb mb eb) ∧ wx.cell? ⟨w.heap.size + 1 + 1, 0, none⟩ = some (.bool sc) ∧ wx.cell? ⟨w.heap.size + 1 + 1, 1, none⟩ = some (.slice Ac nc cc) ∧ wx.cell? ⟨w.heap.size + 1 + 1, 2, none⟩ = some (.slice Bc mc ec)))
          clear ka_0 ka_1 ka_2 kb_0 kb_1 kb_2 kc_0 kc_1 kc_2
          go_cut [11] (fun v wx => ∃ g s A m c B n d, v = .pointer (some ⟨g, 0, none⟩) ∧ Blk wx g 24 #[.bool s, .slice A m c, .slice B n d] ∧ FQ wx (.agg #[.bool s, .slice A m c, .slice B n d]) (qa * (qb + qc)) 724 ∧ Below uv.heap.size uv wx)
          case first =>
            as_aux_lemma =>
              have hB := bel_drewN (Below.refl uv.heap.size uv) 1
              have ha := ha.below hB
              have hb := hb.below hB
              have hc := hc.below hB
              have qx := qx.below hB
              have qy := qy.below hB
              have qu := qu.below hB
              have qv := qv.below hB
              refine wp_region_held_drew (S := (fun wx => wx.cell? ⟨w.heap.size, 0, none⟩ = some (.bool sa) ∧ wx.cell? ⟨w.heap.size, 1, none⟩ = some (.slice Aa na ca) ∧ wx.cell? ⟨w.heap.size, 2, none⟩ = some (.slice Ba ma ea) ∧ wx.cell? ⟨w.heap.size + 1, 0, none⟩ = some (.bool sb) ∧ wx.cell? ⟨w.heap.size + 1, 1, none⟩ = some (.slice Ab nb cb) ∧ wx.cell? ⟨w.heap.size + 1, 2, none⟩ = some (.slice Bb mb eb) ∧ wx.cell? ⟨w.heap.size + 1 + 1, 0, none⟩ = some (.bool sc) ∧ wx.cell? ⟨w.heap.size + 1 + 1, 1, none⟩ = some (.slice Ac nc cc) ∧ wx.cell? ⟨w.heap.size + 1 + 1, 2, none⟩ = some (.slice Bc mc ec))) (by kernel_rfl) (hKeep.out _ hB) (fun hHeld => ?_)
              refine wpAnyH_take (i := 0) (v := .agg #[.bool sa, .slice Aa na ca, .slice Ba ma ea]) rfl (by kernel_rfl) (by kernel_rfl) (by kernel_rfl) (fun _ _ _ h => h) (Or.inl ⟨by kernel_rfl, by (intro w hSw; (try dsimp only at hSw); go_simp)⟩) hHeld ?_
              try simp only [Act.put, List.getElem_toArray, List.getElem_cons_succ, List.getElem_cons_zero, List.setIfInBounds_toArray, List.set_cons_zero, List.set_cons_succ]
              refine wpAnyH_take (i := 1) (v := .agg #[.bool sb, .slice Ab nb cb, .slice Bb mb eb]) rfl (by kernel_rfl) (by kernel_rfl) (by kernel_rfl) (fun _ _ _ h => h) (Or.inl ⟨by kernel_rfl, by (intro w hSw; (try dsimp only at hSw); go_simp)⟩) hHeld ?_
              try simp only [Act.put, List.getElem_toArray, List.getElem_cons_succ, List.getElem_cons_zero, List.setIfInBounds_toArray, List.set_cons_zero, List.set_cons_succ]
              refine wpAnyH_take (i := 2) (v := .agg #[.bool sc, .slice Ac nc cc, .slice Bc mc ec]) rfl (by kernel_rfl) (by kernel_rfl) (by kernel_rfl) (fun _ _ _ h => h) (Or.inl ⟨by kernel_rfl, by (intro w hSw; (try dsimp only at hSw); go_simp)⟩) hHeld ?_
              try simp only [Act.put, List.getElem_toArray, List.getElem_cons_succ, List.getElem_cons_zero, List.setIfInBounds_toArray, List.set_cons_zero, List.set_cons_succ]
              refine wpAnyH_ready (rs := [3, 5]) (by kernel_rfl) (by simp) ?_
              refine AllReadyH.cons rfl (fun K hK => ?_) ?_
              · skip
                go_simp
                refine (addQ _ _ _ _ 6 _ hb hc (by decide)).mono ?_
                rintro e v21 ⟨_, rfl, q21, hc21⟩
                have q21 := q21.le (show _ ≤ 90 by decide)
                obtain ⟨s21, A21, m21, c21, B21, n21, d21, rfl⟩ := q21.form
                have hB := hB.trans (hc21.mono hB.size)
                have ha := ha.below hc21
                have hb := hb.below hc21
                have hc := hc.below hc21
                have qx := qx.below hc21
                have qy := qy.below hc21
                have qu := qu.below hc21
                have qv := qv.below hc21
                go_wp2_with fail
                refine hK.out _ _ ?_ (fun hHeld => ?_)
                · exact hKeep.out _ hB
                clear hK K
                try simp only [Act.put, List.getElem_toArray, List.getElem_cons_succ, List.getElem_cons_zero, List.setIfInBounds_toArray, List.set_cons_zero, List.set_cons_succ]
                refine wpAnyH_ready (rs := [4, 5]) (by kernel_rfl) (by simp) ?_
                refine AllReadyH.cons rfl (fun K hK => ?_) ?_
                · skip
                  go_simp
                  refine (mulQ _ _ _ _ 90 _ (ha.le (show 6 ≤ 90 by decide)) q21.af (by decide)).mono ?_
                  rintro e v22 ⟨_, rfl, q22, hc22⟩
                  have q22 := q22.le (show _ ≤ 724 by decide)
                  obtain ⟨s22, A22, m22, c22, B22, n22, d22, rfl⟩ := q22.form
                  have hB := hB.trans (hc22.mono hB.size)
                  have ha := ha.below hc22
                  have hb := hb.below hc22
                  have hc := hc.below hc22
                  have qx := qx.below hc22
                  have qy := qy.below hc22
                  have qu := qu.below hc22
                  have qv := qv.below hc22
                  have q21 := q21.below hc22
                  go_wp2_with fail
                  refine hK.out _ _ ?_ (fun hHeld => ?_)
                  · exact hKeep.out _ hB
                  clear hK K
                  try simp only [Act.put, List.getElem_toArray, List.getElem_cons_succ, List.getElem_cons_zero, List.setIfInBounds_toArray, List.set_cons_zero, List.set_cons_succ]
                  refine wpAnyH_ready (rs := [5]) (by kernel_rfl) (by simp) ?_
                  refine AllReadyH.cons rfl (fun K hK => ?_) AllReadyH.nil
                  go_simp
                  refine hK.out _ _ ?_ (fun hHeld => ?_)
                  · exact hKeep.out _ (hB.alloc hB.size _)
                  clear hK K
                  try simp only [Act.put, List.getElem_toArray, List.getElem_cons_succ, List.getElem_cons_zero, List.setIfInBounds_toArray, List.set_cons_zero, List.set_cons_succ]
                  have hgz := Lib.hid (show uv.heap.size ≤ (v22 : World).heap.size from hB.size)
                  have Z : Blk ((v22 : World).alloc (.cells #[.bool false, .slice none 0 0, .slice none 0 0] 24)) (v22 : World).heap.size 24 #[.bool false, .slice none 0 0, .slice none 0 0] := Blk.new v22 24 #[.bool false, .slice none 0 0, .slice none 0 0]
                  refine wpAnyH_ready (rs := [6]) (by kernel_rfl) (by simp) ?_
                  refine AllReadyH.cons rfl (fun K hK => ?_) AllReadyH.nil
                  have r0 := Z.cell 0
                  have r1 := Z.cell 1
                  have r2 := Z.cell 2
                  have f0 := Z.frozen 0
                  have f1 := Z.frozen 1
                  have f2 := Z.frozen 2
                  go_simp
                  refine hK.out _ _ ?_ (fun hHeld => ?_)
                  · exact hKeep.out _ (hB.alloc hB.size _)
                  clear hK K
                  try simp only [Act.put, List.getElem_toArray, List.getElem_cons_succ, List.getElem_cons_zero, List.setIfInBounds_toArray, List.set_cons_zero, List.set_cons_succ]
                  refine wpAnyH_done (by kernel_rfl) ?_ _
                  go_wp2_with fail
                  go_meet
                  exact ⟨_, s22, A22, m22, c22, B22, n22, d22, rfl, Blk.new _ _ _, q22.below ((Below.refl _ _).alloc (Nat.le_refl _) _), hB.alloc hB.size _⟩
                refine AllReadyH.cons rfl (fun K hK => ?_) AllReadyH.nil
                go_simp
                refine hK.out _ _ ?_ (fun hHeld => ?_)
                · exact hKeep.out _ (hB.alloc hB.size _)
                clear hK K
                try simp only [Act.put, List.getElem_toArray, List.getElem_cons_succ, List.getElem_cons_zero, List.setIfInBounds_toArray, List.set_cons_zero, List.set_cons_succ]
                have hgz := Lib.hid (show uv.heap.size ≤ (v21 : World).heap.size from hB.size)
                have Z : Blk ((v21 : World).alloc (.cells #[.bool false, .slice none 0 0, .slice none 0 0] 24)) (v21 : World).heap.size 24 #[.bool false, .slice none 0 0, .slice none 0 0] := Blk.new v21 24 #[.bool false, .slice none 0 0, .slice none 0 0]
                have hal := (Below.refl (v21 : World).heap.size v21).alloc (Nat.le_refl _) (.cells #[.bool false, .slice none 0 0, .slice none 0 0] 24)
                have hB := hB.alloc hB.size (.cells #[.bool false, .slice none 0 0, .slice none 0 0] 24)
                have ha := ha.below hal
                have hb := hb.below hal
                have hc := hc.below hal
                have qx := qx.below hal
                have qy := qy.below hal
                have qu := qu.below hal
                have qv := qv.below hal
                have q21 := q21.below hal
                refine wpAnyH_ready (rs := [4]) (by kernel_rfl) (by simp) ?_
                refine AllReadyH.cons rfl (fun K hK => ?_) AllReadyH.nil
                go_simp
                refine (mulQ _ _ _ _ 90 _ (ha.le (show 6 ≤ 90 by decide)) q21.af (by decide)).mono ?_
                rintro e v23 ⟨_, rfl, q23, hc23⟩
                have q23 := q23.le (show _ ≤ 724 by decide)
                obtain ⟨s23, A23, m23, c23, B23, n23, d23, rfl⟩ := q23.form
                have hB := hB.trans (hc23.mono hB.size)
                have ha := ha.below hc23
                have hb := hb.below hc23
                have hc := hc.below hc23
                have qx := qx.below hc23
                have qy := qy.below hc23
                have qu := qu.below hc23
                have qv := qv.below hc23
                have q21 := q21.below hc23
                have Z := Z.below hc23
                go_wp2_with fail
                refine hK.out _ _ ?_ (fun hHeld => ?_)
                · exact hKeep.out _ hB
                clear hK K
                try simp only [Act.put, List.getElem_toArray, List.getElem_cons_succ, List.getElem_cons_zero, List.setIfInBounds_toArray, List.set_cons_zero, List.set_cons_succ]
                refine wpAnyH_ready (rs := [6]) (by kernel_rfl) (by simp) ?_
                refine AllReadyH.cons rfl (fun K hK => ?_) AllReadyH.nil
                have r0 := Z.cell 0
                have r1 := Z.cell 1
                have r2 := Z.cell 2
                have f0 := Z.frozen 0
                have f1 := Z.frozen 1
                have f2 := Z.frozen 2
                go_simp
                refine hK.out _ _ ?_ (fun hHeld => ?_)
                · exact hKeep.out _ (bel_set3 hB hgz.out _ _ _)
                clear hK K
                try simp only [Act.put, List.getElem_toArray, List.getElem_cons_succ, List.getElem_cons_zero, List.setIfInBounds_toArray, List.set_cons_zero, List.set_cons_succ]
                refine wpAnyH_done (by kernel_rfl) ?_ _
                go_wp2_with fail
                go_meet
                exact ⟨_, s23, A23, m23, c23, B23, n23, d23, rfl, ((Z.set_ 0 _).set_ 1 _).set_ 2 _, q23.set3 Z _ _ _, bel_set3 hB hgz.out _ _ _⟩
              refine AllReadyH.cons rfl (fun K hK => ?_) AllReadyH.nil
              go_simp
              refine hK.out _ _ ?_ (fun hHeld => ?_)
              · exact hKeep.out _ (hB.alloc hB.size _)
              clear hK K
              try simp only [Act.put, List.getElem_toArray, List.getElem_cons_succ, List.getElem_cons_zero, List.setIfInBounds_toArray, List.set_cons_zero, List.set_cons_succ]
              have hgz := Lib.hid (show uv.heap.size ≤ uv.heap.size from hB.size)
              have Z : Blk ((uv.drew : World).alloc (.cells #[.bool false, .slice none 0 0, .slice none 0 0] 24)) uv.heap.size 24 #[.bool false, .slice none 0 0, .slice none 0 0] := Blk.new uv.drew 24 #[.bool false, .slice none 0 0, .slice none 0 0]
              have hal := (Below.refl (uv.drew : World).heap.size uv.drew).alloc (Nat.le_refl _) (.cells #[.bool false, .slice none 0 0, .slice none 0 0] 24)
              have hB := hB.alloc hB.size (.cells #[.bool false, .slice none 0 0, .slice none 0 0] 24)
              have ha := ha.below hal
              have hb := hb.below hal
              have hc := hc.below hal
              have qx := qx.below hal
              have qy := qy.below hal
              have qu := qu.below hal
              have qv := qv.below hal
              refine wpAnyH_ready (rs := [3]) (by kernel_rfl) (by simp) ?_
              refine AllReadyH.cons rfl (fun K hK => ?_) AllReadyH.nil
              go_simp
              refine (addQ _ _ _ _ 6 _ hb hc (by decide)).mono ?_
              rintro e v24 ⟨_, rfl, q24, hc24⟩
              have q24 := q24.le (show _ ≤ 90 by decide)
              obtain ⟨s24, A24, m24, c24, B24, n24, d24, rfl⟩ := q24.form
              have hB := hB.trans (hc24.mono hB.size)
              have ha := ha.below hc24
              have hb := hb.below hc24
              have hc := hc.below hc24
              have qx := qx.below hc24
              have qy := qy.below hc24
              have qu := qu.below hc24
              have qv := qv.below hc24
              have Z := Z.below hc24
              go_wp2_with fail
              refine hK.out _ _ ?_ (fun hHeld => ?_)
              · exact hKeep.out _ hB
              clear hK K
              try simp only [Act.put, List.getElem_toArray, List.getElem_cons_succ, List.getElem_cons_zero, List.setIfInBounds_toArray, List.set_cons_zero, List.set_cons_succ]
              refine wpAnyH_ready (rs := [4]) (by kernel_rfl) (by simp) ?_
              refine AllReadyH.cons rfl (fun K hK => ?_) AllReadyH.nil
              go_simp
              refine (mulQ _ _ _ _ 90 _ (ha.le (show 6 ≤ 90 by decide)) q24.af (by decide)).mono ?_
              rintro e v25 ⟨_, rfl, q25, hc25⟩
              have q25 := q25.le (show _ ≤ 724 by decide)
              obtain ⟨s25, A25, m25, c25, B25, n25, d25, rfl⟩ := q25.form
              have hB := hB.trans (hc25.mono hB.size)
              have ha := ha.below hc25
              have hb := hb.below hc25
              have hc := hc.below hc25
              have qx := qx.below hc25
              have qy := qy.below hc25
              have qu := qu.below hc25
              have qv := qv.below hc25
              have q24 := q24.below hc25
              have Z := Z.below hc25
              go_wp2_with fail
              refine hK.out _ _ ?_ (fun hHeld => ?_)
              · exact hKeep.out _ hB
              clear hK K
              try simp only [Act.put, List.getElem_toArray, List.getElem_cons_succ, List.getElem_cons_zero, List.setIfInBounds_toArray, List.set_cons_zero, List.set_cons_succ]
              refine wpAnyH_ready (rs := [6]) (by kernel_rfl) (by simp) ?_
              refine AllReadyH.cons rfl (fun K hK => ?_) AllReadyH.nil
              have r0 := Z.cell 0
              have r1 := Z.cell 1
              have r2 := Z.cell 2
              have f0 := Z.frozen 0
              have f1 := Z.frozen 1
              have f2 := Z.frozen 2
              go_simp
              refine hK.out _ _ ?_ (fun hHeld => ?_)
              · exact hKeep.out _ (bel_set3 hB hgz.out _ _ _)
              clear hK K
              try simp only [Act.put, List.getElem_toArray, List.getElem_cons_succ, List.getElem_cons_zero, List.setIfInBounds_toArray, List.set_cons_zero, List.set_cons_succ]
              refine wpAnyH_done (by kernel_rfl) ?_ _
              go_wp2_with fail
              go_meet
              exact ⟨_, s25, A25, m25, c25, B25, n25, d25, rfl, ((Z.set_ 0 _).set_ 1 _).set_ 2 _, q25.set3 Z _ _ _, bel_set3 hB hgz.out _ _ _⟩
          case rest =>
            clear hKeep
            obtain ⟨gl, s_l, A_l, m_l, c_l, B_l, n_l, d_l, rfl, Xl, ql, hB⟩ := hcut
            generalize wc = ul at *
            have hw := hw.trans (hB.mono hw.size)
            have ha := ha.below hB
            have hb := hb.below hB
            have hc := hc.below hB
            have qx := qx.below hB
            have qy := qy.below hB
            have qu := qu.below hB
            have qv := qv.below hB
            have Xa := Xa.below hB
            have Xb := Xb.below hB
            have Xc := Xc.below hB
            have Xx := Xx.below hB
            have Xy := Xy.below hB
            have Xu := Xu.below hB
            have Xv := Xv.below hB
            have hB := Below.refl ul.heap.size ul
            go_upto_region 8 with fail
            have ka_0 : ul.cell? ⟨w.heap.size, 0, none⟩ = some (.bool sa) := Xa.cell 0
            have ka_1 : ul.cell? ⟨w.heap.size, 1, none⟩ = some (.slice Aa na ca) := Xa.cell 1
            have ka_2 : ul.cell? ⟨w.heap.size, 2, none⟩ = some (.slice Ba ma ea) := Xa.cell 2
            have kb_0 : ul.cell? ⟨w.heap.size + 1, 0, none⟩ = some (.bool sb) := Xb.cell 0
            have kb_1 : ul.cell? ⟨w.heap.size + 1, 1, none⟩ = some (.slice Ab nb cb) := Xb.cell 1
            have kb_2 : ul.cell? ⟨w.heap.size + 1, 2, none⟩ = some (.slice Bb mb eb) := Xb.cell 2
            have kc_0 : ul.cell? ⟨w.heap.size + 1 + 1, 0, none⟩ = some (.bool sc) := Xc.cell 0
            have kc_1 : ul.cell? ⟨w.heap.size + 1 + 1, 1, none⟩ = some (.slice Ac nc cc) := Xc.cell 1
            have kc_2 : ul.cell? ⟨w.heap.size + 1 + 1, 2, none⟩ = some (.slice Bc mc ec) := Xc.cell 2
            have hKeep := Lib.hid (fun (wx : World) (hb : Below ul.heap.size ul wx) => (⟨(hb.cell (World.block_lt_of_cell? _ _ ka_0)).trans ka_0, (hb.cell (World.block_lt_of_cell? _ _ ka_1)).trans ka_1, (hb.cell (World.block_lt_of_cell? _ _ ka_2)).trans ka_2, (hb.cell (World.block_lt_of_cell? _ _ kb_0)).trans kb_0, (hb.cell (World.block_lt_of_cell? _ _ kb_1)).trans kb_1, (hb.cell (World.block_lt_of_cell? _ _ kb_2)).trans kb_2, (hb.cell (World.block_lt_of_cell? _ _ kc_0)).trans kc_0, (hb.cell (World.block_lt_of_cell? _ _ kc_1)).trans kc_1, (hb.cell (World.block_lt_of_cell? _ _ kc_2)).trans kc_2⟩ : wx.cell? ⟨w.heap.size, 0, none⟩ = some (.bool sa) ∧ wx.cell? ⟨w.heap.size, 1, none⟩ = some (.slice Aa na ca) ∧ wx.cell? ⟨w.heap.size, 2, none⟩ = some (.slice Ba ma ea) ∧ wx.cell? ⟨w.heap.size + 1, 0, none⟩ = some (.bool sb) ∧ wx.cell? ⟨w.heap.size + 1, 1, none⟩ = some (.slice Ab nb cb) ∧ wx.cell? ⟨w.heap.size + 1, 2, none⟩ = some (.slice Bb mb eb) ∧ wx.cell? ⟨w.heap.size + 1 + 1, 0, none⟩ = some (.bool sc) ∧ wx.cell? ⟨w.heap.size + 1 + 1, 1, none⟩ = some (.slice Ac nc cc) ∧ wx.cell? ⟨w.heap.size + 1 + 1, 2, none⟩ = some (.slice Bc mc ec)))
            clear ka_0 ka_1 ka_2 kb_0 kb_1 kb_2 kc_0 kc_1 kc_2
            go_cut [12] (fun v wx => ∃ g s A m c B n d, v = .pointer (some ⟨g, 0, none⟩) ∧ Blk wx g 24 #[.bool s, .slice A m c, .slice B n d] ∧ FQ wx (.agg #[.bool s, .slice A m c, .slice B n d]) (qa * qb + qc * qa) 642 ∧ Below ul.heap.size ul wx)
            case first =>
              as_aux_lemma =>
                have hB := bel_drewN (Below.refl ul.heap.size ul) 1
                have ha := ha.below hB
                have hb := hb.below hB
                have hc := hc.below hB
                have qx := qx.below hB
                have qy := qy.below hB
                have qu := qu.below hB
                have qv := qv.below hB
                have ql := ql.below hB
                refine wp_region_held_drew (S := (fun wx => wx.cell? ⟨w.heap.size, 0, none⟩ = some (.bool sa) ∧ wx.cell? ⟨w.heap.size, 1, none⟩ = some (.slice Aa na ca) ∧ wx.cell? ⟨w.heap.size, 2, none⟩ = some (.slice Ba ma ea) ∧ wx.cell? ⟨w.heap.size + 1, 0, none⟩ = some (.bool sb) ∧ wx.cell? ⟨w.heap.size + 1, 1, none⟩ = some (.slice Ab nb cb) ∧ wx.cell? ⟨w.heap.size + 1, 2, none⟩ = some (.slice Bb mb eb) ∧ wx.cell? ⟨w.heap.size + 1 + 1, 0, none⟩ = some (.bool sc) ∧ wx.cell? ⟨w.heap.size + 1 + 1, 1, none⟩ = some (.slice Ac nc cc) ∧ wx.cell? ⟨w.heap.size + 1 + 1, 2, none⟩ = some (.slice Bc mc ec))) (by kernel_rfl) (hKeep.out _ hB) (fun hHeld => ?_)
                refine wpAnyH_take (i := 0) (v := .agg #[.bool sa, .slice Aa na ca, .slice Ba ma ea]) rfl (by kernel_rfl) (by kernel_rfl) (by kernel_rfl) (fun _ _ _ h => h) (Or.inl ⟨by kernel_rfl, by (intro w hSw; (try dsimp only at hSw); go_simp)⟩) hHeld ?_
                try simp only [Act.put, List.getElem_toArray, List.getElem_cons_succ, List.getElem_cons_zero, List.setIfInBounds_toArray, List.set_cons_zero, List.set_cons_succ]
                refine wpAnyH_take (i := 1) (v := .agg #[.bool sb, .slice Ab nb cb, .slice Bb mb eb]) rfl (by kernel_rfl) (by kernel_rfl) (by kernel_rfl) (fun _ _ _ h => h) (Or.inl ⟨by kernel_rfl, by (intro w hSw; (try dsimp only at hSw); go_simp)⟩) hHeld ?_
                try simp only [Act.put, List.getElem_toArray, List.getElem_cons_succ, List.getElem_cons_zero, List.setIfInBounds_toArray, List.set_cons_zero, List.set_cons_succ]
                refine wpAnyH_take (i := 3) (v := .agg #[.bool sc, .slice Ac nc cc, .slice Bc mc ec]) rfl (by kernel_rfl) (by kernel_rfl) (by kernel_rfl) (fun _ _ _ h => h) (Or.inl ⟨by kernel_rfl, by (intro w hSw; (try dsimp only at hSw); go_simp)⟩) hHeld ?_
                try simp only [Act.put, List.getElem_toArray, List.getElem_cons_succ, List.getElem_cons_zero, List.setIfInBounds_toArray, List.set_cons_zero, List.set_cons_succ]
                refine wpAnyH_take (i := 4) (v := .agg #[.bool sa, .slice Aa na ca, .slice Ba ma ea]) rfl (by kernel_rfl) (by kernel_rfl) (by kernel_rfl) (fun _ _ _ h => h) (Or.inl ⟨by kernel_rfl, by (intro w hSw; (try dsimp only at hSw); go_simp)⟩) hHeld ?_
                try simp only [Act.put, List.getElem_toArray, List.getElem_cons_succ, List.getElem_cons_zero, List.setIfInBounds_toArray, List.set_cons_zero, List.set_cons_succ]
                refine wpAnyH_ready (rs := [2, 7]) (by kernel_rfl) (by simp) ?_
                refine AllReadyH.cons rfl (fun K hK => ?_) ?_
                · skip
                  go_simp
                  refine (mulQ _ _ _ _ 6 _ ha hb (by decide)).mono ?_
                  rintro e v26 ⟨_, rfl, q26, hc26⟩
                  have q26 := q26.le (show _ ≤ 52 by decide)
                  obtain ⟨s26, A26, m26, c26, B26, n26, d26, rfl⟩ := q26.form
                  have hB := hB.trans (hc26.mono hB.size)
                  have ha := ha.below hc26
                  have hb := hb.below hc26
                  have hc := hc.below hc26
                  have qx := qx.below hc26
                  have qy := qy.below hc26
                  have qu := qu.below hc26
                  have qv := qv.below hc26
                  have ql := ql.below hc26
                  go_wp2_with fail
                  refine hK.out _ _ ?_ (fun hHeld => ?_)
                  · exact hKeep.out _ hB
                  clear hK K
                  try simp only [Act.put, List.getElem_toArray, List.getElem_cons_succ, List.getElem_cons_zero, List.setIfInBounds_toArray, List.set_cons_zero, List.set_cons_succ]
                  refine wpAnyH_ready (rs := [5, 7]) (by kernel_rfl) (by simp) ?_
                  refine AllReadyH.cons rfl (fun K hK => ?_) ?_
                  · skip
                    go_simp
                    refine (mulQ _ _ _ _ 6 _ hc ha (by decide)).mono ?_
                    rintro e v27 ⟨_, rfl, q27, hc27⟩
                    have q27 := q27.le (show _ ≤ 52 by decide)
                    obtain ⟨s27, A27, m27, c27, B27, n27, d27, rfl⟩ := q27.form
                    have hB := hB.trans (hc27.mono hB.size)
                    have ha := ha.below hc27
                    have hb := hb.below hc27
                    have hc := hc.below hc27
                    have qx := qx.below hc27
                    have qy := qy.below hc27
                    have qu := qu.below hc27
                    have qv := qv.below hc27
                    have ql := ql.below hc27
                    have q26 := q26.below hc27
                    go_wp2_with fail
                    refine hK.out _ _ ?_ (fun hHeld => ?_)
                    · exact hKeep.out _ hB
                    clear hK K
                    try simp only [Act.put, List.getElem_toArray, List.getElem_cons_succ, List.getElem_cons_zero, List.setIfInBounds_toArray, List.set_cons_zero, List.set_cons_succ]
                    refine wpAnyH_ready (rs := [6, 7]) (by kernel_rfl) (by simp) ?_
                    refine AllReadyH.cons rfl (fun K hK => ?_) ?_
                    · skip
                      go_simp
                      refine (addQ _ _ _ _ 52 _ q26.af q27.af (by decide)).mono ?_
                      rintro e v28 ⟨_, rfl, q28, hc28⟩
                      have q28 := q28.le (show _ ≤ 642 by decide)
                      obtain ⟨s28, A28, m28, c28, B28, n28, d28, rfl⟩ := q28.form
                      have hB := hB.trans (hc28.mono hB.size)
                      have ha := ha.below hc28
                      have hb := hb.below hc28
                      have hc := hc.below hc28
                      have qx := qx.below hc28
                      have qy := qy.below hc28
                      have qu := qu.below hc28
                      have qv := qv.below hc28
                      have ql := ql.below hc28
                      have q26 := q26.below hc28
                      have q27 := q27.below hc28
                      go_wp2_with fail
                      refine hK.out _ _ ?_ (fun hHeld => ?_)
                      · exact hKeep.out _ hB
                      clear hK K
                      try simp only [Act.put, List.getElem_toArray, List.getElem_cons_succ, List.getElem_cons_zero, List.setIfInBounds_toArray, List.set_cons_zero, List.set_cons_succ]
                      refine wpAnyH_ready (rs := [7]) (by kernel_rfl) (by simp) ?_
                      refine AllReadyH.cons rfl (fun K hK => ?_) AllReadyH.nil
                      go_simp
                      refine hK.out _ _ ?_ (fun hHeld => ?_)
                      · exact hKeep.out _ (hB.alloc hB.size _)
                      clear hK K
                      try simp only [Act.put, List.getElem_toArray, List.getElem_cons_succ, List.getElem_cons_zero, List.setIfInBounds_toArray, List.set_cons_zero, List.set_cons_succ]
                      have hgz := Lib.hid (show ul.heap.size ≤ (v28 : World).heap.size from hB.size)
                      have Z : Blk ((v28 : World).alloc (.cells #[.bool false, .slice none 0 0, .slice none 0 0] 24)) (v28 : World).heap.size 24 #[.bool false, .slice none 0 0, .slice none 0 0] := Blk.new v28 24 #[.bool false, .slice none 0 0, .slice none 0 0]
                      refine wpAnyH_ready (rs := [8]) (by kernel_rfl) (by simp) ?_
                      refine AllReadyH.cons rfl (fun K hK => ?_) AllReadyH.nil
                      have r0 := Z.cell 0
                      have r1 := Z.cell 1
                      have r2 := Z.cell 2
                      have f0 := Z.frozen 0
                      have f1 := Z.frozen 1
                      have f2 := Z.frozen 2
                      go_simp
                      refine hK.out _ _ ?_ (fun hHeld => ?_)
                      · exact hKeep.out _ (hB.alloc hB.size _)
                      clear hK K
                      try simp only [Act.put, List.getElem_toArray, List.getElem_cons_succ, List.getElem_cons_zero, List.setIfInBounds_toArray, List.set_cons_zero, List.set_cons_succ]
                      refine wpAnyH_done (by kernel_rfl) ?_ _
                      go_wp2_with fail
                      go_meet
                      exact ⟨_, s28, A28, m28, c28, B28, n28, d28, rfl, Blk.new _ _ _, q28.below ((Below.refl _ _).alloc (Nat.le_refl _) _), hB.alloc hB.size _⟩
                    refine AllReadyH.cons rfl (fun K hK => ?_) AllReadyH.nil
                    go_simp
                    refine hK.out _ _ ?_ (fun hHeld => ?_)
                    · exact hKeep.out _ (hB.alloc hB.size _)
                    clear hK K
                    try simp only [Act.put, List.getElem_toArray, List.getElem_cons_succ, List.getElem_cons_zero, List.setIfInBounds_toArray, List.set_cons_zero, List.set_cons_succ]
                    have hgz := Lib.hid (show ul.heap.size ≤ (v27 : World).heap.size from hB.size)
                    have Z : Blk ((v27 : World).alloc (.cells #[.bool false, .slice none 0 0, .slice none 0 0] 24)) (v27 : World).heap.size 24 #[.bool false, .slice none 0 0, .slice none 0 0] := Blk.new v27 24 #[.bool false, .slice none 0 0, .slice none 0 0]
                    have hal := (Below.refl (v27 : World).heap.size v27).alloc (Nat.le_refl _) (.cells #[.bool false, .slice none 0 0, .slice none 0 0] 24)
                    have hB := hB.alloc hB.size (.cells #[.bool false, .slice none 0 0, .slice none 0 0] 24)
                    have ha := ha.below hal
                    have hb := hb.below hal
                    have hc := hc.below hal
                    have qx := qx.below hal
                    have qy := qy.below hal
                    have qu := qu.below hal
                    have qv := qv.below hal
                    have ql := ql.below hal
                    have q26 := q26.below hal
                    have q27 := q27.below hal
                    refine wpAnyH_ready (rs := [6]) (by kernel_rfl) (by simp) ?_
                    refine AllReadyH.cons rfl (fun K hK => ?_) AllReadyH.nil
                    go_simp
                    refine (addQ _ _ _ _ 52 _ q26.af q27.af (by decide)).mono ?_
                    rintro e v29 ⟨_, rfl, q29, hc29⟩
                    have q29 := q29.le (show _ ≤ 642 by decide)
                    obtain ⟨s29, A29, m29, c29, B29, n29, d29, rfl⟩ := q29.form
                    have hB := hB.trans (hc29.mono hB.size)
                    have ha := ha.below hc29
                    have hb := hb.below hc29
                    have hc := hc.below hc29
                    have qx := qx.below hc29
                    have qy := qy.below hc29
                    have qu := qu.below hc29
                    have qv := qv.below hc29
                    have ql := ql.below hc29
                    have q26 := q26.below hc29
                    have q27 := q27.below hc29
                    have Z := Z.below hc29
                    go_wp2_with fail
                    refine hK.out _ _ ?_ (fun hHeld => ?_)
                    · exact hKeep.out _ hB
                    clear hK K
                    try simp only [Act.put, List.getElem_toArray, List.getElem_cons_succ, List.getElem_cons_zero, List.setIfInBounds_toArray, List.set_cons_zero, List.set_cons_succ]
                    refine wpAnyH_ready (rs := [8]) (by kernel_rfl) (by simp) ?_
                    refine AllReadyH.cons rfl (fun K hK => ?_) AllReadyH.nil
                    have r0 := Z.cell 0
                    have r1 := Z.cell 1
                    have r2 := Z.cell 2
                    have f0 := Z.frozen 0
                    have f1 := Z.frozen 1
                    have f2 := Z.frozen 2
                    go_simp
                    refine hK.out _ _ ?_ (fun hHeld => ?_)
                    · exact hKeep.out _ (bel_set3 hB hgz.out _ _ _)
                    clear hK K
                    try simp only [Act.put, List.getElem_toArray, List.getElem_cons_succ, List.getElem_cons_zero, List.setIfInBounds_toArray, List.set_cons_zero, List.set_cons_succ]
                    refine wpAnyH_done (by kernel_rfl) ?_ _
                    go_wp2_with fail
                    go_meet
                    exact ⟨_, s29, A29, m29, c29, B29, n29, d29, rfl, ((Z.set_ 0 _).set_ 1 _).set_ 2 _, q29.set3 Z _ _ _, bel_set3 hB hgz.out _ _ _⟩
                  refine AllReadyH.cons rfl (fun K hK => ?_) AllReadyH.nil
                  go_simp
                  refine hK.out _ _ ?_ (fun hHeld => ?_)
                  · exact hKeep.out _ (hB.alloc hB.size _)
                  clear hK K
                  try simp only [Act.put, List.getElem_toArray, List.getElem_cons_succ, List.getElem_cons_zero, List.setIfInBounds_toArray, List.set_cons_zero, List.set_cons_succ]
                  have hgz := Lib.hid (show ul.heap.size ≤ (v26 : World).heap.size from hB.size)
                  have Z : Blk ((v26 : World).alloc (.cells #[.bool false, .slice none 0 0, .slice none 0 0] 24)) (v26 : World).heap.size 24 #[.bool false, .slice none 0 0, .slice none 0 0] := Blk.new v26 24 #[.bool false, .slice none 0 0, .slice none 0 0]
                  have hal := (Below.refl (v26 : World).heap.size v26).alloc (Nat.le_refl _) (.cells #[.bool false, .slice none 0 0, .slice none 0 0] 24)
                  have hB := hB.alloc hB.size (.cells #[.bool false, .slice none 0 0, .slice none 0 0] 24)
                  have ha := ha.below hal
                  have hb := hb.below hal
                  have hc := hc.below hal
                  have qx := qx.below hal
                  have qy := qy.below hal
                  have qu := qu.below hal
                  have qv := qv.below hal
                  have ql := ql.below hal
                  have q26 := q26.below hal
                  refine wpAnyH_ready (rs := [5]) (by kernel_rfl) (by simp) ?_
                  refine AllReadyH.cons rfl (fun K hK => ?_) AllReadyH.nil
                  go_simp
                  refine (mulQ _ _ _ _ 6 _ hc ha (by decide)).mono ?_
                  rintro e v30 ⟨_, rfl, q30, hc30⟩
                  have q30 := q30.le (show _ ≤ 52 by decide)
                  obtain ⟨s30, A30, m30, c30, B30, n30, d30, rfl⟩ := q30.form
                  have hB := hB.trans (hc30.mono hB.size)
                  have ha := ha.below hc30
                  have hb := hb.below hc30
                  have hc := hc.below hc30
                  have qx := qx.below hc30
                  have qy := qy.below hc30
                  have qu := qu.below hc30
                  have qv := qv.below hc30
                  have ql := ql.below hc30
                  have q26 := q26.below hc30
                  have Z := Z.below hc30
                  go_wp2_with fail
                  refine hK.out _ _ ?_ (fun hHeld => ?_)
                  · exact hKeep.out _ hB
                  clear hK K
                  try simp only [Act.put, List.getElem_toArray, List.getElem_cons_succ, List.getElem_cons_zero, List.setIfInBounds_toArray, List.set_cons_zero, List.set_cons_succ]
                  refine wpAnyH_ready (rs := [6]) (by kernel_rfl) (by simp) ?_
                  refine AllReadyH.cons rfl (fun K hK => ?_) AllReadyH.nil
                  go_simp
                  refine (addQ _ _ _ _ 52 _ q26.af q30.af (by decide)).mono ?_
                  rintro e v31 ⟨_, rfl, q31, hc31⟩
                  have q31 := q31.le (show _ ≤ 642 by decide)
                  obtain ⟨s31, A31, m31, c31, B31, n31, d31, rfl⟩ := q31.form
                  have hB := hB.trans (hc31.mono hB.size)
                  have ha := ha.below hc31
                  have hb := hb.below hc31
                  have hc := hc.below hc31
                  have qx := qx.below hc31
                  have qy := qy.below hc31
                  have qu := qu.below hc31
                  have qv := qv.below hc31
                  have ql := ql.below hc31
                  have q26 := q26.below hc31
                  have q30 := q30.below hc31
                  have Z := Z.below hc31
                  go_wp2_with fail
                  refine hK.out _ _ ?_ (fun hHeld => ?_)
                  · exact hKeep.out _ hB
                  clear hK K
                  try simp only [Act.put, List.getElem_toArray, List.getElem_cons_succ, List.getElem_cons_zero, List.setIfInBounds_toArray, List.set_cons_zero, List.set_cons_succ]
                  refine wpAnyH_ready (rs := [8]) (by kernel_rfl) (by simp) ?_
                  refine AllReadyH.cons rfl (fun K hK => ?_) AllReadyH.nil
                  have r0 := Z.cell 0
                  have r1 := Z.cell 1
                  have r2 := Z.cell 2
                  have f0 := Z.frozen 0
                  have f1 := Z.frozen 1
                  have f2 := Z.frozen 2
                  go_simp
                  refine hK.out _ _ ?_ (fun hHeld => ?_)
                  · exact hKeep.out _ (bel_set3 hB hgz.out _ _ _)
                  clear hK K
                  try simp only [Act.put, List.getElem_toArray, List.getElem_cons_succ, List.getElem_cons_zero, List.setIfInBounds_toArray, List.set_cons_zero, List.set_cons_succ]
                  refine wpAnyH_done (by kernel_rfl) ?_ _
                  go_wp2_with fail
                  go_meet
                  exact ⟨_, s31, A31, m31, c31, B31, n31, d31, rfl, ((Z.set_ 0 _).set_ 1 _).set_ 2 _, q31.set3 Z _ _ _, bel_set3 hB hgz.out _ _ _⟩
                refine AllReadyH.cons rfl (fun K hK => ?_) AllReadyH.nil
                go_simp
                refine hK.out _ _ ?_ (fun hHeld => ?_)
                · exact hKeep.out _ (hB.alloc hB.size _)
                clear hK K
                try simp only [Act.put, List.getElem_toArray, List.getElem_cons_succ, List.getElem_cons_zero, List.setIfInBounds_toArray, List.set_cons_zero, List.set_cons_succ]
                have hgz := Lib.hid (show ul.heap.size ≤ ul.heap.size from hB.size)
                have Z : Blk ((ul.drew : World).alloc (.cells #[.bool false, .slice none 0 0, .slice none 0 0] 24)) ul.heap.size 24 #[.bool false, .slice none 0 0, .slice none 0 0] := Blk.new ul.drew 24 #[.bool false, .slice none 0 0, .slice none 0 0]
                have hal := (Below.refl (ul.drew : World).heap.size ul.drew).alloc (Nat.le_refl _) (.cells #[.bool false, .slice none 0 0, .slice none 0 0] 24)
                have hB := hB.alloc hB.size (.cells #[.bool false, .slice none 0 0, .slice none 0 0] 24)
                have ha := ha.below hal
                have hb := hb.below hal
                have hc := hc.below hal
                have qx := qx.below hal
                have qy := qy.below hal
                have qu := qu.below hal
                have qv := qv.below hal
                have ql := ql.below hal
                refine wpAnyH_ready (rs := [2]) (by kernel_rfl) (by simp) ?_
                refine AllReadyH.cons rfl (fun K hK => ?_) AllReadyH.nil
                go_simp
                refine (mulQ _ _ _ _ 6 _ ha hb (by decide)).mono ?_
                rintro e v32 ⟨_, rfl, q32, hc32⟩
                have q32 := q32.le (show _ ≤ 52 by decide)
                obtain ⟨s32, A32, m32, c32, B32, n32, d32, rfl⟩ := q32.form
                have hB := hB.trans (hc32.mono hB.size)
                have ha := ha.below hc32
                have hb := hb.below hc32
                have hc := hc.below hc32
                have qx := qx.below hc32
                have qy := qy.below hc32
                have qu := qu.below hc32
                have qv := qv.below hc32
                have ql := ql.below hc32
                have Z := Z.below hc32
                go_wp2_with fail
                refine hK.out _ _ ?_ (fun hHeld => ?_)
                · exact hKeep.out _ hB
                clear hK K
                try simp only [Act.put, List.getElem_toArray, List.getElem_cons_succ, List.getElem_cons_zero, List.setIfInBounds_toArray, List.set_cons_zero, List.set_cons_succ]
                refine wpAnyH_ready (rs := [5]) (by kernel_rfl) (by simp) ?_
                refine AllReadyH.cons rfl (fun K hK => ?_) AllReadyH.nil
                go_simp
                refine (mulQ _ _ _ _ 6 _ hc ha (by decide)).mono ?_
                rintro e v33 ⟨_, rfl, q33, hc33⟩
                have q33 := q33.le (show _ ≤ 52 by decide)
                obtain ⟨s33, A33, m33, c33, B33, n33, d33, rfl⟩ := q33.form
                have hB := hB.trans (hc33.mono hB.size)
                have ha := ha.below hc33
                have hb := hb.below hc33
                have hc := hc.below hc33
                have qx := qx.below hc33
                have qy := qy.below hc33
                have qu := qu.below hc33
                have qv := qv.below hc33
                have ql := ql.below hc33
                have q32 := q32.below hc33
                have Z := Z.below hc33
                go_wp2_with fail
                refine hK.out _ _ ?_ (fun hHeld => ?_)
                · exact hKeep.out _ hB
                clear hK K
                try simp only [Act.put, List.getElem_toArray, List.getElem_cons_succ, List.getElem_cons_zero, List.setIfInBounds_toArray, List.set_cons_zero, List.set_cons_succ]
                refine wpAnyH_ready (rs := [6]) (by kernel_rfl) (by simp) ?_
                refine AllReadyH.cons rfl (fun K hK => ?_) AllReadyH.nil
                go_simp
                refine (addQ _ _ _ _ 52 _ q32.af q33.af (by decide)).mono ?_
                rintro e v34 ⟨_, rfl, q34, hc34⟩
                have q34 := q34.le (show _ ≤ 642 by decide)
                obtain ⟨s34, A34, m34, c34, B34, n34, d34, rfl⟩ := q34.form
                have hB := hB.trans (hc34.mono hB.size)
                have ha := ha.below hc34
                have hb := hb.below hc34
                have hc := hc.below hc34
                have qx := qx.below hc34
                have qy := qy.below hc34
                have qu := qu.below hc34
                have qv := qv.below hc34
                have ql := ql.below hc34
                have q32 := q32.below hc34
                have q33 := q33.below hc34
                have Z := Z.below hc34
                go_wp2_with fail
                refine hK.out _ _ ?_ (fun hHeld => ?_)
                · exact hKeep.out _ hB
                clear hK K
                try simp only [Act.put, List.getElem_toArray, List.getElem_cons_succ, List.getElem_cons_zero, List.setIfInBounds_toArray, List.set_cons_zero, List.set_cons_succ]
                refine wpAnyH_ready (rs := [8]) (by kernel_rfl) (by simp) ?_
                refine AllReadyH.cons rfl (fun K hK => ?_) AllReadyH.nil
                have r0 := Z.cell 0
                have r1 := Z.cell 1
                have r2 := Z.cell 2
                have f0 := Z.frozen 0
                have f1 := Z.frozen 1
                have f2 := Z.frozen 2
                go_simp
                refine hK.out _ _ ?_ (fun hHeld => ?_)
                · exact hKeep.out _ (bel_set3 hB hgz.out _ _ _)
                clear hK K
                try simp only [Act.put, List.getElem_toArray, List.getElem_cons_succ, List.getElem_cons_zero, List.setIfInBounds_toArray, List.set_cons_zero, List.set_cons_succ]
                refine wpAnyH_done (by kernel_rfl) ?_ _
                go_wp2_with fail
                go_meet
                exact ⟨_, s34, A34, m34, c34, B34, n34, d34, rfl, ((Z.set_ 0 _).set_ 1 _).set_ 2 _, q34.set3 Z _ _ _, bel_set3 hB hgz.out _ _ _⟩
            case rest =>
              clear hKeep
              obtain ⟨gr, s_r, A_r, m_r, c_r, B_r, n_r, d_r, rfl, Xr, qr, hB⟩ := hcut
              generalize wc = ur at *
              have hw := hw.trans (hB.mono hw.size)
              have ha := ha.below hB
              have hb := hb.below hB
              have hc := hc.below hB
              have qx := qx.below hB
              have qy := qy.below hB
              have qu := qu.below hB
              have qv := qv.below hB
              have ql := ql.below hB
              have Xa := Xa.below hB
              have Xb := Xb.below hB
              have Xc := Xc.below hB
              have Xx := Xx.below hB
              have Xy := Xy.below hB
              have Xu := Xu.below hB
              have Xv := Xv.below hB
              have Xl := Xl.below hB
              have hB := Below.refl ur.heap.size ur
              go_upto_region 9 with fail
              have ka_0 : ur.cell? ⟨w.heap.size, 0, none⟩ = some (.bool sa) := Xa.cell 0
              have ka_1 : ur.cell? ⟨w.heap.size, 1, none⟩ = some (.slice Aa na ca) := Xa.cell 1
              have ka_2 : ur.cell? ⟨w.heap.size, 2, none⟩ = some (.slice Ba ma ea) := Xa.cell 2
              have kb_0 : ur.cell? ⟨w.heap.size + 1, 0, none⟩ = some (.bool sb) := Xb.cell 0
              have kb_1 : ur.cell? ⟨w.heap.size + 1, 1, none⟩ = some (.slice Ab nb cb) := Xb.cell 1
              have kb_2 : ur.cell? ⟨w.heap.size + 1, 2, none⟩ = some (.slice Bb mb eb) := Xb.cell 2
              have kc_0 : ur.cell? ⟨w.heap.size + 1 + 1, 0, none⟩ = some (.bool sc) := Xc.cell 0
              have kc_1 : ur.cell? ⟨w.heap.size + 1 + 1, 1, none⟩ = some (.slice Ac nc cc) := Xc.cell 1
              have kc_2 : ur.cell? ⟨w.heap.size + 1 + 1, 2, none⟩ = some (.slice Bc mc ec) := Xc.cell 2
              have kx_0 : ur.cell? ⟨gx, 0, none⟩ = some (.bool s_x) := Xx.cell 0
              have kx_1 : ur.cell? ⟨gx, 1, none⟩ = some (.slice A_x m_x c_x) := Xx.cell 1
              have kx_2 : ur.cell? ⟨gx, 2, none⟩ = some (.slice B_x n_x d_x) := Xx.cell 2
              have ky_0 : ur.cell? ⟨gy, 0, none⟩ = some (.bool s_y) := Xy.cell 0
              have ky_1 : ur.cell? ⟨gy, 1, none⟩ = some (.slice A_y m_y c_y) := Xy.cell 1
              have ky_2 : ur.cell? ⟨gy, 2, none⟩ = some (.slice B_y n_y d_y) := Xy.cell 2
              have ku_0 : ur.cell? ⟨gu, 0, none⟩ = some (.bool s_u) := Xu.cell 0
              have ku_1 : ur.cell? ⟨gu, 1, none⟩ = some (.slice A_u m_u c_u) := Xu.cell 1
              have ku_2 : ur.cell? ⟨gu, 2, none⟩ = some (.slice B_u n_u d_u) := Xu.cell 2
              have kv_0 : ur.cell? ⟨gv, 0, none⟩ = some (.bool s_v) := Xv.cell 0
              have kv_1 : ur.cell? ⟨gv, 1, none⟩ = some (.slice A_v m_v c_v) := Xv.cell 1
              have kv_2 : ur.cell? ⟨gv, 2, none⟩ = some (.slice B_v n_v d_v) := Xv.cell 2
              have kl_0 : ur.cell? ⟨gl, 0, none⟩ = some (.bool s_l) := Xl.cell 0
              have kl_1 : ur.cell? ⟨gl, 1, none⟩ = some (.slice A_l m_l c_l) := Xl.cell 1
              have kl_2 : ur.cell? ⟨gl, 2, none⟩ = some (.slice B_l n_l d_l) := Xl.cell 2
              have kr_0 : ur.cell? ⟨gr, 0, none⟩ = some (.bool s_r) := Xr.cell 0
              have kr_1 : ur.cell? ⟨gr, 1, none⟩ = some (.slice A_r m_r c_r) := Xr.cell 1
              have kr_2 : ur.cell? ⟨gr, 2, none⟩ = some (.slice B_r n_r d_r) := Xr.cell 2
              have hKeep := Lib.hid (fun (wx : World) (hb : Below ur.heap.size ur wx) => (⟨(hb.cell (World.block_lt_of_cell? _ _ ka_0)).trans ka_0, (hb.cell (World.block_lt_of_cell? _ _ ka_1)).trans ka_1, (hb.cell (World.block_lt_of_cell? _ _ ka_2)).trans ka_2, (hb.cell (World.block_lt_of_cell? _ _ kb_0)).trans kb_0, (hb.cell (World.block_lt_of_cell? _ _ kb_1)).trans kb_1, (hb.cell (World.block_lt_of_cell? _ _ kb_2)).trans kb_2, (hb.cell (World.block_lt_of_cell? _ _ kc_0)).trans kc_0, (hb.cell (World.block_lt_of_cell? _ _ kc_1)).trans kc_1, (hb.cell (World.block_lt_of_cell? _ _ kc_2)).trans kc_2, (hb.cell (World.block_lt_of_cell? _ _ kx_0)).trans kx_0, (hb.cell (World.block_lt_of_cell? _ _ kx_1)).trans kx_1, (hb.cell (World.block_lt_of_cell? _ _ kx_2)).trans kx_2, (hb.cell (World.block_lt_of_cell? _ _ ky_0)).trans ky_0, (hb.cell (World.block_lt_of_cell? _ _ ky_1)).trans ky_1, (hb.cell (World.block_lt_of_cell? _ _ ky_2)).trans ky_2, (hb.cell (World.block_lt_of_cell? _ _ ku_0)).trans ku_0, (hb.cell (World.block_lt_of_cell? _ _ ku_1)).trans ku_1, (hb.cell (World.block_lt_of_cell? _ _ ku_2)).trans ku_2, (hb.cell (World.block_lt_of_cell? _ _ kv_0)).trans kv_0, (hb.cell (World.block_lt_of_cell? _ _ kv_1)).trans kv_1, (hb.cell (World.block_lt_of_cell? _ _ kv_2)).trans kv_2, (hb.cell (World.block_lt_of_cell? _ _ kl_0)).trans kl_0, (hb.cell (World.block_lt_of_cell? _ _ kl_1)).trans kl_1, (hb.cell (World.block_lt_of_cell? _ _ kl_2)).trans kl_2, (hb.cell (World.block_lt_of_cell? _ _ kr_0)).trans kr_0, (hb.cell (World.block_lt_of_cell? _ _ kr_1)).trans kr_1, (hb.cell (World.block_lt_of_cell? _ _ kr_2)).trans kr_2⟩ : wx.cell? ⟨w.heap.size, 0, none⟩ = some (.bool sa) ∧ wx.cell? ⟨w.heap.size, 1, none⟩ = some (.slice Aa na ca) ∧ wx.cell? ⟨w.heap.size, 2, none⟩ = some (.slice Ba ma ea) ∧ wx.cell? ⟨w.heap.size + 1, 0, none⟩ = some (.bool sb) ∧ wx.cell? ⟨w.heap.size + 1, 1, none⟩ = some (.slice Ab nb cb) ∧ wx.cell? ⟨w.heap.size + 1, 2, none⟩ = some (.slice Bb mb eb) ∧ wx.cell? ⟨w.heap.size + 1 + 1, 0, none⟩ = some (.bool sc) ∧ wx.cell? ⟨w.heap.size + 1 + 1, 1, none⟩ = some (.slice Ac nc cc) ∧ wx.cell? ⟨w.heap.size + 1 + 1, 2, none⟩ = some (.slice Bc mc ec) ∧ wx.cell? ⟨gx, 0, none⟩ = some (.bool s_x) ∧ wx.cell? ⟨gx, 1, none⟩ = some (.slice A_x m_x c_x) ∧ wx.cell? ⟨gx, 2, none⟩ = some (.slice B_x n_x d_x) ∧ wx.cell? ⟨gy, 0, none⟩ = some (.bool s_y) ∧ wx.cell? ⟨gy, 1, none⟩ = some (.slice A_y m_y c_y) ∧ wx.cell? ⟨gy, 2, none⟩ = some (.slice B_y n_y d_y) ∧ wx.cell? ⟨gu, 0, none⟩ = some (.bool s_u) ∧ wx.cell? ⟨gu, 1, none⟩ = some (.slice A_u m_u c_u) ∧ wx.cell? ⟨gu, 2, none⟩ = some (.slice B_u n_u d_u) ∧ wx.cell? ⟨gv, 0, none⟩ = some (.bool s_v) ∧ wx.cell? ⟨gv, 1, none⟩ = some (.slice A_v m_v c_v) ∧ wx.cell? ⟨gv, 2, none⟩ = some (.slice B_v n_v d_v) ∧ wx.cell? ⟨gl, 0, none⟩ = some (.bool s_l) ∧ wx.cell? ⟨gl, 1, none⟩ = some (.slice A_l m_l c_l) ∧ wx.cell? ⟨gl, 2, none⟩ = some (.slice B_l n_l d_l) ∧ wx.cell? ⟨gr, 0, none⟩ = some (.bool s_r) ∧ wx.cell? ⟨gr, 1, none⟩ = some (.slice A_r m_r c_r) ∧ wx.cell? ⟨gr, 2, none⟩ = some (.slice B_r n_r d_r)))
              clear ka_0 ka_1 ka_2 kb_0 kb_1 kb_2 kc_0 kc_1 kc_2 kx_0 kx_1 kx_2 ky_0 ky_1 ky_2 ku_0 ku_1 ku_2 kv_0 kv_1 kv_2 kl_0 kl_1 kl_2 kr_0 kr_1 kr_2
              have hB := bel_drewN (Below.refl ur.heap.size ur) 1
              have ha := ha.below hB
              have hb := hb.below hB
              have hc := hc.below hB
              have qx := qx.below hB
              have qy := qy.below hB
              have qu := qu.below hB
              have qv := qv.below hB
              have ql := ql.below hB
              have qr := qr.below hB
              refine wp_region_held_drew (S := (fun wx => wx.cell? ⟨w.heap.size, 0, none⟩ = some (.bool sa) ∧ wx.cell? ⟨w.heap.size, 1, none⟩ = some (.slice Aa na ca) ∧ wx.cell? ⟨w.heap.size, 2, none⟩ = some (.slice Ba ma ea) ∧ wx.cell? ⟨w.heap.size + 1, 0, none⟩ = some (.bool sb) ∧ wx.cell? ⟨w.heap.size + 1, 1, none⟩ = some (.slice Ab nb cb) ∧ wx.cell? ⟨w.heap.size + 1, 2, none⟩ = some (.slice Bb mb eb) ∧ wx.cell? ⟨w.heap.size + 1 + 1, 0, none⟩ = some (.bool sc) ∧ wx.cell? ⟨w.heap.size + 1 + 1, 1, none⟩ = some (.slice Ac nc cc) ∧ wx.cell? ⟨w.heap.size + 1 + 1, 2, none⟩ = some (.slice Bc mc ec) ∧ wx.cell? ⟨gx, 0, none⟩ = some (.bool s_x) ∧ wx.cell? ⟨gx, 1, none⟩ = some (.slice A_x m_x c_x) ∧ wx.cell? ⟨gx, 2, none⟩ = some (.slice B_x n_x d_x) ∧ wx.cell? ⟨gy, 0, none⟩ = some (.bool s_y) ∧ wx.cell? ⟨gy, 1, none⟩ = some (.slice A_y m_y c_y) ∧ wx.cell? ⟨gy, 2, none⟩ = some (.slice B_y n_y d_y) ∧ wx.cell? ⟨gu, 0, none⟩ = some (.bool s_u) ∧ wx.cell? ⟨gu, 1, none⟩ = some (.slice A_u m_u c_u) ∧ wx.cell? ⟨gu, 2, none⟩ = some (.slice B_u n_u d_u) ∧ wx.cell? ⟨gv, 0, none⟩ = some (.bool s_v) ∧ wx.cell? ⟨gv, 1, none⟩ = some (.slice A_v m_v c_v) ∧ wx.cell? ⟨gv, 2, none⟩ = some (.slice B_v n_v d_v) ∧ wx.cell? ⟨gl, 0, none⟩ = some (.bool s_l) ∧ wx.cell? ⟨gl, 1, none⟩ = some (.slice A_l m_l c_l) ∧ wx.cell? ⟨gl, 2, none⟩ = some (.slice B_l n_l d_l) ∧ wx.cell? ⟨gr, 0, none⟩ = some (.bool s_r) ∧ wx.cell? ⟨gr, 1, none⟩ = some (.slice A_r m_r c_r) ∧ wx.cell? ⟨gr, 2, none⟩ = some (.slice B_r n_r d_r))) (by kernel_rfl) (hKeep.out _ hB) (fun hHeld => ?_)
              refine wpAnyH_take (i := 0) (v := .agg #[.bool s_x, .slice A_x m_x c_x, .slice B_x n_x d_x]) rfl (by kernel_rfl) (by kernel_rfl) (by kernel_rfl) (fun _ _ _ h => h) (Or.inl ⟨by kernel_rfl, by (intro w hSw; (try dsimp only at hSw); go_simp)⟩) hHeld ?_
              try simp only [Act.put, List.getElem_toArray, List.getElem_cons_succ, List.getElem_cons_zero, List.setIfInBounds_toArray, List.set_cons_zero, List.set_cons_succ]
              refine wpAnyH_take (i := 1) (v := .agg #[.bool s_y, .slice A_y m_y c_y, .slice B_y n_y d_y]) rfl (by kernel_rfl) (by kernel_rfl) (by kernel_rfl) (fun _ _ _ h => h) (Or.inl ⟨by kernel_rfl, by (intro w hSw; (try dsimp only at hSw); go_simp)⟩) hHeld ?_
              try simp only [Act.put, List.getElem_toArray, List.getElem_cons_succ, List.getElem_cons_zero, List.setIfInBounds_toArray, List.set_cons_zero, List.set_cons_succ]
              refine wpAnyH_ready (rs := [2]) (by kernel_rfl) (by simp) ?_
              refine AllReadyH.cons rfl (fun K hK => ?_) AllReadyH.nil
              go_simp
              refine (sameT _ _ _ _ _ _ _ qx qy (by grind)).mono ?_
              rintro e v35 ⟨rfl, hc35⟩
              have hB := hB.trans (hc35.mono hB.size)
              have ha := ha.below hc35
              have hb := hb.below hc35
              have hc := hc.below hc35
              have qx := qx.below hc35
              have qy := qy.below hc35
              have qu := qu.below hc35
              have qv := qv.below hc35
              have ql := ql.below hc35
              have qr := qr.below hc35
              go_wp2_with fail
              refine hK.out _ _ ?_ (fun hHeld => ?_)
              · exact hKeep.out _ hB
              clear hK K
              try simp only [Act.put, List.getElem_toArray, List.getElem_cons_succ, List.getElem_cons_zero, List.setIfInBounds_toArray, List.set_cons_zero, List.set_cons_succ]
              refine wpAnyH_take (i := 3) (v := .bool false) rfl (by kernel_rfl) (by kernel_rfl) (by kernel_rfl) (fun _ _ _ h => h) (Or.inl ⟨by kernel_rfl, by (intro w hSw; (try dsimp only at hSw); go_simp)⟩) hHeld ?_
              try simp only [Act.put, List.getElem_toArray, List.getElem_cons_succ, List.getElem_cons_zero, List.setIfInBounds_toArray, List.set_cons_zero, List.set_cons_succ]
              refine wpAnyH_take (i := 4) (v := .bool false) rfl (by kernel_rfl) (by kernel_rfl) (by kernel_rfl) (fun _ _ _ h => h) (Or.inl ⟨by kernel_rfl, by (intro w hSw; (try dsimp only at hSw); go_simp)⟩) hHeld ?_
              try simp only [Act.put, List.getElem_toArray, List.getElem_cons_succ, List.getElem_cons_zero, List.setIfInBounds_toArray, List.set_cons_zero, List.set_cons_succ]
              refine wpAnyH_take (i := 5) (v := .agg #[.bool s_u, .slice A_u m_u c_u, .slice B_u n_u d_u]) rfl (by kernel_rfl) (by kernel_rfl) (by kernel_rfl) (fun _ _ _ h => h) (Or.inl ⟨by kernel_rfl, by (intro w hSw; (try dsimp only at hSw); go_simp)⟩) hHeld ?_
              try simp only [Act.put, List.getElem_toArray, List.getElem_cons_succ, List.getElem_cons_zero, List.setIfInBounds_toArray, List.set_cons_zero, List.set_cons_succ]
              refine wpAnyH_take (i := 6) (v := .agg #[.bool s_v, .slice A_v m_v c_v, .slice B_v n_v d_v]) rfl (by kernel_rfl) (by kernel_rfl) (by kernel_rfl) (fun _ _ _ h => h) (Or.inl ⟨by kernel_rfl, by (intro w hSw; (try dsimp only at hSw); go_simp)⟩) hHeld ?_
              try simp only [Act.put, List.getElem_toArray, List.getElem_cons_succ, List.getElem_cons_zero, List.setIfInBounds_toArray, List.set_cons_zero, List.set_cons_succ]
              refine wpAnyH_ready (rs := [7]) (by kernel_rfl) (by simp) ?_
              refine AllReadyH.cons rfl (fun K hK => ?_) AllReadyH.nil
              go_simp
              refine (sameT _ _ _ _ _ _ _ qu qv (by grind)).mono ?_
              rintro e v36 ⟨rfl, hc36⟩
              have hB := hB.trans (hc36.mono hB.size)
              have ha := ha.below hc36
              have hb := hb.below hc36
              have hc := hc.below hc36
              have qx := qx.below hc36
              have qy := qy.below hc36
              have qu := qu.below hc36
              have qv := qv.below hc36
              have ql := ql.below hc36
              have qr := qr.below hc36
              go_wp2_with fail
              refine hK.out _ _ ?_ (fun hHeld => ?_)
              · exact hKeep.out _ hB
              clear hK K
              try simp only [Act.put, List.getElem_toArray, List.getElem_cons_succ, List.getElem_cons_zero, List.setIfInBounds_toArray, List.set_cons_zero, List.set_cons_succ]
              refine wpAnyH_take (i := 8) (v := .bool false) rfl (by kernel_rfl) (by kernel_rfl) (by kernel_rfl) (fun _ _ _ h => h) (Or.inl ⟨by kernel_rfl, by (intro w hSw; (try dsimp only at hSw); go_simp)⟩) hHeld ?_
              try simp only [Act.put, List.getElem_toArray, List.getElem_cons_succ, List.getElem_cons_zero, List.setIfInBounds_toArray, List.set_cons_zero, List.set_cons_succ]
              refine wpAnyH_take (i := 9) (v := .bool false) rfl (by kernel_rfl) (by kernel_rfl) (by kernel_rfl) (fun _ _ _ h => h) (Or.inl ⟨by kernel_rfl, by (intro w hSw; (try dsimp only at hSw); go_simp)⟩) hHeld ?_
              try simp only [Act.put, List.getElem_toArray, List.getElem_cons_succ, List.getElem_cons_zero, List.setIfInBounds_toArray, List.set_cons_zero, List.set_cons_succ]
              refine wpAnyH_take (i := 10) (v := .bool false) rfl (by kernel_rfl) (by kernel_rfl) (by kernel_rfl) (fun _ _ _ h => h) (Or.inl ⟨by kernel_rfl, by (intro w hSw; (try dsimp only at hSw); go_simp)⟩) hHeld ?_
              try simp only [Act.put, List.getElem_toArray, List.getElem_cons_succ, List.getElem_cons_zero, List.setIfInBounds_toArray, List.set_cons_zero, List.set_cons_succ]
              refine wpAnyH_take (i := 11) (v := .agg #[.bool s_l, .slice A_l m_l c_l, .slice B_l n_l d_l]) rfl (by kernel_rfl) (by kernel_rfl) (by kernel_rfl) (fun _ _ _ h => h) (Or.inl ⟨by kernel_rfl, by (intro w hSw; (try dsimp only at hSw); go_simp)⟩) hHeld ?_
              try simp only [Act.put, List.getElem_toArray, List.getElem_cons_succ, List.getElem_cons_zero, List.setIfInBounds_toArray, List.set_cons_zero, List.set_cons_succ]
              refine wpAnyH_take (i := 12) (v := .agg #[.bool s_r, .slice A_r m_r c_r, .slice B_r n_r d_r]) rfl (by kernel_rfl) (by kernel_rfl) (by kernel_rfl) (fun _ _ _ h => h) (Or.inl ⟨by kernel_rfl, by (intro w hSw; (try dsimp only at hSw); go_simp)⟩) hHeld ?_
              try simp only [Act.put, List.getElem_toArray, List.getElem_cons_succ, List.getElem_cons_zero, List.setIfInBounds_toArray, List.set_cons_zero, List.set_cons_succ]
              refine wpAnyH_ready (rs := [13]) (by kernel_rfl) (by simp) ?_
              refine AllReadyH.cons rfl (fun K hK => ?_) AllReadyH.nil
              go_simp
              refine (sameT _ _ _ _ _ _ _ ql qr (by grind)).mono ?_
              rintro e v37 ⟨rfl, hc37⟩
              have hB := hB.trans (hc37.mono hB.size)
              have ha := ha.below hc37
              have hb := hb.below hc37
              have hc := hc.below hc37
              have qx := qx.below hc37
              have qy := qy.below hc37
              have qu := qu.below hc37
              have qv := qv.below hc37
              have ql := ql.below hc37
              have qr := qr.below hc37
              go_wp2_with fail
              refine hK.out _ _ ?_ (fun hHeld => ?_)
              · exact hKeep.out _ hB
              clear hK K
              try simp only [Act.put, List.getElem_toArray, List.getElem_cons_succ, List.getElem_cons_zero, List.setIfInBounds_toArray, List.set_cons_zero, List.set_cons_succ]
              refine wpAnyH_take (i := 14) (v := .bool false) rfl (by kernel_rfl) (by kernel_rfl) (by kernel_rfl) (fun _ _ _ h => h) (Or.inl ⟨by kernel_rfl, by (intro w hSw; (try dsimp only at hSw); go_simp)⟩) hHeld ?_
              try simp only [Act.put, List.getElem_toArray, List.getElem_cons_succ, List.getElem_cons_zero, List.setIfInBounds_toArray, List.set_cons_zero, List.set_cons_succ]
              refine wpAnyH_take (i := 15) (v := .bool false) rfl (by kernel_rfl) (by kernel_rfl) (by kernel_rfl) (fun _ _ _ h => h) (Or.inl ⟨by kernel_rfl, by (intro w hSw; (try dsimp only at hSw); go_simp)⟩) hHeld ?_
              try simp only [Act.put, List.getElem_toArray, List.getElem_cons_succ, List.getElem_cons_zero, List.setIfInBounds_toArray, List.set_cons_zero, List.set_cons_succ]
              refine wpAnyH_take (i := 16) (v := .bool false) rfl (by kernel_rfl) (by kernel_rfl) (by kernel_rfl) (fun _ _ _ h => h) (Or.inl ⟨by kernel_rfl, by (intro w hSw; (try dsimp only at hSw); go_simp)⟩) hHeld ?_
              try simp only [Act.put, List.getElem_toArray, List.getElem_cons_succ, List.getElem_cons_zero, List.setIfInBounds_toArray, List.set_cons_zero, List.set_cons_succ]
              refine wpAnyH_take (i := 17) (v := .agg #[.bool sa, .slice Aa na ca, .slice Ba ma ea]) rfl (by kernel_rfl) (by kernel_rfl) (by kernel_rfl) (fun _ _ _ h => h) (Or.inl ⟨by kernel_rfl, by (intro w hSw; (try dsimp only at hSw); go_simp)⟩) hHeld ?_
              try simp only [Act.put, List.getElem_toArray, List.getElem_cons_succ, List.getElem_cons_zero, List.setIfInBounds_toArray, List.set_cons_zero, List.set_cons_succ]
              refine wpAnyH_take (i := 18) (v := .agg #[.bool sb, .slice Ab nb cb, .slice Bb mb eb]) rfl (by kernel_rfl) (by kernel_rfl) (by kernel_rfl) (fun _ _ _ h => h) (Or.inl ⟨by kernel_rfl, by (intro w hSw; (try dsimp only at hSw); go_simp)⟩) hHeld ?_
              try simp only [Act.put, List.getElem_toArray, List.getElem_cons_succ, List.getElem_cons_zero, List.setIfInBounds_toArray, List.set_cons_zero, List.set_cons_succ]
              refine wpAnyH_take (i := 20) (v := .agg #[.bool sb, .slice Ab nb cb, .slice Bb mb eb]) rfl (by kernel_rfl) (by kernel_rfl) (by kernel_rfl) (fun _ _ _ h => h) (Or.inl ⟨by kernel_rfl, by (intro w hSw; (try dsimp only at hSw); go_simp)⟩) hHeld ?_
              try simp only [Act.put, List.getElem_toArray, List.getElem_cons_succ, List.getElem_cons_zero, List.setIfInBounds_toArray, List.set_cons_zero, List.set_cons_succ]
              refine wpAnyH_take (i := 22) (v := .agg #[.bool sa, .slice Aa na ca, .slice Ba ma ea]) rfl (by kernel_rfl) (by kernel_rfl) (by kernel_rfl) (fun _ _ _ h => h) (Or.inl ⟨by kernel_rfl, by (intro w hSw; (try dsimp only at hSw); go_simp)⟩) hHeld ?_
              try simp only [Act.put, List.getElem_toArray, List.getElem_cons_succ, List.getElem_cons_zero, List.setIfInBounds_toArray, List.set_cons_zero, List.set_cons_succ]
              refine wpAnyH_ready (rs := [19]) (by kernel_rfl) (by simp) ?_
              refine AllReadyH.cons rfl (fun K hK => ?_) AllReadyH.nil
              go_simp
              refine (addQ _ _ _ _ 6 _ ha hb (by decide)).mono ?_
              rintro e v38 ⟨_, rfl, q38, hc38⟩
              have q38 := q38.le (show _ ≤ 90 by decide)
              obtain ⟨s38, A38, m38, c38, B38, n38, d38, rfl⟩ := q38.form
              have hB := hB.trans (hc38.mono hB.size)
              have ha := ha.below hc38
              have hb := hb.below hc38
              have hc := hc.below hc38
              have qx := qx.below hc38
              have qy := qy.below hc38
              have qu := qu.below hc38
              have qv := qv.below hc38
              have ql := ql.below hc38
              have qr := qr.below hc38
              go_wp2_with fail
              refine hK.out _ _ ?_ (fun hHeld => ?_)
              · exact hKeep.out _ hB
              clear hK K
              try simp only [Act.put, List.getElem_toArray, List.getElem_cons_succ, List.getElem_cons_zero, List.setIfInBounds_toArray, List.set_cons_zero, List.set_cons_succ]
              refine wpAnyH_ready (rs := [21]) (by kernel_rfl) (by simp) ?_
              refine AllReadyH.cons rfl (fun K hK => ?_) AllReadyH.nil
              go_simp
              refine (subQ _ _ _ _ 90 _ q38.af (hb.le (show 6 ≤ 90 by decide)) (by decide)).mono ?_
              rintro e v39 ⟨_, rfl, q39, hc39⟩
              have q39 := q39.le (show _ ≤ 1098 by decide)
              obtain ⟨s39, A39, m39, c39, B39, n39, d39, rfl⟩ := q39.form
              have hB := hB.trans (hc39.mono hB.size)
              have ha := ha.below hc39
              have hb := hb.below hc39
              have hc := hc.below hc39
              have qx := qx.below hc39
              have qy := qy.below hc39
              have qu := qu.below hc39
              have qv := qv.below hc39
              have ql := ql.below hc39
              have qr := qr.below hc39
              have q38 := q38.below hc39
              go_wp2_with fail
              refine hK.out _ _ ?_ (fun hHeld => ?_)
              · exact hKeep.out _ hB
              clear hK K
              try simp only [Act.put, List.getElem_toArray, List.getElem_cons_succ, List.getElem_cons_zero, List.setIfInBounds_toArray, List.set_cons_zero, List.set_cons_succ]
              refine wpAnyH_ready (rs := [23]) (by kernel_rfl) (by simp) ?_
              refine AllReadyH.cons rfl (fun K hK => ?_) AllReadyH.nil
              go_simp
              refine (canonQ _ _ 6 _ ha (by decide)).mono ?_
              rintro e v40 ⟨_, rfl, q40, hc40⟩
              have q40 := q40.le (show _ ≤ 26 by decide)
              obtain ⟨s40, A40, m40, c40, B40, n40, d40, rfl⟩ := q40.form
              have hB := hB.trans (hc40.mono hB.size)
              have ha := ha.below hc40
              have hb := hb.below hc40
              have hc := hc.below hc40
              have qx := qx.below hc40
              have qy := qy.below hc40
              have qu := qu.below hc40
              have qv := qv.below hc40
              have ql := ql.below hc40
              have qr := qr.below hc40
              have q38 := q38.below hc40
              have q39 := q39.below hc40
              go_wp2_with fail
              refine hK.out _ _ ?_ (fun hHeld => ?_)
              · exact hKeep.out _ hB
              clear hK K
              try simp only [Act.put, List.getElem_toArray, List.getElem_cons_succ, List.getElem_cons_zero, List.setIfInBounds_toArray, List.set_cons_zero, List.set_cons_succ]
              refine wpAnyH_ready (rs := [24]) (by kernel_rfl) (by simp) ?_
              refine AllReadyH.cons rfl (fun K hK => ?_) AllReadyH.nil
              go_simp
              refine (sameT _ _ _ _ _ _ _ q39 q40 (by grind)).mono ?_
              rintro e v41 ⟨rfl, hc41⟩
              have hB := hB.trans (hc41.mono hB.size)
              have ha := ha.below hc41
              have hb := hb.below hc41
              have hc := hc.below hc41
              have qx := qx.below hc41
              have qy := qy.below hc41
              have qu := qu.below hc41
              have qv := qv.below hc41
              have ql := ql.below hc41
              have qr := qr.below hc41
              have q38 := q38.below hc41
              have q39 := q39.below hc41
              have q40 := q40.below hc41
              go_wp2_with fail
              refine hK.out _ _ ?_ (fun hHeld => ?_)
              · exact hKeep.out _ hB
              clear hK K
              try simp only [Act.put, List.getElem_toArray, List.getElem_cons_succ, List.getElem_cons_zero, List.setIfInBounds_toArray, List.set_cons_zero, List.set_cons_succ]
              refine wpAnyH_take (i := 25) (v := .bool false) rfl (by kernel_rfl) (by kernel_rfl) (by kernel_rfl) (fun _ _ _ h => h) (Or.inl ⟨by kernel_rfl, by (intro w hSw; (try dsimp only at hSw); go_simp)⟩) hHeld ?_
              try simp only [Act.put, List.getElem_toArray, List.getElem_cons_succ, List.getElem_cons_zero, List.setIfInBounds_toArray, List.set_cons_zero, List.set_cons_succ]
              refine wpAnyH_take (i := 26) (v := .bool false) rfl (by kernel_rfl) (by kernel_rfl) (by kernel_rfl) (fun _ _ _ h => h) (Or.inl ⟨by kernel_rfl, by (intro w hSw; (try dsimp only at hSw); go_simp)⟩) hHeld ?_
              try simp only [Act.put, List.getElem_toArray, List.getElem_cons_succ, List.getElem_cons_zero, List.setIfInBounds_toArray, List.set_cons_zero, List.set_cons_succ]
              refine wpAnyH_take (i := 27) (v := .bool false) rfl (by kernel_rfl) (by kernel_rfl) (by kernel_rfl) (fun _ _ _ h => h) (Or.inl ⟨by kernel_rfl, by (intro w hSw; (try dsimp only at hSw); go_simp)⟩) hHeld ?_
              try simp only [Act.put, List.getElem_toArray, List.getElem_cons_succ, List.getElem_cons_zero, List.setIfInBounds_toArray, List.set_cons_zero, List.set_cons_succ]
              refine wpAnyH_take (i := 28) (v := .agg #[.bool sa, .slice Aa na ca, .slice Ba ma ea]) rfl (by kernel_rfl) (by kernel_rfl) (by kernel_rfl) (fun _ _ _ h => h) (Or.inl ⟨by kernel_rfl, by (intro w hSw; (try dsimp only at hSw); go_simp)⟩) hHeld ?_
              try simp only [Act.put, List.getElem_toArray, List.getElem_cons_succ, List.getElem_cons_zero, List.setIfInBounds_toArray, List.set_cons_zero, List.set_cons_succ]
              refine wpAnyH_take (i := 29) (v := .agg #[.bool sa, .slice Aa na ca, .slice Ba ma ea]) rfl (by kernel_rfl) (by kernel_rfl) (by kernel_rfl) (fun _ _ _ h => h) (Or.inl ⟨by kernel_rfl, by (intro w hSw; (try dsimp only at hSw); go_simp)⟩) hHeld ?_
              try simp only [Act.put, List.getElem_toArray, List.getElem_cons_succ, List.getElem_cons_zero, List.setIfInBounds_toArray, List.set_cons_zero, List.set_cons_succ]
              refine wpAnyH_ready (rs := [30]) (by kernel_rfl) (by simp) ?_
              refine AllReadyH.cons rfl (fun K hK => ?_) AllReadyH.nil
              go_simp
              refine (subQ _ _ _ _ 6 _ ha ha (by decide)).mono ?_
              rintro e v42 ⟨_, rfl, q42, hc42⟩
              have q42 := q42.le (show _ ≤ 90 by decide)
              obtain ⟨s42, A42, m42, c42, B42, n42, d42, rfl⟩ := q42.form
              have hB := hB.trans (hc42.mono hB.size)
              have ha := ha.below hc42
              have hb := hb.below hc42
              have hc := hc.below hc42
              have qx := qx.below hc42
              have qy := qy.below hc42
              have qu := qu.below hc42
              have qv := qv.below hc42
              have ql := ql.below hc42
              have qr := qr.below hc42
              have q38 := q38.below hc42
              have q39 := q39.below hc42
              have q40 := q40.below hc42
              go_wp2_with fail
              refine hK.out _ _ ?_ (fun hHeld => ?_)
              · exact hKeep.out _ hB
              clear hK K
              try simp only [Act.put, List.getElem_toArray, List.getElem_cons_succ, List.getElem_cons_zero, List.setIfInBounds_toArray, List.set_cons_zero, List.set_cons_succ]
              refine wpAnyH_ready (rs := [31]) (by kernel_rfl) (by simp) ?_
              refine AllReadyH.cons rfl (fun K hK => ?_) AllReadyH.nil
              go_simp
              refine (SignQ _ _ 90 _ q42.af (by decide)).mono ?_
              rintro e v43 ⟨rfl, hc43⟩
              rw [show qs (qa + -qa) = 0 from qs_zero.2 (Rat.add_neg_cancel qa)]
              have hB := hB.trans (hc43.mono hB.size)
              have ha := ha.below hc43
              have hb := hb.below hc43
              have hc := hc.below hc43
              have qx := qx.below hc43
              have qy := qy.below hc43
              have qu := qu.below hc43
              have qv := qv.below hc43
              have ql := ql.below hc43
              have qr := qr.below hc43
              have q38 := q38.below hc43
              have q39 := q39.below hc43
              have q40 := q40.below hc43
              have q42 := q42.below hc43
              go_wp2_with fail
              refine hK.out _ _ ?_ (fun hHeld => ?_)
              · exact hKeep.out _ hB
              clear hK K
              try simp only [Act.put, List.getElem_toArray, List.getElem_cons_succ, List.getElem_cons_zero, List.setIfInBounds_toArray, List.set_cons_zero, List.set_cons_succ]
              refine wpAnyH_take (i := 32) (v := .bool false) rfl (by kernel_rfl) (by kernel_rfl) (by kernel_rfl) (fun _ _ _ h => h) (Or.inl ⟨by kernel_rfl, by (intro w hSw; (try dsimp only at hSw); go_simp)⟩) hHeld ?_
              try simp only [Act.put, List.getElem_toArray, List.getElem_cons_succ, List.getElem_cons_zero, List.setIfInBounds_toArray, List.set_cons_zero, List.set_cons_succ]
              refine wpAnyH_take (i := 33) (v := .bool false) rfl (by kernel_rfl) (by kernel_rfl) (by kernel_rfl) (fun _ _ _ h => h) (Or.inl ⟨by kernel_rfl, by (intro w hSw; (try dsimp only at hSw); go_simp)⟩) hHeld ?_
              try simp only [Act.put, List.getElem_toArray, List.getElem_cons_succ, List.getElem_cons_zero, List.setIfInBounds_toArray, List.set_cons_zero, List.set_cons_succ]
              refine wpAnyH_done (by kernel_rfl) ?_ _
              have hw := hw.trans (hB.mono hw.size)
              have Xa := Xa.below hB
              have Xb := Xb.below hB
              have Xc := Xc.below hB
              have Xx := Xx.below hB
              have Xy := Xy.below hB
              have Xu := Xu.below hB
              have Xv := Xv.below hB
              have Xl := Xl.below hB
              have Xr := Xr.below hB
              have kb0 : v43.cell? ⟨w.heap.size + 1, 0, none⟩ = some (.bool sb) := Xb.cell 0
              have kb1 : v43.cell? ⟨w.heap.size + 1, 1, none⟩ = some (.slice Ab nb cb) := Xb.cell 1
              have kb2 : v43.cell? ⟨w.heap.size + 1, 2, none⟩ = some (.slice Bb mb eb) := Xb.cell 2
              go_wp2_with fail
              clear kb0 kb1 kb2
              obtain ⟨y, hy0⟩ : ∃ y, qs qb = y := ⟨_, rfl⟩
              have hy := Lib.hid hy0
              clear hy0
              by_cases hz : y = 0
              · subst hz
                refine (SignQ _ qb 6 _ hb (by decide)).mono ?_
                rintro e v44 ⟨rfl, hc44⟩
                rw [hy.out]
                have hw := hw.trans (hc44.mono hw.size)
                have hB := Below.refl v44.heap.size v44
                have ha := ha.below hc44
                have hb := hb.below hc44
                have hc := hc.below hc44
                have qx := qx.below hc44
                have qy := qy.below hc44
                have qu := qu.below hc44
                have qv := qv.below hc44
                have ql := ql.below hc44
                have qr := qr.below hc44
                have q38 := q38.below hc44
                have q39 := q39.below hc44
                have q40 := q40.below hc44
                have q42 := q42.below hc44
                have Xa := Xa.below hc44
                have Xb := Xb.below hc44
                have Xc := Xc.below hc44
                have Xx := Xx.below hc44
                have Xy := Xy.below hc44
                have Xu := Xu.below hc44
                have Xv := Xv.below hc44
                have Xl := Xl.below hc44
                have Xr := Xr.below hc44
                go_wp2_with fail
                refine (known_true _ (hG.out.below hw)).mono ?_
                rintro e v45 ⟨rfl, hc45⟩
                have hw := hw.trans (hc45.mono hw.size)
                have hB := Below.refl v45.heap.size v45
                have ha := ha.below hc45
                have hb := hb.below hc45
                have hc := hc.below hc45
                have qx := qx.below hc45
                have qy := qy.below hc45
                have qu := qu.below hc45
                have qv := qv.below hc45
                have ql := ql.below hc45
                have qr := qr.below hc45
                have q38 := q38.below hc45
                have q39 := q39.below hc45
                have q40 := q40.below hc45
                have q42 := q42.below hc45
                have Xa := Xa.below hc45
                have Xb := Xb.below hc45
                have Xc := Xc.below hc45
                have Xx := Xx.below hc45
                have Xy := Xy.below hc45
                have Xu := Xu.below hc45
                have Xv := Xv.below hc45
                have Xl := Xl.below hc45
                have Xr := Xr.below hc45
                go_wp2
                go_ret
                exact ⟨rfl, hw⟩
              · have hsn : ((y : Int) == 0) = false := by rw [beq_eq_false_iff_ne]; exact hz
                have hne := Lib.hid (show qb ≠ 0 from fun h => hz (by rw [← hy.out]; exact qs_zero.2 h))
                clear hz
                refine (SignQ _ qb 6 _ hb (by decide)).mono ?_
                rintro e v44 ⟨rfl, hc44⟩
                rw [hy.out]
                have hw := hw.trans (hc44.mono hw.size)
                have hB := Below.refl v44.heap.size v44
                have ha := ha.below hc44
                have hb := hb.below hc44
                have hc := hc.below hc44
                have qx := qx.below hc44
                have qy := qy.below hc44
                have qu := qu.below hc44
                have qv := qv.below hc44
                have ql := ql.below hc44
                have qr := qr.below hc44
                have q38 := q38.below hc44
                have q39 := q39.below hc44
                have q40 := q40.below hc44
                have q42 := q42.below hc44
                have Xa := Xa.below hc44
                have Xb := Xb.below hc44
                have Xc := Xc.below hc44
                have Xx := Xx.below hc44
                have Xy := Xy.below hc44
                have Xu := Xu.below hc44
                have Xv := Xv.below hc44
                have Xl := Xl.below hc44
                have Xr := Xr.below hc44
                go_upto_region 13 with fail
                clear hsn
                have ka_0 : v44.cell? ⟨w.heap.size, 0, none⟩ = some (.bool sa) := Xa.cell 0
                have ka_1 : v44.cell? ⟨w.heap.size, 1, none⟩ = some (.slice Aa na ca) := Xa.cell 1
                have ka_2 : v44.cell? ⟨w.heap.size, 2, none⟩ = some (.slice Ba ma ea) := Xa.cell 2
                have kb_0 : v44.cell? ⟨w.heap.size + 1, 0, none⟩ = some (.bool sb) := Xb.cell 0
                have kb_1 : v44.cell? ⟨w.heap.size + 1, 1, none⟩ = some (.slice Ab nb cb) := Xb.cell 1
                have kb_2 : v44.cell? ⟨w.heap.size + 1, 2, none⟩ = some (.slice Bb mb eb) := Xb.cell 2
                have hKeep := Lib.hid (fun (wx : World) (hb : Below v44.heap.size v44 wx) => (⟨(hb.cell (World.block_lt_of_cell? _ _ ka_0)).trans ka_0, (hb.cell (World.block_lt_of_cell? _ _ ka_1)).trans ka_1, (hb.cell (World.block_lt_of_cell? _ _ ka_2)).trans ka_2, (hb.cell (World.block_lt_of_cell? _ _ kb_0)).trans kb_0, (hb.cell (World.block_lt_of_cell? _ _ kb_1)).trans kb_1, (hb.cell (World.block_lt_of_cell? _ _ kb_2)).trans kb_2⟩ : wx.cell? ⟨w.heap.size, 0, none⟩ = some (.bool sa) ∧ wx.cell? ⟨w.heap.size, 1, none⟩ = some (.slice Aa na ca) ∧ wx.cell? ⟨w.heap.size, 2, none⟩ = some (.slice Ba ma ea) ∧ wx.cell? ⟨w.heap.size + 1, 0, none⟩ = some (.bool sb) ∧ wx.cell? ⟨w.heap.size + 1, 1, none⟩ = some (.slice Ab nb cb) ∧ wx.cell? ⟨w.heap.size + 1, 2, none⟩ = some (.slice Bb mb eb)))
                clear ka_0 ka_1 ka_2 kb_0 kb_1 kb_2
                go_cut [13, 14] (fun v ve wx => ∃ g s A m c B n d, v = .pointer (some ⟨g, 0, none⟩) ∧ ve = .int .i64 0 ∧ Blk wx g 24 #[.bool s, .slice A m c, .slice B n d] ∧ FQ wx (.agg #[.bool s, .slice A m c, .slice B n d]) (qa * qb * qb⁻¹) 420 ∧ Below v44.heap.size v44 wx)
                case first =>
                  as_aux_lemma =>
                    have hB := bel_drewN (Below.refl v44.heap.size v44) 1
                    have ha := ha.below hB
                    have hb := hb.below hB
                    have hc := hc.below hB
                    have qx := qx.below hB
                    have qy := qy.below hB
                    have qu := qu.below hB
                    have qv := qv.below hB
                    have ql := ql.below hB
                    have qr := qr.below hB
                    have q38 := q38.below hB
                    have q39 := q39.below hB
                    have q40 := q40.below hB
                    have q42 := q42.below hB
                    refine wp_region_held_drew (S := (fun wx => wx.cell? ⟨w.heap.size, 0, none⟩ = some (.bool sa) ∧ wx.cell? ⟨w.heap.size, 1, none⟩ = some (.slice Aa na ca) ∧ wx.cell? ⟨w.heap.size, 2, none⟩ = some (.slice Ba ma ea) ∧ wx.cell? ⟨w.heap.size + 1, 0, none⟩ = some (.bool sb) ∧ wx.cell? ⟨w.heap.size + 1, 1, none⟩ = some (.slice Ab nb cb) ∧ wx.cell? ⟨w.heap.size + 1, 2, none⟩ = some (.slice Bb mb eb))) (by kernel_rfl) (hKeep.out _ hB) (fun hHeld => ?_)
                    refine wpAnyH_take (i := 0) (v := .agg #[.bool sa, .slice Aa na ca, .slice Ba ma ea]) rfl (by kernel_rfl) (by kernel_rfl) (by kernel_rfl) (fun _ _ _ h => h) (Or.inl ⟨by kernel_rfl, by (intro w hSw; (try dsimp only at hSw); go_simp)⟩) hHeld ?_
                    try simp only [Act.put, List.getElem_toArray, List.getElem_cons_succ, List.getElem_cons_zero, List.setIfInBounds_toArray, List.set_cons_zero, List.set_cons_succ]
                    refine wpAnyH_take (i := 1) (v := .agg #[.bool sb, .slice Ab nb cb, .slice Bb mb eb]) rfl (by kernel_rfl) (by kernel_rfl) (by kernel_rfl) (fun _ _ _ h => h) (Or.inl ⟨by kernel_rfl, by (intro w hSw; (try dsimp only at hSw); go_simp)⟩) hHeld ?_
                    try simp only [Act.put, List.getElem_toArray, List.getElem_cons_succ, List.getElem_cons_zero, List.setIfInBounds_toArray, List.set_cons_zero, List.set_cons_succ]
                    refine wpAnyH_take (i := 3) (v := .agg #[.bool sb, .slice Ab nb cb, .slice Bb mb eb]) rfl (by kernel_rfl) (by kernel_rfl) (by kernel_rfl) (fun _ _ _ h => h) (Or.inl ⟨by kernel_rfl, by (intro w hSw; (try dsimp only at hSw); go_simp)⟩) hHeld ?_
                    try simp only [Act.put, List.getElem_toArray, List.getElem_cons_succ, List.getElem_cons_zero, List.setIfInBounds_toArray, List.set_cons_zero, List.set_cons_succ]
                    refine wpAnyH_ready (rs := [2, 8]) (by kernel_rfl) (by simp) ?_
                    refine AllReadyH.cons rfl (fun K hK => ?_) ?_
                    · skip
                      go_simp
                      refine (mulQ _ _ _ _ 6 _ ha hb (by decide)).mono ?_
                      rintro e v45 ⟨_, rfl, q45, hc45⟩
                      have q45 := q45.le (show _ ≤ 52 by decide)
                      obtain ⟨s45, A45, m45, c45, B45, n45, d45, rfl⟩ := q45.form
                      have hB := hB.trans (hc45.mono hB.size)
                      have ha := ha.below hc45
                      have hb := hb.below hc45
                      have hc := hc.below hc45
                      have qx := qx.below hc45
                      have qy := qy.below hc45
                      have qu := qu.below hc45
                      have qv := qv.below hc45
                      have ql := ql.below hc45
                      have qr := qr.below hc45
                      have q38 := q38.below hc45
                      have q39 := q39.below hc45
                      have q40 := q40.below hc45
                      have q42 := q42.below hc45
                      go_wp2_with fail
                      refine hK.out _ _ ?_ (fun hHeld => ?_)
                      · exact hKeep.out _ hB
                      clear hK K
                      try simp only [Act.put, List.getElem_toArray, List.getElem_cons_succ, List.getElem_cons_zero, List.setIfInBounds_toArray, List.set_cons_zero, List.set_cons_succ]
                      refine wpAnyH_ready (rs := [4, 8]) (by kernel_rfl) (by simp) ?_
                      refine AllReadyH.cons rfl (fun K hK => ?_) ?_
                      · skip
                        go_simp
                        refine (divQ _ _ _ qb 52 _ q45.af (hb.le (show 6 ≤ 52 by decide)) (by decide)).mono ?_
                        rintro e v46 ⟨_, hdz⟩
                        obtain ⟨_, rfl, q46, hc46⟩ := hdz hne.out
                        clear hdz
                        have q46 := q46.le (show _ ≤ 420 by decide)
                        obtain ⟨s46, A46, m46, c46, B46, n46, d46, rfl⟩ := q46.form
                        have hB := hB.trans (hc46.mono hB.size)
                        have ha := ha.below hc46
                        have hb := hb.below hc46
                        have hc := hc.below hc46
                        have qx := qx.below hc46
                        have qy := qy.below hc46
                        have qu := qu.below hc46
                        have qv := qv.below hc46
                        have ql := ql.below hc46
                        have qr := qr.below hc46
                        have q38 := q38.below hc46
                        have q39 := q39.below hc46
                        have q40 := q40.below hc46
                        have q42 := q42.below hc46
                        have q45 := q45.below hc46
                        go_wp2_with fail
                        refine hK.out _ _ ?_ (fun hHeld => ?_)
                        · exact hKeep.out _ hB
                        clear hK K
                        try simp only [Act.put, List.getElem_toArray, List.getElem_cons_succ, List.getElem_cons_zero, List.setIfInBounds_toArray, List.set_cons_zero, List.set_cons_succ]
                        refine wpAnyH_take (i := 5) (v := .tuple #[.agg #[.bool s46, .slice A46 m46 c46, .slice B46 n46 d46], .int .i64 0]) rfl (by kernel_rfl) (by kernel_rfl) (by kernel_rfl) (fun _ _ _ h => h) (Or.inl ⟨by kernel_rfl, by (intro w hSw; (try dsimp only at hSw); go_simp)⟩) hHeld ?_
                        try simp only [Act.put, List.getElem_toArray, List.getElem_cons_succ, List.getElem_cons_zero, List.setIfInBounds_toArray, List.set_cons_zero, List.set_cons_succ]
                        refine wpAnyH_take (i := 6) (v := .agg #[.bool s46, .slice A46 m46 c46, .slice B46 n46 d46]) rfl (by kernel_rfl) (by kernel_rfl) (by kernel_rfl) (fun _ _ _ h => h) (Or.inl ⟨by kernel_rfl, by (intro w hSw; (try dsimp only at hSw); go_simp)⟩) hHeld ?_
                        try simp only [Act.put, List.getElem_toArray, List.getElem_cons_succ, List.getElem_cons_zero, List.setIfInBounds_toArray, List.set_cons_zero, List.set_cons_succ]
                        refine wpAnyH_take (i := 7) (v := .int .i64 0) rfl (by kernel_rfl) (by kernel_rfl) (by kernel_rfl) (fun _ _ _ h => h) (Or.inl ⟨by kernel_rfl, by (intro w hSw; (try dsimp only at hSw); go_simp)⟩) hHeld ?_
                        try simp only [Act.put, List.getElem_toArray, List.getElem_cons_succ, List.getElem_cons_zero, List.setIfInBounds_toArray, List.set_cons_zero, List.set_cons_succ]
                        refine wpAnyH_ready (rs := [8]) (by kernel_rfl) (by simp) ?_
                        refine AllReadyH.cons rfl (fun K hK => ?_) AllReadyH.nil
                        go_simp
                        refine hK.out _ _ ?_ (fun hHeld => ?_)
                        · exact hKeep.out _ (hB.alloc hB.size _)
                        clear hK K
                        try simp only [Act.put, List.getElem_toArray, List.getElem_cons_succ, List.getElem_cons_zero, List.setIfInBounds_toArray, List.set_cons_zero, List.set_cons_succ]
                        have hgz := Lib.hid (show v44.heap.size ≤ (v46 : World).heap.size from hB.size)
                        have Z : Blk ((v46 : World).alloc (.cells #[.bool false, .slice none 0 0, .slice none 0 0] 24)) (v46 : World).heap.size 24 #[.bool false, .slice none 0 0, .slice none 0 0] := Blk.new v46 24 #[.bool false, .slice none 0 0, .slice none 0 0]
                        refine wpAnyH_ready (rs := [9]) (by kernel_rfl) (by simp) ?_
                        refine AllReadyH.cons rfl (fun K hK => ?_) AllReadyH.nil
                        have r0 := Z.cell 0
                        have r1 := Z.cell 1
                        have r2 := Z.cell 2
                        have f0 := Z.frozen 0
                        have f1 := Z.frozen 1
                        have f2 := Z.frozen 2
                        go_simp
                        refine hK.out _ _ ?_ (fun hHeld => ?_)
                        · exact hKeep.out _ (hB.alloc hB.size _)
                        clear hK K
                        try simp only [Act.put, List.getElem_toArray, List.getElem_cons_succ, List.getElem_cons_zero, List.setIfInBounds_toArray, List.set_cons_zero, List.set_cons_succ]
                        refine wpAnyH_take (i := 10) (v := .int .i64 0) rfl (by kernel_rfl) (by kernel_rfl) (by kernel_rfl) (fun _ _ _ h => h) (Or.inl ⟨by kernel_rfl, by (intro w hSw; (try dsimp only at hSw); go_simp)⟩) hHeld ?_
                        try simp only [Act.put, List.getElem_toArray, List.getElem_cons_succ, List.getElem_cons_zero, List.setIfInBounds_toArray, List.set_cons_zero, List.set_cons_succ]
                        refine wpAnyH_done (by kernel_rfl) ?_ _
                        go_wp2_with fail
                        go_meet
                        exact ⟨_, s46, A46, m46, c46, B46, n46, d46, rfl, rfl, Blk.new _ _ _, q46.below ((Below.refl _ _).alloc (Nat.le_refl _) _), hB.alloc hB.size _⟩
                      refine AllReadyH.cons rfl (fun K hK => ?_) AllReadyH.nil
                      go_simp
                      refine hK.out _ _ ?_ (fun hHeld => ?_)
                      · exact hKeep.out _ (hB.alloc hB.size _)
                      clear hK K
                      try simp only [Act.put, List.getElem_toArray, List.getElem_cons_succ, List.getElem_cons_zero, List.setIfInBounds_toArray, List.set_cons_zero, List.set_cons_succ]
                      have hgz := Lib.hid (show v44.heap.size ≤ (v45 : World).heap.size from hB.size)
                      have Z : Blk ((v45 : World).alloc (.cells #[.bool false, .slice none 0 0, .slice none 0 0] 24)) (v45 : World).heap.size 24 #[.bool false, .slice none 0 0, .slice none 0 0] := Blk.new v45 24 #[.bool false, .slice none 0 0, .slice none 0 0]
                      have hal := (Below.refl (v45 : World).heap.size v45).alloc (Nat.le_refl _) (.cells #[.bool false, .slice none 0 0, .slice none 0 0] 24)
                      have hB := hB.alloc hB.size (.cells #[.bool false, .slice none 0 0, .slice none 0 0] 24)
                      have ha := ha.below hal
                      have hb := hb.below hal
                      have hc := hc.below hal
                      have qx := qx.below hal
                      have qy := qy.below hal
                      have qu := qu.below hal
                      have qv := qv.below hal
                      have ql := ql.below hal
                      have qr := qr.below hal
                      have q38 := q38.below hal
                      have q39 := q39.below hal
                      have q40 := q40.below hal
                      have q42 := q42.below hal
                      have q45 := q45.below hal
                      refine wpAnyH_ready (rs := [4]) (by kernel_rfl) (by simp) ?_
                      refine AllReadyH.cons rfl (fun K hK => ?_) AllReadyH.nil
                      go_simp
                      refine (divQ _ _ _ qb 52 _ q45.af (hb.le (show 6 ≤ 52 by decide)) (by decide)).mono ?_
                      rintro e v47 ⟨_, hdz⟩
                      obtain ⟨_, rfl, q47, hc47⟩ := hdz hne.out
                      clear hdz
                      have q47 := q47.le (show _ ≤ 420 by decide)
                      obtain ⟨s47, A47, m47, c47, B47, n47, d47, rfl⟩ := q47.form
                      have hB := hB.trans (hc47.mono hB.size)
                      have ha := ha.below hc47
                      have hb := hb.below hc47
                      have hc := hc.below hc47
                      have qx := qx.below hc47
                      have qy := qy.below hc47
                      have qu := qu.below hc47
                      have qv := qv.below hc47
                      have ql := ql.below hc47
                      have qr := qr.below hc47
                      have q38 := q38.below hc47
                      have q39 := q39.below hc47
                      have q40 := q40.below hc47
                      have q42 := q42.below hc47
                      have q45 := q45.below hc47
                      have Z := Z.below hc47
                      go_wp2_with fail
                      refine hK.out _ _ ?_ (fun hHeld => ?_)
                      · exact hKeep.out _ hB
                      clear hK K
                      try simp only [Act.put, List.getElem_toArray, List.getElem_cons_succ, List.getElem_cons_zero, List.setIfInBounds_toArray, List.set_cons_zero, List.set_cons_succ]
                      refine wpAnyH_take (i := 5) (v := .tuple #[.agg #[.bool s47, .slice A47 m47 c47, .slice B47 n47 d47], .int .i64 0]) rfl (by kernel_rfl) (by kernel_rfl) (by kernel_rfl) (fun _ _ _ h => h) (Or.inl ⟨by kernel_rfl, by (intro w hSw; (try dsimp only at hSw); go_simp)⟩) hHeld ?_
                      try simp only [Act.put, List.getElem_toArray, List.getElem_cons_succ, List.getElem_cons_zero, List.setIfInBounds_toArray, List.set_cons_zero, List.set_cons_succ]
                      refine wpAnyH_take (i := 6) (v := .agg #[.bool s47, .slice A47 m47 c47, .slice B47 n47 d47]) rfl (by kernel_rfl) (by kernel_rfl) (by kernel_rfl) (fun _ _ _ h => h) (Or.inl ⟨by kernel_rfl, by (intro w hSw; (try dsimp only at hSw); go_simp)⟩) hHeld ?_
                      try simp only [Act.put, List.getElem_toArray, List.getElem_cons_succ, List.getElem_cons_zero, List.setIfInBounds_toArray, List.set_cons_zero, List.set_cons_succ]
                      refine wpAnyH_take (i := 7) (v := .int .i64 0) rfl (by kernel_rfl) (by kernel_rfl) (by kernel_rfl) (fun _ _ _ h => h) (Or.inl ⟨by kernel_rfl, by (intro w hSw; (try dsimp only at hSw); go_simp)⟩) hHeld ?_
                      try simp only [Act.put, List.getElem_toArray, List.getElem_cons_succ, List.getElem_cons_zero, List.setIfInBounds_toArray, List.set_cons_zero, List.set_cons_succ]
                      refine wpAnyH_ready (rs := [9]) (by kernel_rfl) (by simp) ?_
                      refine AllReadyH.cons rfl (fun K hK => ?_) AllReadyH.nil
                      have r0 := Z.cell 0
                      have r1 := Z.cell 1
                      have r2 := Z.cell 2
                      have f0 := Z.frozen 0
                      have f1 := Z.frozen 1
                      have f2 := Z.frozen 2
                      go_simp
                      refine hK.out _ _ ?_ (fun hHeld => ?_)
                      · exact hKeep.out _ (bel_set3 hB hgz.out _ _ _)
                      clear hK K
                      try simp only [Act.put, List.getElem_toArray, List.getElem_cons_succ, List.getElem_cons_zero, List.setIfInBounds_toArray, List.set_cons_zero, List.set_cons_succ]
                      refine wpAnyH_take (i := 10) (v := .int .i64 0) rfl (by kernel_rfl) (by kernel_rfl) (by kernel_rfl) (fun _ _ _ h => h) (Or.inl ⟨by kernel_rfl, by (intro w hSw; (try dsimp only at hSw); go_simp)⟩) hHeld ?_
                      try simp only [Act.put, List.getElem_toArray, List.getElem_cons_succ, List.getElem_cons_zero, List.setIfInBounds_toArray, List.set_cons_zero, List.set_cons_succ]
                      refine wpAnyH_done (by kernel_rfl) ?_ _
                      go_wp2_with fail
                      go_meet
                      exact ⟨_, s47, A47, m47, c47, B47, n47, d47, rfl, rfl, ((Z.set_ 0 _).set_ 1 _).set_ 2 _, q47.set3 Z _ _ _, bel_set3 hB hgz.out _ _ _⟩
                    refine AllReadyH.cons rfl (fun K hK => ?_) AllReadyH.nil
                    go_simp
                    refine hK.out _ _ ?_ (fun hHeld => ?_)
                    · exact hKeep.out _ (hB.alloc hB.size _)
                    clear hK K
                    try simp only [Act.put, List.getElem_toArray, List.getElem_cons_succ, List.getElem_cons_zero, List.setIfInBounds_toArray, List.set_cons_zero, List.set_cons_succ]
                    have hgz := Lib.hid (show v44.heap.size ≤ v44.heap.size from hB.size)
                    have Z : Blk ((v44.drew : World).alloc (.cells #[.bool false, .slice none 0 0, .slice none 0 0] 24)) v44.heap.size 24 #[.bool false, .slice none 0 0, .slice none 0 0] := Blk.new v44.drew 24 #[.bool false, .slice none 0 0, .slice none 0 0]
                    have hal := (Below.refl (v44.drew : World).heap.size v44.drew).alloc (Nat.le_refl _) (.cells #[.bool false, .slice none 0 0, .slice none 0 0] 24)
                    have hB := hB.alloc hB.size (.cells #[.bool false, .slice none 0 0, .slice none 0 0] 24)
                    have ha := ha.below hal
                    have hb := hb.below hal
                    have hc := hc.below hal
                    have qx := qx.below hal
                    have qy := qy.below hal
                    have qu := qu.below hal
                    have qv := qv.below hal
                    have ql := ql.below hal
                    have qr := qr.below hal
                    have q38 := q38.below hal
                    have q39 := q39.below hal
                    have q40 := q40.below hal
                    have q42 := q42.below hal
                    refine wpAnyH_ready (rs := [2]) (by kernel_rfl) (by simp) ?_
                    refine AllReadyH.cons rfl (fun K hK => ?_) AllReadyH.nil
                    go_simp
                    refine (mulQ _ _ _ _ 6 _ ha hb (by decide)).mono ?_
                    rintro e v48 ⟨_, rfl, q48, hc48⟩
                    have q48 := q48.le (show _ ≤ 52 by decide)
                    obtain ⟨s48, A48, m48, c48, B48, n48, d48, rfl⟩ := q48.form
                    have hB := hB.trans (hc48.mono hB.size)
                    have ha := ha.below hc48
                    have hb := hb.below hc48
                    have hc := hc.below hc48
                    have qx := qx.below hc48
                    have qy := qy.below hc48
                    have qu := qu.below hc48
                    have qv := qv.below hc48
                    have ql := ql.below hc48
                    have qr := qr.below hc48
                    have q38 := q38.below hc48
                    have q39 := q39.below hc48
                    have q40 := q40.below hc48
                    have q42 := q42.below hc48
                    have Z := Z.below hc48
                    go_wp2_with fail
                    refine hK.out _ _ ?_ (fun hHeld => ?_)
                    · exact hKeep.out _ hB
                    clear hK K
                    try simp only [Act.put, List.getElem_toArray, List.getElem_cons_succ, List.getElem_cons_zero, List.setIfInBounds_toArray, List.set_cons_zero, List.set_cons_succ]
                    refine wpAnyH_ready (rs := [4]) (by kernel_rfl) (by simp) ?_
                    refine AllReadyH.cons rfl (fun K hK => ?_) AllReadyH.nil
                    go_simp
                    refine (divQ _ _ _ qb 52 _ q48.af (hb.le (show 6 ≤ 52 by decide)) (by decide)).mono ?_
                    rintro e v49 ⟨_, hdz⟩
                    obtain ⟨_, rfl, q49, hc49⟩ := hdz hne.out
                    clear hdz
                    have q49 := q49.le (show _ ≤ 420 by decide)
                    obtain ⟨s49, A49, m49, c49, B49, n49, d49, rfl⟩ := q49.form
                    have hB := hB.trans (hc49.mono hB.size)
                    have ha := ha.below hc49
                    have hb := hb.below hc49
                    have hc := hc.below hc49
                    have qx := qx.below hc49
                    have qy := qy.below hc49
                    have qu := qu.below hc49
                    have qv := qv.below hc49
                    have ql := ql.below hc49
                    have qr := qr.below hc49
                    have q38 := q38.below hc49
                    have q39 := q39.below hc49
                    have q40 := q40.below hc49
                    have q42 := q42.below hc49
                    have q48 := q48.below hc49
                    have Z := Z.below hc49
                    go_wp2_with fail
                    refine hK.out _ _ ?_ (fun hHeld => ?_)
                    · exact hKeep.out _ hB
                    clear hK K
                    try simp only [Act.put, List.getElem_toArray, List.getElem_cons_succ, List.getElem_cons_zero, List.setIfInBounds_toArray, List.set_cons_zero, List.set_cons_succ]
                    refine wpAnyH_take (i := 5) (v := .tuple #[.agg #[.bool s49, .slice A49 m49 c49, .slice B49 n49 d49], .int .i64 0]) rfl (by kernel_rfl) (by kernel_rfl) (by kernel_rfl) (fun _ _ _ h => h) (Or.inl ⟨by kernel_rfl, by (intro w hSw; (try dsimp only at hSw); go_simp)⟩) hHeld ?_
                    try simp only [Act.put, List.getElem_toArray, List.getElem_cons_succ, List.getElem_cons_zero, List.setIfInBounds_toArray, List.set_cons_zero, List.set_cons_succ]
                    refine wpAnyH_take (i := 6) (v := .agg #[.bool s49, .slice A49 m49 c49, .slice B49 n49 d49]) rfl (by kernel_rfl) (by kernel_rfl) (by kernel_rfl) (fun _ _ _ h => h) (Or.inl ⟨by kernel_rfl, by (intro w hSw; (try dsimp only at hSw); go_simp)⟩) hHeld ?_
                    try simp only [Act.put, List.getElem_toArray, List.getElem_cons_succ, List.getElem_cons_zero, List.setIfInBounds_toArray, List.set_cons_zero, List.set_cons_succ]
                    refine wpAnyH_take (i := 7) (v := .int .i64 0) rfl (by kernel_rfl) (by kernel_rfl) (by kernel_rfl) (fun _ _ _ h => h) (Or.inl ⟨by kernel_rfl, by (intro w hSw; (try dsimp only at hSw); go_simp)⟩) hHeld ?_
                    try simp only [Act.put, List.getElem_toArray, List.getElem_cons_succ, List.getElem_cons_zero, List.setIfInBounds_toArray, List.set_cons_zero, List.set_cons_succ]
                    refine wpAnyH_ready (rs := [9]) (by kernel_rfl) (by simp) ?_
                    refine AllReadyH.cons rfl (fun K hK => ?_) AllReadyH.nil
                    have r0 := Z.cell 0
                    have r1 := Z.cell 1
                    have r2 := Z.cell 2
                    have f0 := Z.frozen 0
                    have f1 := Z.frozen 1
                    have f2 := Z.frozen 2
                    go_simp
                    refine hK.out _ _ ?_ (fun hHeld => ?_)
                    · exact hKeep.out _ (bel_set3 hB hgz.out _ _ _)
                    clear hK K
                    try simp only [Act.put, List.getElem_toArray, List.getElem_cons_succ, List.getElem_cons_zero, List.setIfInBounds_toArray, List.set_cons_zero, List.set_cons_succ]
                    refine wpAnyH_take (i := 10) (v := .int .i64 0) rfl (by kernel_rfl) (by kernel_rfl) (by kernel_rfl) (fun _ _ _ h => h) (Or.inl ⟨by kernel_rfl, by (intro w hSw; (try dsimp only at hSw); go_simp)⟩) hHeld ?_
                    try simp only [Act.put, List.getElem_toArray, List.getElem_cons_succ, List.getElem_cons_zero, List.setIfInBounds_toArray, List.set_cons_zero, List.set_cons_succ]
                    refine wpAnyH_done (by kernel_rfl) ?_ _
                    go_wp2_with fail
                    go_meet
                    exact ⟨_, s49, A49, m49, c49, B49, n49, d49, rfl, rfl, ((Z.set_ 0 _).set_ 1 _).set_ 2 _, q49.set3 Z _ _ _, bel_set3 hB hgz.out _ _ _⟩
                case rest =>
                  clear hKeep
                  obtain ⟨gd, s_d, A_d, m_d, c_d, B_d, n_d, d_d, rfl, rfl, Xd, qd, hB⟩ := hcut
                  generalize wc = ud at *
                  have hw := hw.trans (hB.mono hw.size)
                  have ha := ha.below hB
                  have hb := hb.below hB
                  have hc := hc.below hB
                  have qx := qx.below hB
                  have qy := qy.below hB
                  have qu := qu.below hB
                  have qv := qv.below hB
                  have ql := ql.below hB
                  have qr := qr.below hB
                  have q38 := q38.below hB
                  have q39 := q39.below hB
                  have q40 := q40.below hB
                  have q42 := q42.below hB
                  have Xa := Xa.below hB
                  have Xb := Xb.below hB
                  have Xc := Xc.below hB
                  have Xx := Xx.below hB
                  have Xy := Xy.below hB
                  have Xu := Xu.below hB
                  have Xv := Xv.below hB
                  have Xl := Xl.below hB
                  have Xr := Xr.below hB
                  have hB := Below.refl ud.heap.size ud
                  have kb0 : ud.cell? ⟨w.heap.size + 1, 0, none⟩ = some (.bool sb) := Xb.cell 0
                  have kb1 : ud.cell? ⟨w.heap.size + 1, 1, none⟩ = some (.slice Ab nb cb) := Xb.cell 1
                  have kb2 : ud.cell? ⟨w.heap.size + 1, 2, none⟩ = some (.slice Bb mb eb) := Xb.cell 2
                  go_wp2_with fail
                  clear kb0 kb1 kb2
                  refine (divQ _ _ qb qb 6 _ hb hb (by decide)).mono ?_
                  rintro e v50 ⟨_, hdz⟩
                  obtain ⟨_, rfl, q50, hc50⟩ := hdz hne.out
                  clear hdz
                  have hw := hw.trans (hc50.mono hw.size)
                  have hB := Below.refl v50.heap.size v50
                  have ha := ha.below hc50
                  have hb := hb.below hc50
                  have hc := hc.below hc50
                  have qx := qx.below hc50
                  have qy := qy.below hc50
                  have qu := qu.below hc50
                  have qv := qv.below hc50
                  have ql := ql.below hc50
                  have qr := qr.below hc50
                  have q38 := q38.below hc50
                  have q39 := q39.below hc50
                  have q40 := q40.below hc50
                  have q42 := q42.below hc50
                  have qd := qd.below hc50
                  have Xa := Xa.below hc50
                  have Xb := Xb.below hc50
                  have Xc := Xc.below hc50
                  have Xx := Xx.below hc50
                  have Xy := Xy.below hc50
                  have Xu := Xu.below hc50
                  have Xv := Xv.below hc50
                  have Xl := Xl.below hc50
                  have Xr := Xr.below hc50
                  have Xd := Xd.below hc50
                  have q50 := q50.le (show _ ≤ 52 by decide)
                  obtain ⟨s50, A50, m50, c50, B50, n50, d50, rfl⟩ := q50.form
                  have hao := (Below.refl v50.heap.size v50).alloc (Nat.le_refl _) (.cells #[.bool s50, .slice A50 m50 c50, .slice B50 n50 d50] 24)
                  have Xo := Blk.new v50 24 #[.bool s50, .slice A50 m50 c50, .slice B50 n50 d50]
                  have hw := hw.alloc hw.size (.cells #[.bool s50, .slice A50 m50 c50, .slice B50 n50 d50] 24)
                  have ha := ha.below hao
                  have hb := hb.below hao
                  have hc := hc.below hao
                  have qx := qx.below hao
                  have qy := qy.below hao
                  have qu := qu.below hao
                  have qv := qv.below hao
                  have ql := ql.below hao
                  have qr := qr.below hao
                  have q38 := q38.below hao
                  have q39 := q39.below hao
                  have q40 := q40.below hao
                  have q42 := q42.below hao
                  have qd := qd.below hao
                  have q50 := q50.below hao
                  have Xa := Xa.below hao
                  have Xb := Xb.below hao
                  have Xc := Xc.below hao
                  have Xx := Xx.below hao
                  have Xy := Xy.below hao
                  have Xu := Xu.below hao
                  have Xv := Xv.below hao
                  have Xl := Xl.below hao
                  have Xr := Xr.below hao
                  have Xd := Xd.below hao
                  clear hao
                  go_upto_region 15 with fail
                  generalize v50.heap.size = go at *
                  generalize v50.alloc (.cells #[.bool s50, .slice A50 m50 c50, .slice B50 n50 d50] 24) = uo at *
                  have hinv := Lib.hid (Rat.mul_inv_cancel qb hne.out)
                  have ka_0 : uo.cell? ⟨w.heap.size, 0, none⟩ = some (.bool sa) := Xa.cell 0
                  have ka_1 : uo.cell? ⟨w.heap.size, 1, none⟩ = some (.slice Aa na ca) := Xa.cell 1
                  have ka_2 : uo.cell? ⟨w.heap.size, 2, none⟩ = some (.slice Ba ma ea) := Xa.cell 2
                  have kb_0 : uo.cell? ⟨w.heap.size + 1, 0, none⟩ = some (.bool sb) := Xb.cell 0
                  have kb_1 : uo.cell? ⟨w.heap.size + 1, 1, none⟩ = some (.slice Ab nb cb) := Xb.cell 1
                  have kb_2 : uo.cell? ⟨w.heap.size + 1, 2, none⟩ = some (.slice Bb mb eb) := Xb.cell 2
                  have kc_0 : uo.cell? ⟨w.heap.size + 1 + 1, 0, none⟩ = some (.bool sc) := Xc.cell 0
                  have kc_1 : uo.cell? ⟨w.heap.size + 1 + 1, 1, none⟩ = some (.slice Ac nc cc) := Xc.cell 1
                  have kc_2 : uo.cell? ⟨w.heap.size + 1 + 1, 2, none⟩ = some (.slice Bc mc ec) := Xc.cell 2
                  have kx_0 : uo.cell? ⟨gx, 0, none⟩ = some (.bool s_x) := Xx.cell 0
                  have kx_1 : uo.cell? ⟨gx, 1, none⟩ = some (.slice A_x m_x c_x) := Xx.cell 1
                  have kx_2 : uo.cell? ⟨gx, 2, none⟩ = some (.slice B_x n_x d_x) := Xx.cell 2
                  have ky_0 : uo.cell? ⟨gy, 0, none⟩ = some (.bool s_y) := Xy.cell 0
                  have ky_1 : uo.cell? ⟨gy, 1, none⟩ = some (.slice A_y m_y c_y) := Xy.cell 1
                  have ky_2 : uo.cell? ⟨gy, 2, none⟩ = some (.slice B_y n_y d_y) := Xy.cell 2
                  have ku_0 : uo.cell? ⟨gu, 0, none⟩ = some (.bool s_u) := Xu.cell 0
                  have ku_1 : uo.cell? ⟨gu, 1, none⟩ = some (.slice A_u m_u c_u) := Xu.cell 1
                  have ku_2 : uo.cell? ⟨gu, 2, none⟩ = some (.slice B_u n_u d_u) := Xu.cell 2
                  have kv_0 : uo.cell? ⟨gv, 0, none⟩ = some (.bool s_v) := Xv.cell 0
                  have kv_1 : uo.cell? ⟨gv, 1, none⟩ = some (.slice A_v m_v c_v) := Xv.cell 1
                  have kv_2 : uo.cell? ⟨gv, 2, none⟩ = some (.slice B_v n_v d_v) := Xv.cell 2
                  have kl_0 : uo.cell? ⟨gl, 0, none⟩ = some (.bool s_l) := Xl.cell 0
                  have kl_1 : uo.cell? ⟨gl, 1, none⟩ = some (.slice A_l m_l c_l) := Xl.cell 1
                  have kl_2 : uo.cell? ⟨gl, 2, none⟩ = some (.slice B_l n_l d_l) := Xl.cell 2
                  have kr_0 : uo.cell? ⟨gr, 0, none⟩ = some (.bool s_r) := Xr.cell 0
                  have kr_1 : uo.cell? ⟨gr, 1, none⟩ = some (.slice A_r m_r c_r) := Xr.cell 1
                  have kr_2 : uo.cell? ⟨gr, 2, none⟩ = some (.slice B_r n_r d_r) := Xr.cell 2
                  have kd_0 : uo.cell? ⟨gd, 0, none⟩ = some (.bool s_d) := Xd.cell 0
                  have kd_1 : uo.cell? ⟨gd, 1, none⟩ = some (.slice A_d m_d c_d) := Xd.cell 1
                  have kd_2 : uo.cell? ⟨gd, 2, none⟩ = some (.slice B_d n_d d_d) := Xd.cell 2
                  have ko_0 : uo.cell? ⟨go, 0, none⟩ = some (.bool s50) := Xo.cell 0
                  have ko_1 : uo.cell? ⟨go, 1, none⟩ = some (.slice A50 m50 c50) := Xo.cell 1
                  have ko_2 : uo.cell? ⟨go, 2, none⟩ = some (.slice B50 n50 d50) := Xo.cell 2
                  have hKeep := Lib.hid (fun (wx : World) (hb : Below uo.heap.size uo wx) => (⟨(hb.cell (World.block_lt_of_cell? _ _ ka_0)).trans ka_0, (hb.cell (World.block_lt_of_cell? _ _ ka_1)).trans ka_1, (hb.cell (World.block_lt_of_cell? _ _ ka_2)).trans ka_2, (hb.cell (World.block_lt_of_cell? _ _ kb_0)).trans kb_0, (hb.cell (World.block_lt_of_cell? _ _ kb_1)).trans kb_1, (hb.cell (World.block_lt_of_cell? _ _ kb_2)).trans kb_2, (hb.cell (World.block_lt_of_cell? _ _ kc_0)).trans kc_0, (hb.cell (World.block_lt_of_cell? _ _ kc_1)).trans kc_1, (hb.cell (World.block_lt_of_cell? _ _ kc_2)).trans kc_2, (hb.cell (World.block_lt_of_cell? _ _ kx_0)).trans kx_0, (hb.cell (World.block_lt_of_cell? _ _ kx_1)).trans kx_1, (hb.cell (World.block_lt_of_cell? _ _ kx_2)).trans kx_2, (hb.cell (World.block_lt_of_cell? _ _ ky_0)).trans ky_0, (hb.cell (World.block_lt_of_cell? _ _ ky_1)).trans ky_1, (hb.cell (World.block_lt_of_cell? _ _ ky_2)).trans ky_2, (hb.cell (World.block_lt_of_cell? _ _ ku_0)).trans ku_0, (hb.cell (World.block_lt_of_cell? _ _ ku_1)).trans ku_1, (hb.cell (World.block_lt_of_cell? _ _ ku_2)).trans ku_2, (hb.cell (World.block_lt_of_cell? _ _ kv_0)).trans kv_0, (hb.cell (World.block_lt_of_cell? _ _ kv_1)).trans kv_1, (hb.cell (World.block_lt_of_cell? _ _ kv_2)).trans kv_2, (hb.cell (World.block_lt_of_cell? _ _ kl_0)).trans kl_0, (hb.cell (World.block_lt_of_cell? _ _ kl_1)).trans kl_1, (hb.cell (World.block_lt_of_cell? _ _ kl_2)).trans kl_2, (hb.cell (World.block_lt_of_cell? _ _ kr_0)).trans kr_0, (hb.cell (World.block_lt_of_cell? _ _ kr_1)).trans kr_1, (hb.cell (World.block_lt_of_cell? _ _ kr_2)).trans kr_2, (hb.cell (World.block_lt_of_cell? _ _ kd_0)).trans kd_0, (hb.cell (World.block_lt_of_cell? _ _ kd_1)).trans kd_1, (hb.cell (World.block_lt_of_cell? _ _ kd_2)).trans kd_2, (hb.cell (World.block_lt_of_cell? _ _ ko_0)).trans ko_0, (hb.cell (World.block_lt_of_cell? _ _ ko_1)).trans ko_1, (hb.cell (World.block_lt_of_cell? _ _ ko_2)).trans ko_2⟩ : wx.cell? ⟨w.heap.size, 0, none⟩ = some (.bool sa) ∧ wx.cell? ⟨w.heap.size, 1, none⟩ = some (.slice Aa na ca) ∧ wx.cell? ⟨w.heap.size, 2, none⟩ = some (.slice Ba ma ea) ∧ wx.cell? ⟨w.heap.size + 1, 0, none⟩ = some (.bool sb) ∧ wx.cell? ⟨w.heap.size + 1, 1, none⟩ = some (.slice Ab nb cb) ∧ wx.cell? ⟨w.heap.size + 1, 2, none⟩ = some (.slice Bb mb eb) ∧ wx.cell? ⟨w.heap.size + 1 + 1, 0, none⟩ = some (.bool sc) ∧ wx.cell? ⟨w.heap.size + 1 + 1, 1, none⟩ = some (.slice Ac nc cc) ∧ wx.cell? ⟨w.heap.size + 1 + 1, 2, none⟩ = some (.slice Bc mc ec) ∧ wx.cell? ⟨gx, 0, none⟩ = some (.bool s_x) ∧ wx.cell? ⟨gx, 1, none⟩ = some (.slice A_x m_x c_x) ∧ wx.cell? ⟨gx, 2, none⟩ = some (.slice B_x n_x d_x) ∧ wx.cell? ⟨gy, 0, none⟩ = some (.bool s_y) ∧ wx.cell? ⟨gy, 1, none⟩ = some (.slice A_y m_y c_y) ∧ wx.cell? ⟨gy, 2, none⟩ = some (.slice B_y n_y d_y) ∧ wx.cell? ⟨gu, 0, none⟩ = some (.bool s_u) ∧ wx.cell? ⟨gu, 1, none⟩ = some (.slice A_u m_u c_u) ∧ wx.cell? ⟨gu, 2, none⟩ = some (.slice B_u n_u d_u) ∧ wx.cell? ⟨gv, 0, none⟩ = some (.bool s_v) ∧ wx.cell? ⟨gv, 1, none⟩ = some (.slice A_v m_v c_v) ∧ wx.cell? ⟨gv, 2, none⟩ = some (.slice B_v n_v d_v) ∧ wx.cell? ⟨gl, 0, none⟩ = some (.bool s_l) ∧ wx.cell? ⟨gl, 1, none⟩ = some (.slice A_l m_l c_l) ∧ wx.cell? ⟨gl, 2, none⟩ = some (.slice B_l n_l d_l) ∧ wx.cell? ⟨gr, 0, none⟩ = some (.bool s_r) ∧ wx.cell? ⟨gr, 1, none⟩ = some (.slice A_r m_r c_r) ∧ wx.cell? ⟨gr, 2, none⟩ = some (.slice B_r n_r d_r) ∧ wx.cell? ⟨gd, 0, none⟩ = some (.bool s_d) ∧ wx.cell? ⟨gd, 1, none⟩ = some (.slice A_d m_d c_d) ∧ wx.cell? ⟨gd, 2, none⟩ = some (.slice B_d n_d d_d) ∧ wx.cell? ⟨go, 0, none⟩ = some (.bool s50) ∧ wx.cell? ⟨go, 1, none⟩ = some (.slice A50 m50 c50) ∧ wx.cell? ⟨go, 2, none⟩ = some (.slice B50 n50 d50)))
                  clear ka_0 ka_1 ka_2 kb_0 kb_1 kb_2 kc_0 kc_1 kc_2 kx_0 kx_1 kx_2 ky_0 ky_1 ky_2 ku_0 ku_1 ku_2 kv_0 kv_1 kv_2 kl_0 kl_1 kl_2 kr_0 kr_1 kr_2 kd_0 kd_1 kd_2 ko_0 ko_1 ko_2
                  have hB := bel_drewN (Below.refl uo.heap.size uo) 1
                  have ha := ha.below hB
                  have hb := hb.below hB
                  have hc := hc.below hB
                  have qx := qx.below hB
                  have qy := qy.below hB
                  have qu := qu.below hB
                  have qv := qv.below hB
                  have ql := ql.below hB
                  have qr := qr.below hB
                  have q38 := q38.below hB
                  have q39 := q39.below hB
                  have q40 := q40.below hB
                  have q42 := q42.below hB
                  have qd := qd.below hB
                  have q50 := q50.below hB
                  refine wp_region_held_drew (S := (fun wx => wx.cell? ⟨w.heap.size, 0, none⟩ = some (.bool sa) ∧ wx.cell? ⟨w.heap.size, 1, none⟩ = some (.slice Aa na ca) ∧ wx.cell? ⟨w.heap.size, 2, none⟩ = some (.slice Ba ma ea) ∧ wx.cell? ⟨w.heap.size + 1, 0, none⟩ = some (.bool sb) ∧ wx.cell? ⟨w.heap.size + 1, 1, none⟩ = some (.slice Ab nb cb) ∧ wx.cell? ⟨w.heap.size + 1, 2, none⟩ = some (.slice Bb mb eb) ∧ wx.cell? ⟨w.heap.size + 1 + 1, 0, none⟩ = some (.bool sc) ∧ wx.cell? ⟨w.heap.size + 1 + 1, 1, none⟩ = some (.slice Ac nc cc) ∧ wx.cell? ⟨w.heap.size + 1 + 1, 2, none⟩ = some (.slice Bc mc ec) ∧ wx.cell? ⟨gx, 0, none⟩ = some (.bool s_x) ∧ wx.cell? ⟨gx, 1, none⟩ = some (.slice A_x m_x c_x) ∧ wx.cell? ⟨gx, 2, none⟩ = some (.slice B_x n_x d_x) ∧ wx.cell? ⟨gy, 0, none⟩ = some (.bool s_y) ∧ wx.cell? ⟨gy, 1, none⟩ = some (.slice A_y m_y c_y) ∧ wx.cell? ⟨gy, 2, none⟩ = some (.slice B_y n_y d_y) ∧ wx.cell? ⟨gu, 0, none⟩ = some (.bool s_u) ∧ wx.cell? ⟨gu, 1, none⟩ = some (.slice A_u m_u c_u) ∧ wx.cell? ⟨gu, 2, none⟩ = some (.slice B_u n_u d_u) ∧ wx.cell? ⟨gv, 0, none⟩ = some (.bool s_v) ∧ wx.cell? ⟨gv, 1, none⟩ = some (.slice A_v m_v c_v) ∧ wx.cell? ⟨gv, 2, none⟩ = some (.slice B_v n_v d_v) ∧ wx.cell? ⟨gl, 0, none⟩ = some (.bool s_l) ∧ wx.cell? ⟨gl, 1, none⟩ = some (.slice A_l m_l c_l) ∧ wx.cell? ⟨gl, 2, none⟩ = some (.slice B_l n_l d_l) ∧ wx.cell? ⟨gr, 0, none⟩ = some (.bool s_r) ∧ wx.cell? ⟨gr, 1, none⟩ = some (.slice A_r m_r c_r) ∧ wx.cell? ⟨gr, 2, none⟩ = some (.slice B_r n_r d_r) ∧ wx.cell? ⟨gd, 0, none⟩ = some (.bool s_d) ∧ wx.cell? ⟨gd, 1, none⟩ = some (.slice A_d m_d c_d) ∧ wx.cell? ⟨gd, 2, none⟩ = some (.slice B_d n_d d_d) ∧ wx.cell? ⟨go, 0, none⟩ = some (.bool s50) ∧ wx.cell? ⟨go, 1, none⟩ = some (.slice A50 m50 c50) ∧ wx.cell? ⟨go, 2, none⟩ = some (.slice B50 n50 d50))) (by kernel_rfl) (hKeep.out _ hB) (fun hHeld => ?_)
                  refine wpAnyH_take (i := 0) (v := .int .i64 0) rfl (by kernel_rfl) (by kernel_rfl) (by kernel_rfl) (fun _ _ _ h => h) (Or.inl ⟨by kernel_rfl, by (intro w hSw; (try dsimp only at hSw); go_simp)⟩) hHeld ?_
                  try simp only [Act.put, List.getElem_toArray, List.getElem_cons_succ, List.getElem_cons_zero, List.setIfInBounds_toArray, List.set_cons_zero, List.set_cons_succ]
                  refine wpAnyH_take (i := 1) (v := .bool true) rfl (by kernel_rfl) (by kernel_rfl) (by kernel_rfl) (fun _ _ _ h => h) (Or.inl ⟨by kernel_rfl, by (intro w hSw; (try dsimp only at hSw); go_simp)⟩) hHeld ?_
                  try simp only [Act.put, List.getElem_toArray, List.getElem_cons_succ, List.getElem_cons_zero, List.setIfInBounds_toArray, List.set_cons_zero, List.set_cons_succ]
                  refine wpAnyH_take (i := 2) (v := .bool true) rfl (by kernel_rfl) (by kernel_rfl) (by kernel_rfl) (fun _ _ _ h => h) (Or.inl ⟨by kernel_rfl, by (intro w hSw; (try dsimp only at hSw); go_simp)⟩) hHeld ?_
                  try simp only [Act.put, List.getElem_toArray, List.getElem_cons_succ, List.getElem_cons_zero, List.setIfInBounds_toArray, List.set_cons_zero, List.set_cons_succ]
                  refine wpAnyH_take (i := 3) (v := .int .i64 0) rfl (by kernel_rfl) (by kernel_rfl) (by kernel_rfl) (fun _ _ _ h => h) (Or.inl ⟨by kernel_rfl, by (intro w hSw; (try dsimp only at hSw); go_simp)⟩) hHeld ?_
                  try simp only [Act.put, List.getElem_toArray, List.getElem_cons_succ, List.getElem_cons_zero, List.setIfInBounds_toArray, List.set_cons_zero, List.set_cons_succ]
                  refine wpAnyH_take (i := 4) (v := .bool true) rfl (by kernel_rfl) (by kernel_rfl) (by kernel_rfl) (fun _ _ _ h => h) (Or.inl ⟨by kernel_rfl, by (intro w hSw; (try dsimp only at hSw); go_simp)⟩) hHeld ?_
                  try simp only [Act.put, List.getElem_toArray, List.getElem_cons_succ, List.getElem_cons_zero, List.setIfInBounds_toArray, List.set_cons_zero, List.set_cons_succ]
                  refine wpAnyH_take (i := 5) (v := .bool true) rfl (by kernel_rfl) (by kernel_rfl) (by kernel_rfl) (fun _ _ _ h => h) (Or.inl ⟨by kernel_rfl, by (intro w hSw; (try dsimp only at hSw); go_simp)⟩) hHeld ?_
                  try simp only [Act.put, List.getElem_toArray, List.getElem_cons_succ, List.getElem_cons_zero, List.setIfInBounds_toArray, List.set_cons_zero, List.set_cons_succ]
                  refine wpAnyH_take (i := 6) (v := .bool true) rfl (by kernel_rfl) (by kernel_rfl) (by kernel_rfl) (fun _ _ _ h => h) (Or.inl ⟨by kernel_rfl, by (intro w hSw; (try dsimp only at hSw); go_simp)⟩) hHeld ?_
                  try simp only [Act.put, List.getElem_toArray, List.getElem_cons_succ, List.getElem_cons_zero, List.setIfInBounds_toArray, List.set_cons_zero, List.set_cons_succ]
                  refine wpAnyH_take (i := 7) (v := .agg #[.bool s_d, .slice A_d m_d c_d, .slice B_d n_d d_d]) rfl (by kernel_rfl) (by kernel_rfl) (by kernel_rfl) (fun _ _ _ h => h) (Or.inl ⟨by kernel_rfl, by (intro w hSw; (try dsimp only at hSw); go_simp)⟩) hHeld ?_
                  try simp only [Act.put, List.getElem_toArray, List.getElem_cons_succ, List.getElem_cons_zero, List.setIfInBounds_toArray, List.set_cons_zero, List.set_cons_succ]
                  refine wpAnyH_take (i := 8) (v := .agg #[.bool sa, .slice Aa na ca, .slice Ba ma ea]) rfl (by kernel_rfl) (by kernel_rfl) (by kernel_rfl) (fun _ _ _ h => h) (Or.inl ⟨by kernel_rfl, by (intro w hSw; (try dsimp only at hSw); go_simp)⟩) hHeld ?_
                  try simp only [Act.put, List.getElem_toArray, List.getElem_cons_succ, List.getElem_cons_zero, List.setIfInBounds_toArray, List.set_cons_zero, List.set_cons_succ]
                  refine wpAnyH_ready (rs := [9]) (by kernel_rfl) (by simp) ?_
                  refine AllReadyH.cons rfl (fun K hK => ?_) AllReadyH.nil
                  go_simp
                  refine (canonQ _ _ 6 _ ha (by decide)).mono ?_
                  rintro e v51 ⟨_, rfl, q51, hc51⟩
                  have q51 := q51.le (show _ ≤ 26 by decide)
                  obtain ⟨s51, A51, m51, c51, B51, n51, d51, rfl⟩ := q51.form
                  have hB := hB.trans (hc51.mono hB.size)
                  have ha := ha.below hc51
                  have hb := hb.below hc51
                  have hc := hc.below hc51
                  have qx := qx.below hc51
                  have qy := qy.below hc51
                  have qu := qu.below hc51
                  have qv := qv.below hc51
                  have ql := ql.below hc51
                  have qr := qr.below hc51
                  have q38 := q38.below hc51
                  have q39 := q39.below hc51
                  have q40 := q40.below hc51
                  have q42 := q42.below hc51
                  have qd := qd.below hc51
                  have q50 := q50.below hc51
                  go_wp2_with fail
                  refine hK.out _ _ ?_ (fun hHeld => ?_)
                  · exact hKeep.out _ hB
                  clear hK K
                  try simp only [Act.put, List.getElem_toArray, List.getElem_cons_succ, List.getElem_cons_zero, List.setIfInBounds_toArray, List.set_cons_zero, List.set_cons_succ]
                  refine wpAnyH_ready (rs := [10]) (by kernel_rfl) (by simp) ?_
                  refine AllReadyH.cons rfl (fun K hK => ?_) AllReadyH.nil
                  go_simp
                  refine (sameT _ _ _ _ _ _ _ qd q51 (by rw [Rat.mul_assoc, hinv.out, Rat.mul_one])).mono ?_
                  rintro e v52 ⟨rfl, hc52⟩
                  have hB := hB.trans (hc52.mono hB.size)
                  have ha := ha.below hc52
                  have hb := hb.below hc52
                  have hc := hc.below hc52
                  have qx := qx.below hc52
                  have qy := qy.below hc52
                  have qu := qu.below hc52
                  have qv := qv.below hc52
                  have ql := ql.below hc52
                  have qr := qr.below hc52
                  have q38 := q38.below hc52
                  have q39 := q39.below hc52
                  have q40 := q40.below hc52
                  have q42 := q42.below hc52
                  have qd := qd.below hc52
                  have q50 := q50.below hc52
                  have q51 := q51.below hc52
                  go_wp2_with fail
                  refine hK.out _ _ ?_ (fun hHeld => ?_)
                  · exact hKeep.out _ hB
                  clear hK K
                  try simp only [Act.put, List.getElem_toArray, List.getElem_cons_succ, List.getElem_cons_zero, List.setIfInBounds_toArray, List.set_cons_zero, List.set_cons_succ]
                  refine wpAnyH_take (i := 11) (v := .bool true) rfl (by kernel_rfl) (by kernel_rfl) (by kernel_rfl) (fun _ _ _ h => h) (Or.inl ⟨by kernel_rfl, by (intro w hSw; (try dsimp only at hSw); go_simp)⟩) hHeld ?_
                  try simp only [Act.put, List.getElem_toArray, List.getElem_cons_succ, List.getElem_cons_zero, List.setIfInBounds_toArray, List.set_cons_zero, List.set_cons_succ]
                  refine wpAnyH_take (i := 12) (v := .bool true) rfl (by kernel_rfl) (by kernel_rfl) (by kernel_rfl) (fun _ _ _ h => h) (Or.inl ⟨by kernel_rfl, by (intro w hSw; (try dsimp only at hSw); go_simp)⟩) hHeld ?_
                  try simp only [Act.put, List.getElem_toArray, List.getElem_cons_succ, List.getElem_cons_zero, List.setIfInBounds_toArray, List.set_cons_zero, List.set_cons_succ]
                  refine wpAnyH_take (i := 13) (v := .agg #[.bool s50, .slice A50 m50 c50, .slice B50 n50 d50]) rfl (by kernel_rfl) (by kernel_rfl) (by kernel_rfl) (fun _ _ _ h => h) (Or.inl ⟨by kernel_rfl, by (intro w hSw; (try dsimp only at hSw); go_simp)⟩) hHeld ?_
                  try simp only [Act.put, List.getElem_toArray, List.getElem_cons_succ, List.getElem_cons_zero, List.setIfInBounds_toArray, List.set_cons_zero, List.set_cons_succ]
                  refine wpAnyH_ready (rs := [14]) (by kernel_rfl) (by simp) ?_
                  refine AllReadyH.cons rfl (fun K hK => ?_) AllReadyH.nil
                  go_simp
                  refine (ofQ _ _ (by decide)).mono ?_
                  rintro e v53 ⟨_, rfl, q53, hc53⟩
                  have q53 := q53.le (show _ ≤ 2 by decide)
                  obtain ⟨s53, A53, m53, c53, B53, n53, d53, rfl⟩ := q53.form
                  have hB := hB.trans (hc53.mono hB.size)
                  have ha := ha.below hc53
                  have hb := hb.below hc53
                  have hc := hc.below hc53
                  have qx := qx.below hc53
                  have qy := qy.below hc53
                  have qu := qu.below hc53
                  have qv := qv.below hc53
                  have ql := ql.below hc53
                  have qr := qr.below hc53
                  have q38 := q38.below hc53
                  have q39 := q39.below hc53
                  have q40 := q40.below hc53
                  have q42 := q42.below hc53
                  have qd := qd.below hc53
                  have q50 := q50.below hc53
                  have q51 := q51.below hc53
                  go_wp2_with fail
                  refine hK.out _ _ ?_ (fun hHeld => ?_)
                  · exact hKeep.out _ hB
                  clear hK K
                  try simp only [Act.put, List.getElem_toArray, List.getElem_cons_succ, List.getElem_cons_zero, List.setIfInBounds_toArray, List.set_cons_zero, List.set_cons_succ]
                  refine wpAnyH_ready (rs := [15]) (by kernel_rfl) (by simp) ?_
                  refine AllReadyH.cons rfl (fun K hK => ?_) AllReadyH.nil
                  go_simp
                  refine (sameT _ _ _ _ _ _ _ q50 q53 (by rw [hinv.out]; rfl)).mono ?_
                  rintro e v54 ⟨rfl, hc54⟩
                  have hB := hB.trans (hc54.mono hB.size)
                  have ha := ha.below hc54
                  have hb := hb.below hc54
                  have hc := hc.below hc54
                  have qx := qx.below hc54
                  have qy := qy.below hc54
                  have qu := qu.below hc54
                  have qv := qv.below hc54
                  have ql := ql.below hc54
                  have qr := qr.below hc54
                  have q38 := q38.below hc54
                  have q39 := q39.below hc54
                  have q40 := q40.below hc54
                  have q42 := q42.below hc54
                  have qd := qd.below hc54
                  have q50 := q50.below hc54
                  have q51 := q51.below hc54
                  have q53 := q53.below hc54
                  go_wp2_with fail
                  refine hK.out _ _ ?_ (fun hHeld => ?_)
                  · exact hKeep.out _ hB
                  clear hK K
                  try simp only [Act.put, List.getElem_toArray, List.getElem_cons_succ, List.getElem_cons_zero, List.setIfInBounds_toArray, List.set_cons_zero, List.set_cons_succ]
                  refine wpAnyH_take (i := 16) (v := .bool true) rfl (by kernel_rfl) (by kernel_rfl) (by kernel_rfl) (fun _ _ _ h => h) (Or.inl ⟨by kernel_rfl, by (intro w hSw; (try dsimp only at hSw); go_simp)⟩) hHeld ?_
                  try simp only [Act.put, List.getElem_toArray, List.getElem_cons_succ, List.getElem_cons_zero, List.setIfInBounds_toArray, List.set_cons_zero, List.set_cons_succ]
                  refine wpAnyH_take (i := 17) (v := .bool true) rfl (by kernel_rfl) (by kernel_rfl) (by kernel_rfl) (fun _ _ _ h => h) (Or.inl ⟨by kernel_rfl, by (intro w hSw; (try dsimp only at hSw); go_simp)⟩) hHeld ?_
                  try simp only [Act.put, List.getElem_toArray, List.getElem_cons_succ, List.getElem_cons_zero, List.setIfInBounds_toArray, List.set_cons_zero, List.set_cons_succ]
                  refine wpAnyH_ready (rs := [18]) (by kernel_rfl) (by simp) ?_
                  refine AllReadyH.cons rfl (fun K hK => ?_) AllReadyH.nil
                  go_simp
                  refine (known_true _ (hG.out.below (hw.trans (hB.mono hw.size)))).mono ?_
                  rintro e v55 ⟨rfl, hc55⟩
                  have hB := hB.trans (hc55.mono hB.size)
                  have ha := ha.below hc55
                  have hb := hb.below hc55
                  have hc := hc.below hc55
                  have qx := qx.below hc55
                  have qy := qy.below hc55
                  have qu := qu.below hc55
                  have qv := qv.below hc55
                  have ql := ql.below hc55
                  have qr := qr.below hc55
                  have q38 := q38.below hc55
                  have q39 := q39.below hc55
                  have q40 := q40.below hc55
                  have q42 := q42.below hc55
                  have qd := qd.below hc55
                  have q50 := q50.below hc55
                  have q51 := q51.below hc55
                  have q53 := q53.below hc55
                  go_wp2_with fail
                  refine hK.out _ _ ?_ (fun hHeld => ?_)
                  · exact hKeep.out _ hB
                  clear hK K
                  try simp only [Act.put, List.getElem_toArray, List.getElem_cons_succ, List.getElem_cons_zero, List.setIfInBounds_toArray, List.set_cons_zero, List.set_cons_succ]
                  refine wpAnyH_take (i := 19) (v := .bool true) rfl (by kernel_rfl) (by kernel_rfl) (by kernel_rfl) (fun _ _ _ h => h) (Or.inl ⟨by kernel_rfl, by (intro w hSw; (try dsimp only at hSw); go_simp)⟩) hHeld ?_
                  try simp only [Act.put, List.getElem_toArray, List.getElem_cons_succ, List.getElem_cons_zero, List.setIfInBounds_toArray, List.set_cons_zero, List.set_cons_succ]
                  refine wpAnyH_take (i := 20) (v := .bool true) rfl (by kernel_rfl) (by kernel_rfl) (by kernel_rfl) (fun _ _ _ h => h) (Or.inl ⟨by kernel_rfl, by (intro w hSw; (try dsimp only at hSw); go_simp)⟩) hHeld ?_
                  try simp only [Act.put, List.getElem_toArray, List.getElem_cons_succ, List.getElem_cons_zero, List.setIfInBounds_toArray, List.set_cons_zero, List.set_cons_succ]
                  refine wpAnyH_done (by kernel_rfl) ?_ _
                  have hw := hw.trans (hB.mono hw.size)
                  have Xa := Xa.below hB
                  have Xb := Xb.below hB
                  have Xc := Xc.below hB
                  have Xx := Xx.below hB
                  have Xy := Xy.below hB
                  have Xu := Xu.below hB
                  have Xv := Xv.below hB
                  have Xl := Xl.below hB
                  have Xr := Xr.below hB
                  have Xd := Xd.below hB
                  have Xo := Xo.below hB
                  go_wp2
                  go_ret
                  exact ⟨rfl, hw⟩
end Go.Proofs.YtanaljnclajkdaaGreatDoor.Fr
