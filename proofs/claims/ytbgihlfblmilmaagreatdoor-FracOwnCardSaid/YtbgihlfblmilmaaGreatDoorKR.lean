/- FracOwn: results share no memory. -/
import Derived.Test.YtbgihlfblmilmaaGreatDoorMA
import Derived.Test.YtbgihlfblmilmaaGreatDoorJK
import Derived.Deep.RegionHeld3
namespace Go.Proofs.YtbgihlfblmilmaaGreatDoor.Fr
open Go.RowKit Num

set_option maxHeartbeats 6400000 in
theorem bs8 (a0 b0 d0 a1 b1 d1 a2 b2 d2 a3 b3 d3 a4 b4 d4 a5 b5 d5 a6 b6 d6 a7 b7 d7 : Value) (W : World) : (Instr.buildSlice 49 8 #[(0, .agg #[a0, b0, d0]), (1, .agg #[a1, b1, d1]), (2, .agg #[a2, b2, d2]), (3, .agg #[a3, b3, d3]), (4, .agg #[a4, b4, d4]), (5, .agg #[a5, b5, d5]), (6, .agg #[a6, b6, d6]), (7, .agg #[a7, b7, d7])]).run Tryz.prog W = .ok (.slice (some ⟨W.heap.size, 0, none⟩) 8 8) (W.alloc (.cells #[a0, b0, d0, a1, b1, d1, a2, b2, d2, a3, b3, d3, a4, b4, d4, a5, b5, d5, a6, b6, d6, a7, b7, d7] 24)) := by
  kernel_rfl
theorem step_build {P : Program} {w w' : World} {o : Oper} {a : Act} {Q : Exit → Act → World → Prop} {ops : Array Oper} {K : Act → World → Prop} {E : Prop} {t : TypeId} {n : Nat} {ps : Array (Nat × Operand)} {vs : Array (Nat × Value)} {v : Value} (hw : Region.wanted o (yielded ops a.tmps) = true)
    (ho : o.op = .buildSlice t n ps) (hv : (ps.map fun (i, x) => (i, a.eval x)) = vs) (hr : (Instr.buildSlice t n vs).run P w = .ok v w') (h : K (a.put o.dst v) w') : if Region.wanted o (yielded ops a.tmps) = true then Oper.wp P o a w K Q else E := by
  rw [if_pos hw]
  unfold Oper.wp execOp
  simp only [ho, hv, Sem.run_bind, Sem.run_pure, Result.andThen_ok, hr]
  exact h
theorem share_state {P : Program} {md : Region.Mode} {ops : Array Oper} {Q : Exit → Act → World → Prop} {S : World → Prop} {fuel fuel' : Nat} {listed listed' : Array Bool} {a : Act} {w : World} (F : Act → Act → World → Prop)
    (key : ∀ a' w', F a a' w' → wpAnyH P md ops Q S fuel' listed' a' w') (main : (∀ a' w', F a a' w' → wpAnyH P md ops Q S fuel' listed' a' w') → wpAnyH P md ops Q S fuel listed a w) : wpAnyH P md ops Q S fuel listed a w := main key
def OwF (N : Nat) (w : World) (v : Value) : Prop := ∃ s A n c B m d, v = .agg #[.bool s, .slice A n c, .slice B m d] ∧ OwA N w A n ∧ OwA N w B m ∧ n ≤ 1000 ∧ m ≤ 1000
theorem OwF.below {N : Nat} {w w' : World} {v : Value} (h : OwF N w v) (hb : Below w.heap.size w w') : OwF N w' v := by
  obtain ⟨s, A, n, c, B, m, d, e, h1, h2, h3⟩ := h
  exact ⟨s, A, n, c, B, m, d, e, h1.below hb, h2.below hb, h3⟩
theorem FO.owf {N : Nat} {w : World} {v : Value} {q : Rat} {L : Nat} (h : FO N w v q L) (hL : L ≤ 1000) : OwF N w v := by
  obtain ⟨⟨_, _, he, ⟨A1, n1, c1, x1, rfl, _, _, _, l1⟩, ⟨A2, n2, c2, x2, rfl, _, _, _, l2⟩⟩, ho⟩ := h
  subst he
  exact ⟨_, A1, n1, c1, A2, n2, c2, rfl, ho.get.1, ho.get.2, by omega, by omega⟩
theorem R8.bel' {N : Nat} {wN w : World} {g : Nat} {cs : Array Value} (h : R8 N wN w g cs) (hN : wN.heap.size = N) : Below wN.heap.size wN w := by rw [hN]; exact h.bel
theorem Ls.lit1 {w : World} {g L : Nat} {t : TypeId} {a b d : Value} {q : Rat} (hB : Blk w g t #[a, b, d]) (h1 : AF w (.agg #[a, b, d]) q L) : Ls AF w (some ⟨g, 0, none⟩) 1 1 L [q] :=
  ⟨rfl, Nat.le_refl _, by decide, fun _ => ⟨_, rfl, fun j x hx => by
    match j, hx with
    | 0, hx => injection hx with hx; subst hx; exact ⟨a, b, d, hB.cell 0, hB.cell 1, hB.cell 2, h1⟩
    | j + 1, hx => simp at hx⟩⟩
set_option linter.unusedSimpArgs false in
set_option maxHeartbeats 25600000 in
set_option maxRecDepth 100000 in
theorem own_law (sa : Bool) (Aa : Option Addr) (na ca : Nat) (Ba : Option Addr) (ma ea : Nat) (xa ya : List Nat) (sb : Bool) (Ab : Option Addr) (nb cb : Nat) (Bb : Option Addr) (mb eb : Nat) (xb yb : List Nat) (w : World) (hxa : Dg .u32 w Aa na ca xa) (hya : Dg .u32 w Ba ma ea ya) (hxb : Dg .u32 w Ab nb cb xb) (hyb : Dg .u32 w Bb mb eb yb) (hca : Aa = none → ca = 0) (hea : Ba = none → ea = 0) (hcb : Ab = none → cb = 0) (heb : Bb = none → eb = 0) (hG : Gl w) :
    Calls Tryz.prog 19 #[.agg #[.bool sa, .slice Aa na ca, .slice Ba ma ea], .agg #[.bool sb, .slice Ab nb cb, .slice Bb mb eb]] w fun e w' => e = .returned (.bool true) ∧ Below w.heap.size w w' := by
  have hG := Lib.hid hG
  have Xa := Blk.new w 24 #[.bool sa, .slice Aa na ca, .slice Ba ma ea]
  have Xb := Blk.new (w.alloc (.cells #[.bool sa, .slice Aa na ca, .slice Ba ma ea] 24)) 24 #[.bool sb, .slice Ab nb cb, .slice Bb mb eb]
  have Xa := Xa.alloc (.cells #[.bool sb, .slice Ab nb cb, .slice Bb mb eb] 24)
  have z1 : (w.alloc (.cells #[.bool sa, .slice Aa na ca, .slice Ba ma ea] 24)).heap.size = w.heap.size + 1 := by simp
  rw [z1] at Xb
  have hw := (((Below.refl w.heap.size w).alloc (Nat.le_refl _) (.cells #[.bool sa, .slice Aa na ca, .slice Ba ma ea] 24)).alloc (by rw [z1]; omega) (.cells #[.bool sb, .slice Ab nb cb, .slice Bb mb eb] 24))
  have hxa := hxa.below hw
  have hya := hya.below hw
  have hxb := hxb.below hw
  have hyb := hyb.below hw
  clear z1
  go_enter Tryz.func19, Tryz.ntmps19
  go_upto_region 1 with fail
  generalize ((w.alloc (.cells #[.bool sa, .slice Aa na ca, .slice Ba ma ea] 24)).alloc (.cells #[.bool sb, .slice Ab nb cb, .slice Bb mb eb] 24)) = w1 at *
  have ka0 : w1.cell? ⟨w.heap.size, 0, none⟩ = some (.bool sa) := Xa.cell 0
  have ka1 : w1.cell? ⟨w.heap.size, 1, none⟩ = some (.slice Aa na ca) := Xa.cell 1
  have ka2 : w1.cell? ⟨w.heap.size, 2, none⟩ = some (.slice Ba ma ea) := Xa.cell 2
  have kb0 : w1.cell? ⟨w.heap.size + 1, 0, none⟩ = some (.bool sb) := Xb.cell 0
  have kb1 : w1.cell? ⟨w.heap.size + 1, 1, none⟩ = some (.slice Ab nb cb) := Xb.cell 1
  have kb2 : w1.cell? ⟨w.heap.size + 1, 2, none⟩ = some (.slice Bb mb eb) := Xb.cell 2
  have hal := (Below.refl w1.heap.size w1).alloc (Nat.le_refl _) (.cells #[.bool sa, .slice Aa na ca, .slice Ba ma ea, .bool sb, .slice Ab nb cb, .slice Bb mb eb] 24)
  have hS := Sm.lit2 (Blk.new w1 24 #[.bool sa, .slice Aa na ca, .slice Ba ma ea, .bool sb, .slice Ab nb cb, .slice Bb mb eb])
  have hw := hw.alloc hw.size (.cells #[.bool sa, .slice Aa na ca, .slice Ba ma ea, .bool sb, .slice Ab nb cb, .slice Bb mb eb] 24)
  have Xa := Xa.below hal
  have hxa := hxa.below hal
  have hya := hya.below hal
  have Xb := Xb.below hal
  have hxb := hxb.below hal
  have hyb := hyb.below hal
  clear hal
  go_wp2_with fail
  generalize w1.heap.size = gl at *
  generalize w1.alloc (.cells #[.bool sa, .slice Aa na ca, .slice Ba ma ea, .bool sb, .slice Ab nb cb, .slice Bb mb eb] 24) = w2 at *
  clear ka0
  clear ka1
  clear ka2
  clear kb0
  clear kb1
  clear kb2
  refine (smallL_any _ _ _ _ _ hS).mono ?_
  rintro e v0 ⟨b, rfl, hiff, rfl⟩
  cases b with
  | false =>
    clear hiff
    go_wp2_with fail
    refine (known_true _ (hG.out.below hw)).mono ?_
    rintro e v1 ⟨rfl, hc1⟩
    go_wp2
    go_ret
    exact ⟨rfl, hw.trans (hc1.mono hw.size)⟩
  | true =>
    obtain ⟨⟨h1a, h2a⟩, ⟨h1b, h2b⟩⟩ := small2_of (hiff.1 rfl)
    obtain ⟨qa, ha⟩ : ∃ q, AF w2 (.agg #[.bool sa, .slice Aa na ca, .slice Ba ma ea]) q 12 := ⟨_, AF.of hxa hya h1a h2a⟩
    obtain ⟨qb, hb⟩ : ∃ q, AF w2 (.agg #[.bool sb, .slice Ab nb cb, .slice Bb mb eb]) q 12 := ⟨_, AF.of hxb hyb h1b h2b⟩
    clear hiff hS 
    have hB := Below.refl w2.heap.size w2
    clear ha hb
    have l1a := h1a
    have l2a := h2a
    have l1b := h1b
    have l2b := h2b
    clear h1a h2a h1b h2b
    obtain ⟨i0, hi, hz0, hz1, hz2⟩ := info_parts info_u32
    go_upto_region 3 with fail
    clear hB
    have k0 : w2.cell? ⟨w.heap.size, 0, none⟩ = some (.bool sa) := Xa.cell 0
    have k1 : w2.cell? ⟨w.heap.size, 1, none⟩ = some (.slice Aa na ca) := Xa.cell 1
    have k2 : w2.cell? ⟨w.heap.size, 2, none⟩ = some (.slice Ba ma ea) := Xa.cell 2
    have hKeep := Lib.hid (fun (wx : World) (hb : Below w2.heap.size w2 wx) => (⟨(hb.cell (World.block_lt_of_cell? _ _ k0)).trans k0, (hb.cell (World.block_lt_of_cell? _ _ k1)).trans k1, (hb.cell (World.block_lt_of_cell? _ _ k2)).trans k2⟩ : wx.cell? ⟨w.heap.size, 0, none⟩ = some (.bool sa) ∧ wx.cell? ⟨w.heap.size, 1, none⟩ = some (.slice Aa na ca) ∧ wx.cell? ⟨w.heap.size, 2, none⟩ = some (.slice Ba ma ea)))
    clear k0 k1 k2
    go_cut [5] (fun v wx => ∃ g A1 c1 A2 c2, v = .pointer (some ⟨g, 0, none⟩) ∧ Blk wx g 24 #[.bool sa, .slice A1 na c1, .slice A2 ma c2] ∧ Dg .u32 wx A1 na c1 xa ∧ Dg .u32 wx A2 ma c2 ya ∧ Below w2.heap.size w2 wx)
    case first =>
      as_aux_lemma =>
        have hB := bel_drewN (Below.refl w2.heap.size w2) 1
        have hs1 := hxa.below hB
        have hs2 := hya.below hB
        refine wp_region_held_drew (S := (fun wx => wx.cell? ⟨w.heap.size, 0, none⟩ = some (.bool sa) ∧ wx.cell? ⟨w.heap.size, 1, none⟩ = some (.slice Aa na ca) ∧ wx.cell? ⟨w.heap.size, 2, none⟩ = some (.slice Ba ma ea))) (by kernel_rfl) (hKeep.out _ hB) (fun hHeld => ?_)
        refine wpAnyH_take (i := 0) (v := .pointer (some ⟨w.heap.size, 0, none⟩)) rfl (by kernel_rfl) (by kernel_rfl) (by kernel_rfl) (fun _ _ _ h => h) (Or.inl ⟨by kernel_rfl, by (intro w hSw; (try dsimp only at hSw); go_simp)⟩) hHeld ?_
        try simp only [Act.put, List.getElem_toArray, List.getElem_cons_succ, List.getElem_cons_zero, List.setIfInBounds_toArray, List.set_cons_zero, List.set_cons_succ]
        refine wpAnyH_take (i := 1) (v := .bool sa) rfl (by kernel_rfl) (by kernel_rfl) (by kernel_rfl) (fun _ _ _ h => h) (Or.inl ⟨by kernel_rfl, by (intro w hSw; (try dsimp only at hSw); go_simp)⟩) hHeld ?_
        try simp only [Act.put, List.getElem_toArray, List.getElem_cons_succ, List.getElem_cons_zero, List.setIfInBounds_toArray, List.set_cons_zero, List.set_cons_succ]
        refine wpAnyH_take (i := 2) (v := .pointer (some ⟨w.heap.size, 1, none⟩)) rfl (by kernel_rfl) (by kernel_rfl) (by kernel_rfl) (fun _ _ _ h => h) (Or.inl ⟨by kernel_rfl, by (intro w hSw; (try dsimp only at hSw); go_simp)⟩) hHeld ?_
        try simp only [Act.put, List.getElem_toArray, List.getElem_cons_succ, List.getElem_cons_zero, List.setIfInBounds_toArray, List.set_cons_zero, List.set_cons_succ]
        refine wpAnyH_take (i := 3) (v := .slice Aa na ca) rfl (by kernel_rfl) (by kernel_rfl) (by kernel_rfl) (fun _ _ _ h => h) (Or.inl ⟨by kernel_rfl, by (intro w hSw; (try dsimp only at hSw); go_simp)⟩) hHeld ?_
        try simp only [Act.put, List.getElem_toArray, List.getElem_cons_succ, List.getElem_cons_zero, List.setIfInBounds_toArray, List.set_cons_zero, List.set_cons_succ]
        refine wpAnyH_take (i := 5) (v := .pointer (some ⟨w.heap.size, 2, none⟩)) rfl (by kernel_rfl) (by kernel_rfl) (by kernel_rfl) (fun _ _ _ h => h) (Or.inl ⟨by kernel_rfl, by (intro w hSw; (try dsimp only at hSw); go_simp)⟩) hHeld ?_
        try simp only [Act.put, List.getElem_toArray, List.getElem_cons_succ, List.getElem_cons_zero, List.setIfInBounds_toArray, List.set_cons_zero, List.set_cons_succ]
        refine wpAnyH_take (i := 6) (v := .slice Ba ma ea) rfl (by kernel_rfl) (by kernel_rfl) (by kernel_rfl) (fun _ _ _ h => h) (Or.inl ⟨by kernel_rfl, by (intro w hSw; (try dsimp only at hSw); go_simp)⟩) hHeld ?_
        try simp only [Act.put, List.getElem_toArray, List.getElem_cons_succ, List.getElem_cons_zero, List.setIfInBounds_toArray, List.set_cons_zero, List.set_cons_succ]
        refine wpAnyH_ready (rs := [4, 9]) (by kernel_rfl) (by simp) ?_
        refine AllReadyH.cons rfl (fun K hK => ?_) ?_
        · skip
          refine step_append_any rfl _ _ 22 rfl _ 63 i0 (.int .u32 0) 1 4 Tryz.underlying22 hi hz0 hz1 hz2 rfl (by decide) (.slice none 0 0) 0 [] rfl (World.ownsRow_nil _ _ _ _) Aa na ca (dcs .u32 xa) rfl (Src.of_dg hs1 hca) (by unfold maxLen; omega) (by omega) (Nat.le_refl _) (fun vv1 ww1 hown hgr _ => ?_)
          rw [Nat.zero_add, List.nil_append] at hown
          have hbg := bel_grown hgr
          obtain ⟨A1, c1, rfl, hD1⟩ := Dg.of_own hown hs1.ok
          clear hown hgr
          have hs1 := hs1.below hbg
          have hs2 := hs2.below hbg
          have hB := hB.trans (hbg.mono hB.size)
          refine hK.out _ _ ?_ (fun hHeld => ?_)
          · exact hKeep.out _ hB
          clear hK K
          try simp only [Act.put, List.getElem_toArray, List.getElem_cons_succ, List.getElem_cons_zero, List.setIfInBounds_toArray, List.set_cons_zero, List.set_cons_succ]
          refine wpAnyH_ready (rs := [7, 9]) (by kernel_rfl) (by simp) ?_
          refine AllReadyH.cons rfl (fun K hK => ?_) ?_
          · skip
            refine step_append_any rfl _ _ 22 rfl _ 63 i0 (.int .u32 0) 1 4 Tryz.underlying22 hi hz0 hz1 hz2 rfl (by decide) (.slice none 0 0) 0 [] rfl (World.ownsRow_nil _ _ _ _) Ba ma ea (dcs .u32 ya) rfl (Src.of_dg hs2 hea) (by unfold maxLen; omega) (by omega) (Nat.le_refl _) (fun vv2 ww2 hown hgr _ => ?_)
            rw [Nat.zero_add, List.nil_append] at hown
            have hbg := bel_grown hgr
            obtain ⟨A2, c2, rfl, hD2⟩ := Dg.of_own hown hs2.ok
            clear hown hgr
            have hs1 := hs1.below hbg
            have hs2 := hs2.below hbg
            have hD1 := hD1.below hbg
            have hB := hB.trans (hbg.mono hB.size)
            refine hK.out _ _ ?_ (fun hHeld => ?_)
            · exact hKeep.out _ hB
            clear hK K
            try simp only [Act.put, List.getElem_toArray, List.getElem_cons_succ, List.getElem_cons_zero, List.setIfInBounds_toArray, List.set_cons_zero, List.set_cons_succ]
            refine wpAnyH_take (i := 8) (v := .agg #[.bool sa, .slice A1 na c1, .slice A2 ma c2]) rfl (by kernel_rfl) (by kernel_rfl) (by kernel_rfl) (fun _ _ _ h => h) (Or.inl ⟨by kernel_rfl, by (intro w hSw; (try dsimp only at hSw); go_simp)⟩) hHeld ?_
            try simp only [Act.put, List.getElem_toArray, List.getElem_cons_succ, List.getElem_cons_zero, List.setIfInBounds_toArray, List.set_cons_zero, List.set_cons_succ]
            refine wpAnyH_ready (rs := [9]) (by kernel_rfl) (by simp) ?_
            refine AllReadyH.cons rfl (fun K hK => ?_) AllReadyH.nil
            go_simp
            refine hK.out _ _ ?_ (fun hHeld => ?_)
            · exact hKeep.out _ (hB.alloc hB.size _)
            clear hK K
            try simp only [Act.put, List.getElem_toArray, List.getElem_cons_succ, List.getElem_cons_zero, List.setIfInBounds_toArray, List.set_cons_zero, List.set_cons_succ]
            have hgz := Lib.hid (show w2.heap.size ≤ ww2.heap.size from hB.size)
            have Z : Blk ((ww2 : World).alloc (.cells #[.bool false, .slice none 0 0, .slice none 0 0] 24)) ww2.heap.size 24 #[.bool false, .slice none 0 0, .slice none 0 0] := Blk.new ww2 24 #[.bool false, .slice none 0 0, .slice none 0 0]
            refine wpAnyH_ready (rs := [10]) (by kernel_rfl) (by simp) ?_
            refine AllReadyH.cons rfl (fun K hK => ?_) AllReadyH.nil
            have r0 := Z.cell 0
            have r1 := Z.cell 1
            have r2 := Z.cell 2
            have f0 := Z.frozen 0
            have f1 := Z.frozen 1
            have f2 := Z.frozen 2
            go_simp
            refine hK.out _ _ ?_ (fun hHeld => ?_)
            · exact hKeep.out _ (hB.alloc hB.size _)
            clear hK K
            try simp only [Act.put, List.getElem_toArray, List.getElem_cons_succ, List.getElem_cons_zero, List.setIfInBounds_toArray, List.set_cons_zero, List.set_cons_succ]
            refine wpAnyH_done (by kernel_rfl) ?_ _
            go_wp2_with fail
            go_meet
            exact ⟨_, A1, c1, A2, c2, rfl, Blk.new _ _ _, hD1.below ((Below.refl _ _).alloc (Nat.le_refl _) _), hD2.below ((Below.refl _ _).alloc (Nat.le_refl _) _), hB.alloc hB.size _⟩
          refine AllReadyH.cons rfl (fun K hK => ?_) AllReadyH.nil
          go_simp
          refine hK.out _ _ ?_ (fun hHeld => ?_)
          · exact hKeep.out _ (hB.alloc hB.size _)
          clear hK K
          try simp only [Act.put, List.getElem_toArray, List.getElem_cons_succ, List.getElem_cons_zero, List.setIfInBounds_toArray, List.set_cons_zero, List.set_cons_succ]
          have hgz := Lib.hid (show w2.heap.size ≤ ww1.heap.size from hB.size)
          have Z : Blk ((ww1 : World).alloc (.cells #[.bool false, .slice none 0 0, .slice none 0 0] 24)) ww1.heap.size 24 #[.bool false, .slice none 0 0, .slice none 0 0] := Blk.new ww1 24 #[.bool false, .slice none 0 0, .slice none 0 0]
          have hal := (Below.refl (ww1 : World).heap.size ww1).alloc (Nat.le_refl _) (.cells #[.bool false, .slice none 0 0, .slice none 0 0] 24)
          have hB := hB.alloc hB.size (.cells #[.bool false, .slice none 0 0, .slice none 0 0] 24)
          have hs1 := hs1.below hal
          have hs2 := hs2.below hal
          have hD1 := hD1.below hal
          refine wpAnyH_ready (rs := [7]) (by kernel_rfl) (by simp) ?_
          refine AllReadyH.cons rfl (fun K hK => ?_) AllReadyH.nil
          refine step_append_any rfl _ _ 22 rfl _ 63 i0 (.int .u32 0) 1 4 Tryz.underlying22 hi hz0 hz1 hz2 rfl (by decide) (.slice none 0 0) 0 [] rfl (World.ownsRow_nil _ _ _ _) Ba ma ea (dcs .u32 ya) rfl (Src.of_dg hs2 hea) (by unfold maxLen; omega) (by omega) (Nat.le_refl _) (fun vv5 ww5 hown hgr _ => ?_)
          rw [Nat.zero_add, List.nil_append] at hown
          have hbg := bel_grown hgr
          obtain ⟨A2, c2, rfl, hD2⟩ := Dg.of_own hown hs2.ok
          clear hown hgr
          have hs1 := hs1.below hbg
          have hs2 := hs2.below hbg
          have hD1 := hD1.below hbg
          have hB := hB.trans (hbg.mono hB.size)
          have Z := Z.below hbg
          refine hK.out _ _ ?_ (fun hHeld => ?_)
          · exact hKeep.out _ hB
          clear hK K
          try simp only [Act.put, List.getElem_toArray, List.getElem_cons_succ, List.getElem_cons_zero, List.setIfInBounds_toArray, List.set_cons_zero, List.set_cons_succ]
          refine wpAnyH_take (i := 8) (v := .agg #[.bool sa, .slice A1 na c1, .slice A2 ma c2]) rfl (by kernel_rfl) (by kernel_rfl) (by kernel_rfl) (fun _ _ _ h => h) (Or.inl ⟨by kernel_rfl, by (intro w hSw; (try dsimp only at hSw); go_simp)⟩) hHeld ?_
          try simp only [Act.put, List.getElem_toArray, List.getElem_cons_succ, List.getElem_cons_zero, List.setIfInBounds_toArray, List.set_cons_zero, List.set_cons_succ]
          refine wpAnyH_ready (rs := [10]) (by kernel_rfl) (by simp) ?_
          refine AllReadyH.cons rfl (fun K hK => ?_) AllReadyH.nil
          have r0 := Z.cell 0
          have r1 := Z.cell 1
          have r2 := Z.cell 2
          have f0 := Z.frozen 0
          have f1 := Z.frozen 1
          have f2 := Z.frozen 2
          go_simp
          refine hK.out _ _ ?_ (fun hHeld => ?_)
          · exact hKeep.out _ (bel_set3 hB hgz.out _ _ _)
          clear hK K
          try simp only [Act.put, List.getElem_toArray, List.getElem_cons_succ, List.getElem_cons_zero, List.setIfInBounds_toArray, List.set_cons_zero, List.set_cons_succ]
          refine wpAnyH_done (by kernel_rfl) ?_ _
          go_wp2_with fail
          go_meet
          exact ⟨_, A1, c1, A2, c2, rfl, ((Z.set_ 0 _).set_ 1 _).set_ 2 _, ((hD1.setc Z (noi3c _ _ _ _ _ _ _) 0 _).setc (Z.set_ 0 _) (noi3c _ _ _ _ _ _ _) 1 _).setc ((Z.set_ 0 _).set_ 1 _) (noi3c _ _ _ _ _ _ _) 2 _, ((hD2.setc Z (noi3c _ _ _ _ _ _ _) 0 _).setc (Z.set_ 0 _) (noi3c _ _ _ _ _ _ _) 1 _).setc ((Z.set_ 0 _).set_ 1 _) (noi3c _ _ _ _ _ _ _) 2 _, bel_set3 hB hgz.out _ _ _⟩
        refine AllReadyH.cons rfl (fun K hK => ?_) AllReadyH.nil
        go_simp
        refine hK.out _ _ ?_ (fun hHeld => ?_)
        · exact hKeep.out _ (hB.alloc hB.size _)
        clear hK K
        try simp only [Act.put, List.getElem_toArray, List.getElem_cons_succ, List.getElem_cons_zero, List.setIfInBounds_toArray, List.set_cons_zero, List.set_cons_succ]
        have hgz := Lib.hid (show w2.heap.size ≤ w2.heap.size from hB.size)
        have Z : Blk ((w2.drew : World).alloc (.cells #[.bool false, .slice none 0 0, .slice none 0 0] 24)) w2.heap.size 24 #[.bool false, .slice none 0 0, .slice none 0 0] := Blk.new w2.drew 24 #[.bool false, .slice none 0 0, .slice none 0 0]
        have hal := (Below.refl (w2.drew : World).heap.size w2.drew).alloc (Nat.le_refl _) (.cells #[.bool false, .slice none 0 0, .slice none 0 0] 24)
        have hB := hB.alloc hB.size (.cells #[.bool false, .slice none 0 0, .slice none 0 0] 24)
        have hs1 := hs1.below hal
        have hs2 := hs2.below hal
        refine wpAnyH_ready (rs := [4]) (by kernel_rfl) (by simp) ?_
        refine AllReadyH.cons rfl (fun K hK => ?_) AllReadyH.nil
        refine step_append_any rfl _ _ 22 rfl _ 63 i0 (.int .u32 0) 1 4 Tryz.underlying22 hi hz0 hz1 hz2 rfl (by decide) (.slice none 0 0) 0 [] rfl (World.ownsRow_nil _ _ _ _) Aa na ca (dcs .u32 xa) rfl (Src.of_dg hs1 hca) (by unfold maxLen; omega) (by omega) (Nat.le_refl _) (fun vv7 ww7 hown hgr _ => ?_)
        rw [Nat.zero_add, List.nil_append] at hown
        have hbg := bel_grown hgr
        obtain ⟨A1, c1, rfl, hD1⟩ := Dg.of_own hown hs1.ok
        clear hown hgr
        have hs1 := hs1.below hbg
        have hs2 := hs2.below hbg
        have hB := hB.trans (hbg.mono hB.size)
        have Z := Z.below hbg
        refine hK.out _ _ ?_ (fun hHeld => ?_)
        · exact hKeep.out _ hB
        clear hK K
        try simp only [Act.put, List.getElem_toArray, List.getElem_cons_succ, List.getElem_cons_zero, List.setIfInBounds_toArray, List.set_cons_zero, List.set_cons_succ]
        refine wpAnyH_ready (rs := [7]) (by kernel_rfl) (by simp) ?_
        refine AllReadyH.cons rfl (fun K hK => ?_) AllReadyH.nil
        refine step_append_any rfl _ _ 22 rfl _ 63 i0 (.int .u32 0) 1 4 Tryz.underlying22 hi hz0 hz1 hz2 rfl (by decide) (.slice none 0 0) 0 [] rfl (World.ownsRow_nil _ _ _ _) Ba ma ea (dcs .u32 ya) rfl (Src.of_dg hs2 hea) (by unfold maxLen; omega) (by omega) (Nat.le_refl _) (fun vv8 ww8 hown hgr _ => ?_)
        rw [Nat.zero_add, List.nil_append] at hown
        have hbg := bel_grown hgr
        obtain ⟨A2, c2, rfl, hD2⟩ := Dg.of_own hown hs2.ok
        clear hown hgr
        have hs1 := hs1.below hbg
        have hs2 := hs2.below hbg
        have hD1 := hD1.below hbg
        have hB := hB.trans (hbg.mono hB.size)
        have Z := Z.below hbg
        refine hK.out _ _ ?_ (fun hHeld => ?_)
        · exact hKeep.out _ hB
        clear hK K
        try simp only [Act.put, List.getElem_toArray, List.getElem_cons_succ, List.getElem_cons_zero, List.setIfInBounds_toArray, List.set_cons_zero, List.set_cons_succ]
        refine wpAnyH_take (i := 8) (v := .agg #[.bool sa, .slice A1 na c1, .slice A2 ma c2]) rfl (by kernel_rfl) (by kernel_rfl) (by kernel_rfl) (fun _ _ _ h => h) (Or.inl ⟨by kernel_rfl, by (intro w hSw; (try dsimp only at hSw); go_simp)⟩) hHeld ?_
        try simp only [Act.put, List.getElem_toArray, List.getElem_cons_succ, List.getElem_cons_zero, List.setIfInBounds_toArray, List.set_cons_zero, List.set_cons_succ]
        refine wpAnyH_ready (rs := [10]) (by kernel_rfl) (by simp) ?_
        refine AllReadyH.cons rfl (fun K hK => ?_) AllReadyH.nil
        have r0 := Z.cell 0
        have r1 := Z.cell 1
        have r2 := Z.cell 2
        have f0 := Z.frozen 0
        have f1 := Z.frozen 1
        have f2 := Z.frozen 2
        go_simp
        refine hK.out _ _ ?_ (fun hHeld => ?_)
        · exact hKeep.out _ (bel_set3 hB hgz.out _ _ _)
        clear hK K
        try simp only [Act.put, List.getElem_toArray, List.getElem_cons_succ, List.getElem_cons_zero, List.setIfInBounds_toArray, List.set_cons_zero, List.set_cons_succ]
        refine wpAnyH_done (by kernel_rfl) ?_ _
        go_wp2_with fail
        go_meet
        exact ⟨_, A1, c1, A2, c2, rfl, ((Z.set_ 0 _).set_ 1 _).set_ 2 _, ((hD1.setc Z (noi3c _ _ _ _ _ _ _) 0 _).setc (Z.set_ 0 _) (noi3c _ _ _ _ _ _ _) 1 _).setc ((Z.set_ 0 _).set_ 1 _) (noi3c _ _ _ _ _ _ _) 2 _, ((hD2.setc Z (noi3c _ _ _ _ _ _ _) 0 _).setc (Z.set_ 0 _) (noi3c _ _ _ _ _ _ _) 1 _).setc ((Z.set_ 0 _).set_ 1 _) (noi3c _ _ _ _ _ _ _) 2 _, bel_set3 hB hgz.out _ _ _⟩
    case rest =>
      clear hKeep
      obtain ⟨gx, Ax, cx, Bx, dx, rfl, Xx, hxx, hyx, hB⟩ := hcut
      generalize wc = ux at *
      have hw := hw.trans (hB.mono hw.size)
      have hxa := hxa.below hB
      have hya := hya.below hB
      have hxb := hxb.below hB
      have hyb := hyb.below hB
      have Xa := Xa.below hB
      have Xb := Xb.below hB
      clear hB
      go_upto_region 4 with fail
      have k0 : ux.cell? ⟨w.heap.size + 1, 0, none⟩ = some (.bool sb) := Xb.cell 0
      have k1 : ux.cell? ⟨w.heap.size + 1, 1, none⟩ = some (.slice Ab nb cb) := Xb.cell 1
      have k2 : ux.cell? ⟨w.heap.size + 1, 2, none⟩ = some (.slice Bb mb eb) := Xb.cell 2
      have hKeep := Lib.hid (fun (wx : World) (hb : Below ux.heap.size ux wx) => (⟨(hb.cell (World.block_lt_of_cell? _ _ k0)).trans k0, (hb.cell (World.block_lt_of_cell? _ _ k1)).trans k1, (hb.cell (World.block_lt_of_cell? _ _ k2)).trans k2⟩ : wx.cell? ⟨w.heap.size + 1, 0, none⟩ = some (.bool sb) ∧ wx.cell? ⟨w.heap.size + 1, 1, none⟩ = some (.slice Ab nb cb) ∧ wx.cell? ⟨w.heap.size + 1, 2, none⟩ = some (.slice Bb mb eb)))
      clear k0 k1 k2
      go_cut [6] (fun v wx => ∃ g A1 c1 A2 c2, v = .pointer (some ⟨g, 0, none⟩) ∧ Blk wx g 24 #[.bool sb, .slice A1 nb c1, .slice A2 mb c2] ∧ Dg .u32 wx A1 nb c1 xb ∧ Dg .u32 wx A2 mb c2 yb ∧ Below ux.heap.size ux wx)
      case first =>
        as_aux_lemma =>
          have hB := bel_drewN (Below.refl ux.heap.size ux) 1
          have hs1 := hxb.below hB
          have hs2 := hyb.below hB
          refine wp_region_held_drew (S := (fun wx => wx.cell? ⟨w.heap.size + 1, 0, none⟩ = some (.bool sb) ∧ wx.cell? ⟨w.heap.size + 1, 1, none⟩ = some (.slice Ab nb cb) ∧ wx.cell? ⟨w.heap.size + 1, 2, none⟩ = some (.slice Bb mb eb))) (by kernel_rfl) (hKeep.out _ hB) (fun hHeld => ?_)
          refine wpAnyH_take (i := 0) (v := .pointer (some ⟨w.heap.size + 1, 0, none⟩)) rfl (by kernel_rfl) (by kernel_rfl) (by kernel_rfl) (fun _ _ _ h => h) (Or.inl ⟨by kernel_rfl, by (intro w hSw; (try dsimp only at hSw); go_simp)⟩) hHeld ?_
          try simp only [Act.put, List.getElem_toArray, List.getElem_cons_succ, List.getElem_cons_zero, List.setIfInBounds_toArray, List.set_cons_zero, List.set_cons_succ]
          refine wpAnyH_take (i := 1) (v := .bool sb) rfl (by kernel_rfl) (by kernel_rfl) (by kernel_rfl) (fun _ _ _ h => h) (Or.inl ⟨by kernel_rfl, by (intro w hSw; (try dsimp only at hSw); go_simp)⟩) hHeld ?_
          try simp only [Act.put, List.getElem_toArray, List.getElem_cons_succ, List.getElem_cons_zero, List.setIfInBounds_toArray, List.set_cons_zero, List.set_cons_succ]
          refine wpAnyH_take (i := 2) (v := .pointer (some ⟨w.heap.size + 1, 1, none⟩)) rfl (by kernel_rfl) (by kernel_rfl) (by kernel_rfl) (fun _ _ _ h => h) (Or.inl ⟨by kernel_rfl, by (intro w hSw; (try dsimp only at hSw); go_simp)⟩) hHeld ?_
          try simp only [Act.put, List.getElem_toArray, List.getElem_cons_succ, List.getElem_cons_zero, List.setIfInBounds_toArray, List.set_cons_zero, List.set_cons_succ]
          refine wpAnyH_take (i := 3) (v := .slice Ab nb cb) rfl (by kernel_rfl) (by kernel_rfl) (by kernel_rfl) (fun _ _ _ h => h) (Or.inl ⟨by kernel_rfl, by (intro w hSw; (try dsimp only at hSw); go_simp)⟩) hHeld ?_
          try simp only [Act.put, List.getElem_toArray, List.getElem_cons_succ, List.getElem_cons_zero, List.setIfInBounds_toArray, List.set_cons_zero, List.set_cons_succ]
          refine wpAnyH_take (i := 5) (v := .pointer (some ⟨w.heap.size + 1, 2, none⟩)) rfl (by kernel_rfl) (by kernel_rfl) (by kernel_rfl) (fun _ _ _ h => h) (Or.inl ⟨by kernel_rfl, by (intro w hSw; (try dsimp only at hSw); go_simp)⟩) hHeld ?_
          try simp only [Act.put, List.getElem_toArray, List.getElem_cons_succ, List.getElem_cons_zero, List.setIfInBounds_toArray, List.set_cons_zero, List.set_cons_succ]
          refine wpAnyH_take (i := 6) (v := .slice Bb mb eb) rfl (by kernel_rfl) (by kernel_rfl) (by kernel_rfl) (fun _ _ _ h => h) (Or.inl ⟨by kernel_rfl, by (intro w hSw; (try dsimp only at hSw); go_simp)⟩) hHeld ?_
          try simp only [Act.put, List.getElem_toArray, List.getElem_cons_succ, List.getElem_cons_zero, List.setIfInBounds_toArray, List.set_cons_zero, List.set_cons_succ]
          refine wpAnyH_ready (rs := [4, 9]) (by kernel_rfl) (by simp) ?_
          refine AllReadyH.cons rfl (fun K hK => ?_) ?_
          · skip
            refine step_append_any rfl _ _ 22 rfl _ 63 i0 (.int .u32 0) 1 4 Tryz.underlying22 hi hz0 hz1 hz2 rfl (by decide) (.slice none 0 0) 0 [] rfl (World.ownsRow_nil _ _ _ _) Ab nb cb (dcs .u32 xb) rfl (Src.of_dg hs1 hcb) (by unfold maxLen; omega) (by omega) (Nat.le_refl _) (fun vv1 ww1 hown hgr _ => ?_)
            rw [Nat.zero_add, List.nil_append] at hown
            have hbg := bel_grown hgr
            obtain ⟨A1, c1, rfl, hD1⟩ := Dg.of_own hown hs1.ok
            clear hown hgr
            have hs1 := hs1.below hbg
            have hs2 := hs2.below hbg
            have hB := hB.trans (hbg.mono hB.size)
            refine hK.out _ _ ?_ (fun hHeld => ?_)
            · exact hKeep.out _ hB
            clear hK K
            try simp only [Act.put, List.getElem_toArray, List.getElem_cons_succ, List.getElem_cons_zero, List.setIfInBounds_toArray, List.set_cons_zero, List.set_cons_succ]
            refine wpAnyH_ready (rs := [7, 9]) (by kernel_rfl) (by simp) ?_
            refine AllReadyH.cons rfl (fun K hK => ?_) ?_
            · skip
              refine step_append_any rfl _ _ 22 rfl _ 63 i0 (.int .u32 0) 1 4 Tryz.underlying22 hi hz0 hz1 hz2 rfl (by decide) (.slice none 0 0) 0 [] rfl (World.ownsRow_nil _ _ _ _) Bb mb eb (dcs .u32 yb) rfl (Src.of_dg hs2 heb) (by unfold maxLen; omega) (by omega) (Nat.le_refl _) (fun vv2 ww2 hown hgr _ => ?_)
              rw [Nat.zero_add, List.nil_append] at hown
              have hbg := bel_grown hgr
              obtain ⟨A2, c2, rfl, hD2⟩ := Dg.of_own hown hs2.ok
              clear hown hgr
              have hs1 := hs1.below hbg
              have hs2 := hs2.below hbg
              have hD1 := hD1.below hbg
              have hB := hB.trans (hbg.mono hB.size)
              refine hK.out _ _ ?_ (fun hHeld => ?_)
              · exact hKeep.out _ hB
              clear hK K
              try simp only [Act.put, List.getElem_toArray, List.getElem_cons_succ, List.getElem_cons_zero, List.setIfInBounds_toArray, List.set_cons_zero, List.set_cons_succ]
              refine wpAnyH_take (i := 8) (v := .agg #[.bool sb, .slice A1 nb c1, .slice A2 mb c2]) rfl (by kernel_rfl) (by kernel_rfl) (by kernel_rfl) (fun _ _ _ h => h) (Or.inl ⟨by kernel_rfl, by (intro w hSw; (try dsimp only at hSw); go_simp)⟩) hHeld ?_
              try simp only [Act.put, List.getElem_toArray, List.getElem_cons_succ, List.getElem_cons_zero, List.setIfInBounds_toArray, List.set_cons_zero, List.set_cons_succ]
              refine wpAnyH_ready (rs := [9]) (by kernel_rfl) (by simp) ?_
              refine AllReadyH.cons rfl (fun K hK => ?_) AllReadyH.nil
              go_simp
              refine hK.out _ _ ?_ (fun hHeld => ?_)
              · exact hKeep.out _ (hB.alloc hB.size _)
              clear hK K
              try simp only [Act.put, List.getElem_toArray, List.getElem_cons_succ, List.getElem_cons_zero, List.setIfInBounds_toArray, List.set_cons_zero, List.set_cons_succ]
              have hgz := Lib.hid (show ux.heap.size ≤ ww2.heap.size from hB.size)
              have Z : Blk ((ww2 : World).alloc (.cells #[.bool false, .slice none 0 0, .slice none 0 0] 24)) ww2.heap.size 24 #[.bool false, .slice none 0 0, .slice none 0 0] := Blk.new ww2 24 #[.bool false, .slice none 0 0, .slice none 0 0]
              refine wpAnyH_ready (rs := [10]) (by kernel_rfl) (by simp) ?_
              refine AllReadyH.cons rfl (fun K hK => ?_) AllReadyH.nil
              have r0 := Z.cell 0
              have r1 := Z.cell 1
              have r2 := Z.cell 2
              have f0 := Z.frozen 0
              have f1 := Z.frozen 1
              have f2 := Z.frozen 2
              go_simp
              refine hK.out _ _ ?_ (fun hHeld => ?_)
              · exact hKeep.out _ (hB.alloc hB.size _)
              clear hK K
              try simp only [Act.put, List.getElem_toArray, List.getElem_cons_succ, List.getElem_cons_zero, List.setIfInBounds_toArray, List.set_cons_zero, List.set_cons_succ]
              refine wpAnyH_done (by kernel_rfl) ?_ _
              go_wp2_with fail
              go_meet
              exact ⟨_, A1, c1, A2, c2, rfl, Blk.new _ _ _, hD1.below ((Below.refl _ _).alloc (Nat.le_refl _) _), hD2.below ((Below.refl _ _).alloc (Nat.le_refl _) _), hB.alloc hB.size _⟩
            refine AllReadyH.cons rfl (fun K hK => ?_) AllReadyH.nil
            go_simp
            refine hK.out _ _ ?_ (fun hHeld => ?_)
            · exact hKeep.out _ (hB.alloc hB.size _)
            clear hK K
            try simp only [Act.put, List.getElem_toArray, List.getElem_cons_succ, List.getElem_cons_zero, List.setIfInBounds_toArray, List.set_cons_zero, List.set_cons_succ]
            have hgz := Lib.hid (show ux.heap.size ≤ ww1.heap.size from hB.size)
            have Z : Blk ((ww1 : World).alloc (.cells #[.bool false, .slice none 0 0, .slice none 0 0] 24)) ww1.heap.size 24 #[.bool false, .slice none 0 0, .slice none 0 0] := Blk.new ww1 24 #[.bool false, .slice none 0 0, .slice none 0 0]
            have hal := (Below.refl (ww1 : World).heap.size ww1).alloc (Nat.le_refl _) (.cells #[.bool false, .slice none 0 0, .slice none 0 0] 24)
            have hB := hB.alloc hB.size (.cells #[.bool false, .slice none 0 0, .slice none 0 0] 24)
            have hs1 := hs1.below hal
            have hs2 := hs2.below hal
            have hD1 := hD1.below hal
            refine wpAnyH_ready (rs := [7]) (by kernel_rfl) (by simp) ?_
            refine AllReadyH.cons rfl (fun K hK => ?_) AllReadyH.nil
            refine step_append_any rfl _ _ 22 rfl _ 63 i0 (.int .u32 0) 1 4 Tryz.underlying22 hi hz0 hz1 hz2 rfl (by decide) (.slice none 0 0) 0 [] rfl (World.ownsRow_nil _ _ _ _) Bb mb eb (dcs .u32 yb) rfl (Src.of_dg hs2 heb) (by unfold maxLen; omega) (by omega) (Nat.le_refl _) (fun vv5 ww5 hown hgr _ => ?_)
            rw [Nat.zero_add, List.nil_append] at hown
            have hbg := bel_grown hgr
            obtain ⟨A2, c2, rfl, hD2⟩ := Dg.of_own hown hs2.ok
            clear hown hgr
            have hs1 := hs1.below hbg
            have hs2 := hs2.below hbg
            have hD1 := hD1.below hbg
            have hB := hB.trans (hbg.mono hB.size)
            have Z := Z.below hbg
            refine hK.out _ _ ?_ (fun hHeld => ?_)
            · exact hKeep.out _ hB
            clear hK K
            try simp only [Act.put, List.getElem_toArray, List.getElem_cons_succ, List.getElem_cons_zero, List.setIfInBounds_toArray, List.set_cons_zero, List.set_cons_succ]
            refine wpAnyH_take (i := 8) (v := .agg #[.bool sb, .slice A1 nb c1, .slice A2 mb c2]) rfl (by kernel_rfl) (by kernel_rfl) (by kernel_rfl) (fun _ _ _ h => h) (Or.inl ⟨by kernel_rfl, by (intro w hSw; (try dsimp only at hSw); go_simp)⟩) hHeld ?_
            try simp only [Act.put, List.getElem_toArray, List.getElem_cons_succ, List.getElem_cons_zero, List.setIfInBounds_toArray, List.set_cons_zero, List.set_cons_succ]
            refine wpAnyH_ready (rs := [10]) (by kernel_rfl) (by simp) ?_
            refine AllReadyH.cons rfl (fun K hK => ?_) AllReadyH.nil
            have r0 := Z.cell 0
            have r1 := Z.cell 1
            have r2 := Z.cell 2
            have f0 := Z.frozen 0
            have f1 := Z.frozen 1
            have f2 := Z.frozen 2
            go_simp
            refine hK.out _ _ ?_ (fun hHeld => ?_)
            · exact hKeep.out _ (bel_set3 hB hgz.out _ _ _)
            clear hK K
            try simp only [Act.put, List.getElem_toArray, List.getElem_cons_succ, List.getElem_cons_zero, List.setIfInBounds_toArray, List.set_cons_zero, List.set_cons_succ]
            refine wpAnyH_done (by kernel_rfl) ?_ _
            go_wp2_with fail
            go_meet
            exact ⟨_, A1, c1, A2, c2, rfl, ((Z.set_ 0 _).set_ 1 _).set_ 2 _, ((hD1.setc Z (noi3c _ _ _ _ _ _ _) 0 _).setc (Z.set_ 0 _) (noi3c _ _ _ _ _ _ _) 1 _).setc ((Z.set_ 0 _).set_ 1 _) (noi3c _ _ _ _ _ _ _) 2 _, ((hD2.setc Z (noi3c _ _ _ _ _ _ _) 0 _).setc (Z.set_ 0 _) (noi3c _ _ _ _ _ _ _) 1 _).setc ((Z.set_ 0 _).set_ 1 _) (noi3c _ _ _ _ _ _ _) 2 _, bel_set3 hB hgz.out _ _ _⟩
          refine AllReadyH.cons rfl (fun K hK => ?_) AllReadyH.nil
          go_simp
          refine hK.out _ _ ?_ (fun hHeld => ?_)
          · exact hKeep.out _ (hB.alloc hB.size _)
          clear hK K
          try simp only [Act.put, List.getElem_toArray, List.getElem_cons_succ, List.getElem_cons_zero, List.setIfInBounds_toArray, List.set_cons_zero, List.set_cons_succ]
          have hgz := Lib.hid (show ux.heap.size ≤ ux.heap.size from hB.size)
          have Z : Blk ((ux.drew : World).alloc (.cells #[.bool false, .slice none 0 0, .slice none 0 0] 24)) ux.heap.size 24 #[.bool false, .slice none 0 0, .slice none 0 0] := Blk.new ux.drew 24 #[.bool false, .slice none 0 0, .slice none 0 0]
          have hal := (Below.refl (ux.drew : World).heap.size ux.drew).alloc (Nat.le_refl _) (.cells #[.bool false, .slice none 0 0, .slice none 0 0] 24)
          have hB := hB.alloc hB.size (.cells #[.bool false, .slice none 0 0, .slice none 0 0] 24)
          have hs1 := hs1.below hal
          have hs2 := hs2.below hal
          refine wpAnyH_ready (rs := [4]) (by kernel_rfl) (by simp) ?_
          refine AllReadyH.cons rfl (fun K hK => ?_) AllReadyH.nil
          refine step_append_any rfl _ _ 22 rfl _ 63 i0 (.int .u32 0) 1 4 Tryz.underlying22 hi hz0 hz1 hz2 rfl (by decide) (.slice none 0 0) 0 [] rfl (World.ownsRow_nil _ _ _ _) Ab nb cb (dcs .u32 xb) rfl (Src.of_dg hs1 hcb) (by unfold maxLen; omega) (by omega) (Nat.le_refl _) (fun vv7 ww7 hown hgr _ => ?_)
          rw [Nat.zero_add, List.nil_append] at hown
          have hbg := bel_grown hgr
          obtain ⟨A1, c1, rfl, hD1⟩ := Dg.of_own hown hs1.ok
          clear hown hgr
          have hs1 := hs1.below hbg
          have hs2 := hs2.below hbg
          have hB := hB.trans (hbg.mono hB.size)
          have Z := Z.below hbg
          refine hK.out _ _ ?_ (fun hHeld => ?_)
          · exact hKeep.out _ hB
          clear hK K
          try simp only [Act.put, List.getElem_toArray, List.getElem_cons_succ, List.getElem_cons_zero, List.setIfInBounds_toArray, List.set_cons_zero, List.set_cons_succ]
          refine wpAnyH_ready (rs := [7]) (by kernel_rfl) (by simp) ?_
          refine AllReadyH.cons rfl (fun K hK => ?_) AllReadyH.nil
          refine step_append_any rfl _ _ 22 rfl _ 63 i0 (.int .u32 0) 1 4 Tryz.underlying22 hi hz0 hz1 hz2 rfl (by decide) (.slice none 0 0) 0 [] rfl (World.ownsRow_nil _ _ _ _) Bb mb eb (dcs .u32 yb) rfl (Src.of_dg hs2 heb) (by unfold maxLen; omega) (by omega) (Nat.le_refl _) (fun vv8 ww8 hown hgr _ => ?_)
          rw [Nat.zero_add, List.nil_append] at hown
          have hbg := bel_grown hgr
          obtain ⟨A2, c2, rfl, hD2⟩ := Dg.of_own hown hs2.ok
          clear hown hgr
          have hs1 := hs1.below hbg
          have hs2 := hs2.below hbg
          have hD1 := hD1.below hbg
          have hB := hB.trans (hbg.mono hB.size)
          have Z := Z.below hbg
          refine hK.out _ _ ?_ (fun hHeld => ?_)
          · exact hKeep.out _ hB
          clear hK K
          try simp only [Act.put, List.getElem_toArray, List.getElem_cons_succ, List.getElem_cons_zero, List.setIfInBounds_toArray, List.set_cons_zero, List.set_cons_succ]
          refine wpAnyH_take (i := 8) (v := .agg #[.bool sb, .slice A1 nb c1, .slice A2 mb c2]) rfl (by kernel_rfl) (by kernel_rfl) (by kernel_rfl) (fun _ _ _ h => h) (Or.inl ⟨by kernel_rfl, by (intro w hSw; (try dsimp only at hSw); go_simp)⟩) hHeld ?_
          try simp only [Act.put, List.getElem_toArray, List.getElem_cons_succ, List.getElem_cons_zero, List.setIfInBounds_toArray, List.set_cons_zero, List.set_cons_succ]
          refine wpAnyH_ready (rs := [10]) (by kernel_rfl) (by simp) ?_
          refine AllReadyH.cons rfl (fun K hK => ?_) AllReadyH.nil
          have r0 := Z.cell 0
          have r1 := Z.cell 1
          have r2 := Z.cell 2
          have f0 := Z.frozen 0
          have f1 := Z.frozen 1
          have f2 := Z.frozen 2
          go_simp
          refine hK.out _ _ ?_ (fun hHeld => ?_)
          · exact hKeep.out _ (bel_set3 hB hgz.out _ _ _)
          clear hK K
          try simp only [Act.put, List.getElem_toArray, List.getElem_cons_succ, List.getElem_cons_zero, List.setIfInBounds_toArray, List.set_cons_zero, List.set_cons_succ]
          refine wpAnyH_done (by kernel_rfl) ?_ _
          go_wp2_with fail
          go_meet
          exact ⟨_, A1, c1, A2, c2, rfl, ((Z.set_ 0 _).set_ 1 _).set_ 2 _, ((hD1.setc Z (noi3c _ _ _ _ _ _ _) 0 _).setc (Z.set_ 0 _) (noi3c _ _ _ _ _ _ _) 1 _).setc ((Z.set_ 0 _).set_ 1 _) (noi3c _ _ _ _ _ _ _) 2 _, ((hD2.setc Z (noi3c _ _ _ _ _ _ _) 0 _).setc (Z.set_ 0 _) (noi3c _ _ _ _ _ _ _) 1 _).setc ((Z.set_ 0 _).set_ 1 _) (noi3c _ _ _ _ _ _ _) 2 _, bel_set3 hB hgz.out _ _ _⟩
      case rest =>
        clear hKeep
        obtain ⟨gy, Ay, cy, By, dy, rfl, Xy, hxy, hyy, hB⟩ := hcut
        generalize wc = uy at *
        have hw := hw.trans (hB.mono hw.size)
        have hxa := hxa.below hB
        have hya := hya.below hB
        have hxb := hxb.below hB
        have hyb := hyb.below hB
        have hxx := hxx.below hB
        have hyx := hyx.below hB
        have Xa := Xa.below hB
        have Xb := Xb.below hB
        have Xx := Xx.below hB
        clear hB
        obtain ⟨qx, hqx⟩ : ∃ q, AF uy (.agg #[.bool sa, .slice Ax na cx, .slice Bx ma dx]) q 12 := ⟨_, AF.of hxx hyx l1a l2a⟩
        obtain ⟨qy, hqy⟩ : ∃ q, AF uy (.agg #[.bool sb, .slice Ay nb cy, .slice By mb dy]) q 12 := ⟨_, AF.of hxy hyy l1b l2b⟩
        obtain ⟨N, hN⟩ : ∃ N, uy.heap.size = N := ⟨_, rfl⟩
        have hNH := Lib.hid hN
        clear hN hi hz0 hz1 hz2
        have Xx0 := Xx
        have Xy0 := Xy
        have hPow : ∀ W, AF W (.agg #[.bool sa, .slice Ax na cx, .slice Bx ma dx]) qx 12 → Calls Tryz.prog 48 #[.agg #[.bool sa, .slice Ax na cx, .slice Bx ma dx], .int .i64 1] W (RetFEO W (qx ^ 1) (2 * 30) 0) := fun W h => PowO _ qx 1 12 30 W h (by decide) (by decide) (by decide) (by decide)
        have hPow := Lib.hid hPow
        have k0 : uy.cell? ⟨gx, 0, none⟩ = some (.bool sa) := Xx.cell 0
        have k1 : uy.cell? ⟨gx, 1, none⟩ = some (.slice Ax na cx) := Xx.cell 1
        have k2 : uy.cell? ⟨gx, 2, none⟩ = some (.slice Bx ma dx) := Xx.cell 2
        go_wp2_with fail
        refine (hPow.out _ hqx).mono ?_
        rintro e w5 ⟨_, rfl, q5, hb5⟩
        clear k0 k1 k2 hPow
        have q5 := q5.lower (Nat.le_of_eq hNH.out.symm)
        have hlq := q5.1.af
        obtain ⟨sp, Ap, np, cp, Bp, mp, dp, rfl⟩ := q5.form
        have hb5q : np ≤ 1000 ∧ mp ≤ 1000 := by obtain ⟨_, _, _, _, _, _, _, _, _, he, _, _, h1, h2, _⟩ := hlq; injection he with he; simp only [Array.mk.injEq, List.cons.injEq, and_true, Value.slice.injEq, Value.bool.injEq] at he; obtain ⟨rfl, ⟨rfl, rfl, rfl⟩, ⟨rfl, rfl, rfl⟩⟩ := he; omega
        clear hlq
        have hb5n := Lib.hid hb5q
        clear hb5q
        have hN5 : N ≤ w5.heap.size := by rw [← hNH.out]; exact hb5.size
        have hE := hb5
        have hqx := hqx.below hb5
        have hqy := hqy.below hb5
        have Xx := Xx.below hb5
        have Xy := Xy.below hb5
        have hba := (Below.refl w5.heap.size w5).alloc (Nat.le_refl _) (.cells #[.bool sp, .slice Ap np cp, .slice Bp mp dp] 24)
        have Xp := Blk.new w5 24 #[.bool sp, .slice Ap np cp, .slice Bp mp dp]
        have hE := hE.alloc hE.size (.cells #[.bool sp, .slice Ap np cp, .slice Bp mp dp] 24)
        have q5 := q5.below hba
        have hqx := hqx.below hba
        have hqy := hqy.below hba
        have Xx := Xx.below hba
        have Xy := Xy.below hba
        have hN6 : N ≤ w5.heap.size + 1 := by omega
        have hsz6 : (w5.alloc (.cells #[.bool sp, .slice Ap np cp, .slice Bp mp dp] 24)).heap.size = w5.heap.size + 1 := by simp
        rw [← hsz6] at hN6
        clear hba hb5 hsz6 hN5
        go_upto_region 6 with fail
        generalize w5.heap.size = gp at *
        generalize w5.alloc (.cells #[.bool sp, .slice Ap np cp, .slice Bp mp dp] 24) = w6 at *
        have k0 : w6.cell? ⟨gx, 0, none⟩ = some (.bool sa) := Xx.cell 0
        have k1 : w6.cell? ⟨gx, 1, none⟩ = some (.slice Ax na cx) := Xx.cell 1
        have k2 : w6.cell? ⟨gx, 2, none⟩ = some (.slice Bx ma dx) := Xx.cell 2
        have k3 : w6.cell? ⟨gy, 0, none⟩ = some (.bool sb) := Xy.cell 0
        have k4 : w6.cell? ⟨gy, 1, none⟩ = some (.slice Ay nb cy) := Xy.cell 1
        have k5 : w6.cell? ⟨gy, 2, none⟩ = some (.slice By mb dy) := Xy.cell 2
        have k6 : w6.cell? ⟨gp, 0, none⟩ = some (.bool sp) := Xp.cell 0
        have k7 : w6.cell? ⟨gp, 1, none⟩ = some (.slice Ap np cp) := Xp.cell 1
        have k8 : w6.cell? ⟨gp, 2, none⟩ = some (.slice Bp mp dp) := Xp.cell 2
        have hKeep := Lib.hid (fun (wx : World) (hb : Below w6.heap.size w6 wx) => (⟨(hb.cell (World.block_lt_of_cell? _ _ k0)).trans k0, (hb.cell (World.block_lt_of_cell? _ _ k1)).trans k1, (hb.cell (World.block_lt_of_cell? _ _ k2)).trans k2, (hb.cell (World.block_lt_of_cell? _ _ k3)).trans k3, (hb.cell (World.block_lt_of_cell? _ _ k4)).trans k4, (hb.cell (World.block_lt_of_cell? _ _ k5)).trans k5, (hb.cell (World.block_lt_of_cell? _ _ k6)).trans k6, (hb.cell (World.block_lt_of_cell? _ _ k7)).trans k7, (hb.cell (World.block_lt_of_cell? _ _ k8)).trans k8⟩ : wx.cell? ⟨gx, 0, none⟩ = some (.bool sa) ∧ wx.cell? ⟨gx, 1, none⟩ = some (.slice Ax na cx) ∧ wx.cell? ⟨gx, 2, none⟩ = some (.slice Bx ma dx) ∧ wx.cell? ⟨gy, 0, none⟩ = some (.bool sb) ∧ wx.cell? ⟨gy, 1, none⟩ = some (.slice Ay nb cy) ∧ wx.cell? ⟨gy, 2, none⟩ = some (.slice By mb dy) ∧ wx.cell? ⟨gp, 0, none⟩ = some (.bool sp) ∧ wx.cell? ⟨gp, 1, none⟩ = some (.slice Ap np cp) ∧ wx.cell? ⟨gp, 2, none⟩ = some (.slice Bp mp dp)))
        clear k0 k1 k2 k3 k4 k5 k6 k7 k8
        have hE2 : Below N uy w6 := by rw [← hNH.out]; exact hE
        clear hE
        go_cut [9] (fun v wx => ∃ g cs, v = .slice (some ⟨g, 0, none⟩) 8 8 ∧ R8 N uy wx g cs ∧ Below w6.heap.size w6 wx)
        case first =>
          as_aux_lemma =>
            have hB : Below w6.heap.size w6 w6.drew := bel_drewN (Below.refl w6.heap.size w6) 1
            refine wp_region_held_drew (S := (fun wx => wx.cell? ⟨gx, 0, none⟩ = some (.bool sa) ∧ wx.cell? ⟨gx, 1, none⟩ = some (.slice Ax na cx) ∧ wx.cell? ⟨gx, 2, none⟩ = some (.slice Bx ma dx) ∧ wx.cell? ⟨gy, 0, none⟩ = some (.bool sb) ∧ wx.cell? ⟨gy, 1, none⟩ = some (.slice Ay nb cy) ∧ wx.cell? ⟨gy, 2, none⟩ = some (.slice By mb dy) ∧ wx.cell? ⟨gp, 0, none⟩ = some (.bool sp) ∧ wx.cell? ⟨gp, 1, none⟩ = some (.slice Ap np cp) ∧ wx.cell? ⟨gp, 2, none⟩ = some (.slice Bp mp dp))) (by kernel_rfl) (hKeep.out _ hB) (fun hHeld => ?_)
            generalize w6.drew = wd at *
            refine wpAnyH_take (i := 0) (v := .agg #[.bool sa, .slice Ax na cx, .slice Bx ma dx]) rfl (by kernel_rfl) (by kernel_rfl) (by kernel_rfl) (fun _ _ _ h => h) (Or.inl ⟨by kernel_rfl, by (intro w hSw; (try dsimp only at hSw); go_simp)⟩) hHeld ?_
            try simp only [Act.put, List.getElem_toArray, List.getElem_cons_succ, List.getElem_cons_zero, List.setIfInBounds_toArray, List.set_cons_zero, List.set_cons_succ]
            refine wpAnyH_take (i := 2) (v := .agg #[.bool sa, .slice Ax na cx, .slice Bx ma dx]) rfl (by kernel_rfl) (by kernel_rfl) (by kernel_rfl) (fun _ _ _ h => h) (Or.inl ⟨by kernel_rfl, by (intro w hSw; (try dsimp only at hSw); go_simp)⟩) hHeld ?_
            try simp only [Act.put, List.getElem_toArray, List.getElem_cons_succ, List.getElem_cons_zero, List.setIfInBounds_toArray, List.set_cons_zero, List.set_cons_succ]
            refine wpAnyH_take (i := 4) (v := .agg #[.bool sa, .slice Ax na cx, .slice Bx ma dx]) rfl (by kernel_rfl) (by kernel_rfl) (by kernel_rfl) (fun _ _ _ h => h) (Or.inl ⟨by kernel_rfl, by (intro w hSw; (try dsimp only at hSw); go_simp)⟩) hHeld ?_
            try simp only [Act.put, List.getElem_toArray, List.getElem_cons_succ, List.getElem_cons_zero, List.setIfInBounds_toArray, List.set_cons_zero, List.set_cons_succ]
            refine wpAnyH_take (i := 5) (v := .agg #[.bool sb, .slice Ay nb cy, .slice By mb dy]) rfl (by kernel_rfl) (by kernel_rfl) (by kernel_rfl) (fun _ _ _ h => h) (Or.inl ⟨by kernel_rfl, by (intro w hSw; (try dsimp only at hSw); go_simp)⟩) hHeld ?_
            try simp only [Act.put, List.getElem_toArray, List.getElem_cons_succ, List.getElem_cons_zero, List.setIfInBounds_toArray, List.set_cons_zero, List.set_cons_succ]
            refine wpAnyH_take (i := 7) (v := .agg #[.bool sa, .slice Ax na cx, .slice Bx ma dx]) rfl (by kernel_rfl) (by kernel_rfl) (by kernel_rfl) (fun _ _ _ h => h) (Or.inl ⟨by kernel_rfl, by (intro w hSw; (try dsimp only at hSw); go_simp)⟩) hHeld ?_
            try simp only [Act.put, List.getElem_toArray, List.getElem_cons_succ, List.getElem_cons_zero, List.setIfInBounds_toArray, List.set_cons_zero, List.set_cons_succ]
            refine wpAnyH_take (i := 8) (v := .agg #[.bool sb, .slice Ay nb cy, .slice By mb dy]) rfl (by kernel_rfl) (by kernel_rfl) (by kernel_rfl) (fun _ _ _ h => h) (Or.inl ⟨by kernel_rfl, by (intro w hSw; (try dsimp only at hSw); go_simp)⟩) hHeld ?_
            try simp only [Act.put, List.getElem_toArray, List.getElem_cons_succ, List.getElem_cons_zero, List.setIfInBounds_toArray, List.set_cons_zero, List.set_cons_succ]
            refine wpAnyH_take (i := 10) (v := .agg #[.bool sa, .slice Ax na cx, .slice Bx ma dx]) rfl (by kernel_rfl) (by kernel_rfl) (by kernel_rfl) (fun _ _ _ h => h) (Or.inl ⟨by kernel_rfl, by (intro w hSw; (try dsimp only at hSw); go_simp)⟩) hHeld ?_
            try simp only [Act.put, List.getElem_toArray, List.getElem_cons_succ, List.getElem_cons_zero, List.setIfInBounds_toArray, List.set_cons_zero, List.set_cons_succ]
            refine wpAnyH_take (i := 11) (v := .agg #[.bool sb, .slice Ay nb cy, .slice By mb dy]) rfl (by kernel_rfl) (by kernel_rfl) (by kernel_rfl) (fun _ _ _ h => h) (Or.inl ⟨by kernel_rfl, by (intro w hSw; (try dsimp only at hSw); go_simp)⟩) hHeld ?_
            try simp only [Act.put, List.getElem_toArray, List.getElem_cons_succ, List.getElem_cons_zero, List.setIfInBounds_toArray, List.set_cons_zero, List.set_cons_succ]
            refine wpAnyH_take (i := 13) (v := .agg #[.bool sp, .slice Ap np cp, .slice Bp mp dp]) rfl (by kernel_rfl) (by kernel_rfl) (by kernel_rfl) (fun _ _ _ h => h) (Or.inl ⟨by kernel_rfl, by (intro w hSw; (try dsimp only at hSw); go_simp)⟩) hHeld ?_
            try simp only [Act.put, List.getElem_toArray, List.getElem_cons_succ, List.getElem_cons_zero, List.setIfInBounds_toArray, List.set_cons_zero, List.set_cons_succ]
            refine wpAnyH_take (i := 14) (v := .agg #[.bool sa, .slice Ax na cx, .slice Bx ma dx]) rfl (by kernel_rfl) (by kernel_rfl) (by kernel_rfl) (fun _ _ _ h => h) (Or.inl ⟨by kernel_rfl, by (intro w hSw; (try dsimp only at hSw); go_simp)⟩) hHeld ?_
            try simp only [Act.put, List.getElem_toArray, List.getElem_cons_succ, List.getElem_cons_zero, List.setIfInBounds_toArray, List.set_cons_zero, List.set_cons_succ]
            refine wpAnyH_take (i := 17) (v := .agg #[.bool sa, .slice Ax na cx, .slice Bx ma dx]) rfl (by kernel_rfl) (by kernel_rfl) (by kernel_rfl) (fun _ _ _ h => h) (Or.inl ⟨by kernel_rfl, by (intro w hSw; (try dsimp only at hSw); go_simp)⟩) hHeld ?_
            try simp only [Act.put, List.getElem_toArray, List.getElem_cons_succ, List.getElem_cons_zero, List.setIfInBounds_toArray, List.set_cons_zero, List.set_cons_succ]
            refine share_state (fuel' := 2) (listed' := #[true, true, true, true, true, true, true, true, true, true, true, true, true, true, true, true, true, true, true, true, false, false]) (fun (a0 a' : Act) (wz : World) => ∃ (v43 v45 v48 v51 v54 v58 v61 : Value) (gs gt : Nat), a' = (((((((((a0.put (some 43) (v43)).put (some 45) (v45)).put (some 48) (v48)).put (some 51) (v51)).put (some 54) (v54)).put (some 58) (v58)).put (some 61) (v61)).put (some 57) (.slice (some ⟨gs, 0, none⟩) 1 1)).put (some 60) (.slice (some ⟨gt, 0, none⟩) 1 1)) ∧ Below w6.heap.size w6 wz ∧ OwF N wz v43 ∧ OwF N wz v45 ∧ OwF N wz v48 ∧ OwF N wz v51 ∧ OwF N wz v54 ∧ OwF N wz v58 ∧ OwF N wz v61 ∧ Blk wz gs 24 #[.bool sa, .slice Ax na cx, .slice Bx ma dx] ∧ Blk wz gt 24 #[.bool sa, .slice Ax na cx, .slice Bx ma dx]) ?_ ?_
            · as_aux_lemma =>
                rintro a' wz ⟨v43, v45, v48, v51, v54, v58, v61, gs, gt, rfl, hB, o43, o45, o48, o51, o54, o58, o61, Zs, Zt⟩
                try simp only [Act.put, List.getElem_toArray, List.getElem_cons_succ, List.getElem_cons_zero, List.setIfInBounds_toArray, List.set_cons_zero, List.set_cons_succ]
                refine wpAnyH_ready (rs := [20]) (by kernel_rfl) (by simp) ?_
                refine AllReadyH.cons rfl (fun K hK => ?_) AllReadyH.nil
                obtain ⟨s43, A43, n43, c43, B43, m43, d43, rfl, p43, r43, b43⟩ := o43
                obtain ⟨s45, A45, n45, c45, B45, m45, d45, rfl, p45, r45, b45⟩ := o45
                obtain ⟨s48, A48, n48, c48, B48, m48, d48, rfl, p48, r48, b48⟩ := o48
                obtain ⟨s51, A51, n51, c51, B51, m51, d51, rfl, p51, r51, b51⟩ := o51
                obtain ⟨s54, A54, n54, c54, B54, m54, d54, rfl, p54, r54, b54⟩ := o54
                obtain ⟨s58, A58, n58, c58, B58, m58, d58, rfl, p58, r58, b58⟩ := o58
                obtain ⟨s61, A61, n61, c61, B61, m61, d61, rfl, p61, r61, b61⟩ := o61
                have hbs : ∀ W : World, (Instr.buildSlice 49 8 #[(0, .agg #[.bool s43, .slice A43 n43 c43, .slice B43 m43 d43]), (1, .agg #[.bool s45, .slice A45 n45 c45, .slice B45 m45 d45]), (2, .agg #[.bool s48, .slice A48 n48 c48, .slice B48 m48 d48]), (3, .agg #[.bool s51, .slice A51 n51 c51, .slice B51 m51 d51]), (4, .agg #[.bool s54, .slice A54 n54 c54, .slice B54 m54 d54]), (5, .agg #[.bool sp, .slice Ap np cp, .slice Bp mp dp]), (6, .agg #[.bool s58, .slice A58 n58 c58, .slice B58 m58 d58]), (7, .agg #[.bool s61, .slice A61 n61 c61, .slice B61 m61 d61])]).run Tryz.prog W = .ok (.slice (some ⟨W.heap.size, 0, none⟩) 8 8) (W.alloc (.cells #[.bool s43, .slice A43 n43 c43, .slice B43 m43 d43, .bool s45, .slice A45 n45 c45, .slice B45 m45 d45, .bool s48, .slice A48 n48 c48, .slice B48 m48 d48, .bool s51, .slice A51 n51 c51, .slice B51 m51 d51, .bool s54, .slice A54 n54 c54, .slice B54 m54 d54, .bool sp, .slice Ap np cp, .slice Bp mp dp, .bool s58, .slice A58 n58 c58, .slice B58 m58 d58, .bool s61, .slice A61 n61 c61, .slice B61 m61 d61] 24)) := fun W => bs8 (.bool s43) (.slice A43 n43 c43) (.slice B43 m43 d43) (.bool s45) (.slice A45 n45 c45) (.slice B45 m45 d45) (.bool s48) (.slice A48 n48 c48) (.slice B48 m48 d48) (.bool s51) (.slice A51 n51 c51) (.slice B51 m51 d51) (.bool s54) (.slice A54 n54 c54) (.slice B54 m54 d54) (.bool sp) (.slice Ap np cp) (.slice Bp mp dp) (.bool s58) (.slice A58 n58 c58) (.slice B58 m58 d58) (.bool s61) (.slice A61 n61 c61) (.slice B61 m61 d61) W
                refine step_build (vs := #[(0, .agg #[.bool s43, .slice A43 n43 c43, .slice B43 m43 d43]), (1, .agg #[.bool s45, .slice A45 n45 c45, .slice B45 m45 d45]), (2, .agg #[.bool s48, .slice A48 n48 c48, .slice B48 m48 d48]), (3, .agg #[.bool s51, .slice A51 n51 c51, .slice B51 m51 d51]), (4, .agg #[.bool s54, .slice A54 n54 c54, .slice B54 m54 d54]), (5, .agg #[.bool sp, .slice Ap np cp, .slice Bp mp dp]), (6, .agg #[.bool s58, .slice A58 n58 c58, .slice B58 m58 d58]), (7, .agg #[.bool s61, .slice A61 n61 c61, .slice B61 m61 d61])]) (by kernel_rfl) rfl (by kernel_rfl) (hbs _) ?_
                refine hK.out _ _ ?_ (fun hHeld => ?_)
                · exact hKeep.out _ (hB.alloc hB.size _)
                clear hK K
                try simp only [Act.put, List.getElem_toArray, List.getElem_cons_succ, List.getElem_cons_zero, List.setIfInBounds_toArray, List.set_cons_zero, List.set_cons_succ]
                refine wpAnyH_take (i := 21) (v := .slice (some ⟨wz.heap.size, 0, none⟩) 8 8) rfl (by kernel_rfl) (by kernel_rfl) (by kernel_rfl) (fun _ _ _ h => h) (Or.inl ⟨by kernel_rfl, by (intro w hSw; (try dsimp only at hSw); go_simp)⟩) hHeld ?_
                try simp only [Act.put, List.getElem_toArray, List.getElem_cons_succ, List.getElem_cons_zero, List.setIfInBounds_toArray, List.set_cons_zero, List.set_cons_succ]
                refine wpAnyH_done (by kernel_rfl) ?_ _
                go_wp2_with fail
                go_meet
                exact r8_new hB hE2 hN6 ⟨Own.mk p43 r43, b43⟩ ⟨Own.mk p45 r45, b45⟩ ⟨Own.mk p48 r48, b48⟩ ⟨Own.mk p51 r51, b51⟩ ⟨Own.mk p54 r54, b54⟩ ⟨q5.2.map fun _ _ h => h.below hB, hb5n.out⟩ ⟨Own.mk p58 r58, b58⟩ ⟨Own.mk p61 r61, b61⟩
            intro key711
            have key711 := Lib.hid key711
            refine share_state (fuel' := 3) (listed' := #[true, true, true, true, true, true, true, true, true, true, true, true, true, true, true, true, true, true, true, false, false, false]) (fun (a0 a' : Act) (wz : World) => ∃ (v43 v45 v48 v51 v54 v58 : Value) (gs gt : Nat), a' = ((((((((a0.put (some 43) (v43)).put (some 45) (v45)).put (some 48) (v48)).put (some 51) (v51)).put (some 54) (v54)).put (some 58) (v58)).put (some 57) (.slice (some ⟨gs, 0, none⟩) 1 1)).put (some 60) (.slice (some ⟨gt, 0, none⟩) 1 1)) ∧ Below w6.heap.size w6 wz ∧ OwF N wz v43 ∧ OwF N wz v45 ∧ OwF N wz v48 ∧ OwF N wz v51 ∧ OwF N wz v54 ∧ OwF N wz v58 ∧ Blk wz gs 24 #[.bool sa, .slice Ax na cx, .slice Bx ma dx] ∧ Blk wz gt 24 #[.bool sa, .slice Ax na cx, .slice Bx ma dx]) ?_ ?_
            · as_aux_lemma =>
                rintro a' wz ⟨v43, v45, v48, v51, v54, v58, gs, gt, rfl, hB, o43, o45, o48, o51, o54, o58, Zs, Zt⟩
                try simp only [Act.put, List.getElem_toArray, List.getElem_cons_succ, List.getElem_cons_zero, List.setIfInBounds_toArray, List.set_cons_zero, List.set_cons_succ]
                refine wpAnyH_ready (rs := [19]) (by kernel_rfl) (by simp) ?_
                refine AllReadyH.cons rfl (fun K hK => ?_) AllReadyH.nil
                go_simp
                have hqx := hqx.below hB
                have hqy := hqy.below hB
                refine (ProductO _ 1 1 12 [qx] _ (Ls.lit1 Zt hqx) (by decide) (by decide) (by decide)).mono ?_
                rintro e wn ⟨v61, rfl, o61, hc⟩
                have o61 := (o61.lower (Nat.le_trans hN6 hB.size)).owf (by decide)
                go_wp2_with fail
                refine hK.out _ _ (hKeep.out _ (hB.trans (hc.mono hB.size))) (fun _ => ?_)
                clear hK K
                try simp only [Act.put, List.getElem_toArray, List.getElem_cons_succ, List.getElem_cons_zero, List.setIfInBounds_toArray, List.set_cons_zero, List.set_cons_succ]
                refine key711.out _ _ ⟨v43, v45, v48, v51, v54, v58, v61, gs, gt, ?_, hB.trans (hc.mono hB.size), o43.below hc, o45.below hc, o48.below hc, o51.below hc, o54.below hc, o58.below hc, o61, Zs.below hc, Zt.below hc⟩
                simp only [Act.put, List.getElem_toArray, List.getElem_cons_succ, List.getElem_cons_zero, List.setIfInBounds_toArray, List.set_cons_zero, List.set_cons_succ]
            intro key611
            have key611 := Lib.hid key611
            refine share_state (fuel' := 4) (listed' := #[true, true, true, true, true, true, true, true, true, true, true, true, true, true, true, true, true, true, false, false, false, false]) (fun (a0 a' : Act) (wz : World) => ∃ (v43 v45 v48 v51 v54 v58 : Value) (gs : Nat), a' = (((((((a0.put (some 43) (v43)).put (some 45) (v45)).put (some 48) (v48)).put (some 51) (v51)).put (some 54) (v54)).put (some 58) (v58)).put (some 57) (.slice (some ⟨gs, 0, none⟩) 1 1)) ∧ Below w6.heap.size w6 wz ∧ OwF N wz v43 ∧ OwF N wz v45 ∧ OwF N wz v48 ∧ OwF N wz v51 ∧ OwF N wz v54 ∧ OwF N wz v58 ∧ Blk wz gs 24 #[.bool sa, .slice Ax na cx, .slice Bx ma dx]) ?_ ?_
            · as_aux_lemma =>
                rintro a' wz ⟨v43, v45, v48, v51, v54, v58, gs, rfl, hB, o43, o45, o48, o51, o54, o58, Zs⟩
                try simp only [Act.put, List.getElem_toArray, List.getElem_cons_succ, List.getElem_cons_zero, List.setIfInBounds_toArray, List.set_cons_zero, List.set_cons_succ]
                refine wpAnyH_ready (rs := [18]) (by kernel_rfl) (by simp) ?_
                refine AllReadyH.cons rfl (fun K hK => ?_) AllReadyH.nil
                go_simp
                refine hK.out _ _ (hKeep.out _ (hB.alloc hB.size _)) (fun _ => ?_)
                clear hK K
                try simp only [Act.put, List.getElem_toArray, List.getElem_cons_succ, List.getElem_cons_zero, List.setIfInBounds_toArray, List.set_cons_zero, List.set_cons_succ]
                have hal := (Below.refl (wz : World).heap.size wz).alloc (Nat.le_refl _) (.cells #[.bool sa, .slice Ax na cx, .slice Bx ma dx] 24)
                refine key611.out _ _ ⟨v43, v45, v48, v51, v54, v58, gs, wz.heap.size, ?_, hB.alloc hB.size _, o43.below hal, o45.below hal, o48.below hal, o51.below hal, o54.below hal, o58.below hal, Zs.below hal, Blk.new _ _ _⟩
                simp only [Act.put, List.getElem_toArray, List.getElem_cons_succ, List.getElem_cons_zero, List.setIfInBounds_toArray, List.set_cons_zero, List.set_cons_succ]
            intro key610
            have key610 := Lib.hid key610
            refine share_state (fuel' := 4) (listed' := #[true, true, true, true, true, true, true, true, true, true, true, true, true, true, true, true, false, true, true, false, false, false]) (fun (a0 a' : Act) (wz : World) => ∃ (v43 v45 v48 v51 v54 : Value) (gs gt : Nat), a' = (((((((a0.put (some 43) (v43)).put (some 45) (v45)).put (some 48) (v48)).put (some 51) (v51)).put (some 54) (v54)).put (some 57) (.slice (some ⟨gs, 0, none⟩) 1 1)).put (some 60) (.slice (some ⟨gt, 0, none⟩) 1 1)) ∧ Below w6.heap.size w6 wz ∧ OwF N wz v43 ∧ OwF N wz v45 ∧ OwF N wz v48 ∧ OwF N wz v51 ∧ OwF N wz v54 ∧ Blk wz gs 24 #[.bool sa, .slice Ax na cx, .slice Bx ma dx] ∧ Blk wz gt 24 #[.bool sa, .slice Ax na cx, .slice Bx ma dx]) ?_ ?_
            · as_aux_lemma =>
                rintro a' wz ⟨v43, v45, v48, v51, v54, gs, gt, rfl, hB, o43, o45, o48, o51, o54, Zs, Zt⟩
                try simp only [Act.put, List.getElem_toArray, List.getElem_cons_succ, List.getElem_cons_zero, List.setIfInBounds_toArray, List.set_cons_zero, List.set_cons_succ]
                refine wpAnyH_ready (rs := [16]) (by kernel_rfl) (by simp) ?_
                refine AllReadyH.cons rfl (fun K hK => ?_) AllReadyH.nil
                go_simp
                have hqx := hqx.below hB
                have hqy := hqy.below hB
                refine (SumO _ 1 1 12 [qx] _ (Ls.lit1 Zs hqx) (by decide)).mono ?_
                rintro e wn ⟨v58, rfl, o58, hc⟩
                have o58 := (o58.lower (Nat.le_trans hN6 hB.size)).owf (by decide)
                go_wp2_with fail
                refine hK.out _ _ (hKeep.out _ (hB.trans (hc.mono hB.size))) (fun _ => ?_)
                clear hK K
                try simp only [Act.put, List.getElem_toArray, List.getElem_cons_succ, List.getElem_cons_zero, List.setIfInBounds_toArray, List.set_cons_zero, List.set_cons_succ]
                refine key611.out _ _ ⟨v43, v45, v48, v51, v54, v58, gs, gt, ?_, hB.trans (hc.mono hB.size), o43.below hc, o45.below hc, o48.below hc, o51.below hc, o54.below hc, o58, Zs.below hc, Zt.below hc⟩
                simp only [Act.put, List.getElem_toArray, List.getElem_cons_succ, List.getElem_cons_zero, List.setIfInBounds_toArray, List.set_cons_zero, List.set_cons_succ]
            intro key511
            have key511 := Lib.hid key511
            refine share_state (fuel' := 5) (listed' := #[true, true, true, true, true, true, true, true, true, true, true, true, true, true, true, true, false, true, false, false, false, false]) (fun (a0 a' : Act) (wz : World) => ∃ (v43 v45 v48 v51 v54 : Value) (gs : Nat), a' = ((((((a0.put (some 43) (v43)).put (some 45) (v45)).put (some 48) (v48)).put (some 51) (v51)).put (some 54) (v54)).put (some 57) (.slice (some ⟨gs, 0, none⟩) 1 1)) ∧ Below w6.heap.size w6 wz ∧ OwF N wz v43 ∧ OwF N wz v45 ∧ OwF N wz v48 ∧ OwF N wz v51 ∧ OwF N wz v54 ∧ Blk wz gs 24 #[.bool sa, .slice Ax na cx, .slice Bx ma dx]) ?_ ?_
            · as_aux_lemma =>
                rintro a' wz ⟨v43, v45, v48, v51, v54, gs, rfl, hB, o43, o45, o48, o51, o54, Zs⟩
                try simp only [Act.put, List.getElem_toArray, List.getElem_cons_succ, List.getElem_cons_zero, List.setIfInBounds_toArray, List.set_cons_zero, List.set_cons_succ]
                refine wpAnyH_ready (rs := [16, 18]) (by kernel_rfl) (by simp) ?_
                refine AllReadyH.cons rfl (fun K hK => ?_) ?_
                · skip
                  go_simp
                  have hqx := hqx.below hB
                  have hqy := hqy.below hB
                  refine (SumO _ 1 1 12 [qx] _ (Ls.lit1 Zs hqx) (by decide)).mono ?_
                  rintro e wn ⟨v58, rfl, o58, hc⟩
                  have o58 := (o58.lower (Nat.le_trans hN6 hB.size)).owf (by decide)
                  go_wp2_with fail
                  refine hK.out _ _ (hKeep.out _ (hB.trans (hc.mono hB.size))) (fun _ => ?_)
                  clear hK K
                  try simp only [Act.put, List.getElem_toArray, List.getElem_cons_succ, List.getElem_cons_zero, List.setIfInBounds_toArray, List.set_cons_zero, List.set_cons_succ]
                  refine key610.out _ _ ⟨v43, v45, v48, v51, v54, v58, gs, ?_, hB.trans (hc.mono hB.size), o43.below hc, o45.below hc, o48.below hc, o51.below hc, o54.below hc, o58, Zs.below hc⟩
                  simp only [Act.put, List.getElem_toArray, List.getElem_cons_succ, List.getElem_cons_zero, List.setIfInBounds_toArray, List.set_cons_zero, List.set_cons_succ]
                refine AllReadyH.cons rfl (fun K hK => ?_) AllReadyH.nil
                go_simp
                refine hK.out _ _ (hKeep.out _ (hB.alloc hB.size _)) (fun _ => ?_)
                clear hK K
                try simp only [Act.put, List.getElem_toArray, List.getElem_cons_succ, List.getElem_cons_zero, List.setIfInBounds_toArray, List.set_cons_zero, List.set_cons_succ]
                have hal := (Below.refl (wz : World).heap.size wz).alloc (Nat.le_refl _) (.cells #[.bool sa, .slice Ax na cx, .slice Bx ma dx] 24)
                refine key511.out _ _ ⟨v43, v45, v48, v51, v54, gs, wz.heap.size, ?_, hB.alloc hB.size _, o43.below hal, o45.below hal, o48.below hal, o51.below hal, o54.below hal, Zs.below hal, Blk.new _ _ _⟩
                simp only [Act.put, List.getElem_toArray, List.getElem_cons_succ, List.getElem_cons_zero, List.setIfInBounds_toArray, List.set_cons_zero, List.set_cons_succ]
            intro key510
            have key510 := Lib.hid key510
            refine share_state (fuel' := 5) (listed' := #[true, true, true, true, true, true, true, true, true, true, true, true, true, true, true, false, false, true, true, false, false, false]) (fun (a0 a' : Act) (wz : World) => ∃ (v43 v45 v48 v51 v54 : Value) (gt : Nat), a' = ((((((a0.put (some 43) (v43)).put (some 45) (v45)).put (some 48) (v48)).put (some 51) (v51)).put (some 54) (v54)).put (some 60) (.slice (some ⟨gt, 0, none⟩) 1 1)) ∧ Below w6.heap.size w6 wz ∧ OwF N wz v43 ∧ OwF N wz v45 ∧ OwF N wz v48 ∧ OwF N wz v51 ∧ OwF N wz v54 ∧ Blk wz gt 24 #[.bool sa, .slice Ax na cx, .slice Bx ma dx]) ?_ ?_
            · as_aux_lemma =>
                rintro a' wz ⟨v43, v45, v48, v51, v54, gt, rfl, hB, o43, o45, o48, o51, o54, Zt⟩
                try simp only [Act.put, List.getElem_toArray, List.getElem_cons_succ, List.getElem_cons_zero, List.setIfInBounds_toArray, List.set_cons_zero, List.set_cons_succ]
                refine wpAnyH_ready (rs := [15]) (by kernel_rfl) (by simp) ?_
                refine AllReadyH.cons rfl (fun K hK => ?_) AllReadyH.nil
                go_simp
                refine hK.out _ _ (hKeep.out _ (hB.alloc hB.size _)) (fun _ => ?_)
                clear hK K
                try simp only [Act.put, List.getElem_toArray, List.getElem_cons_succ, List.getElem_cons_zero, List.setIfInBounds_toArray, List.set_cons_zero, List.set_cons_succ]
                have hal := (Below.refl (wz : World).heap.size wz).alloc (Nat.le_refl _) (.cells #[.bool sa, .slice Ax na cx, .slice Bx ma dx] 24)
                refine key511.out _ _ ⟨v43, v45, v48, v51, v54, wz.heap.size, gt, ?_, hB.alloc hB.size _, o43.below hal, o45.below hal, o48.below hal, o51.below hal, o54.below hal, Blk.new _ _ _, Zt.below hal⟩
                simp only [Act.put, List.getElem_toArray, List.getElem_cons_succ, List.getElem_cons_zero, List.setIfInBounds_toArray, List.set_cons_zero, List.set_cons_succ]
            intro key501
            have key501 := Lib.hid key501
            refine share_state (fuel' := 6) (listed' := #[true, true, true, true, true, true, true, true, true, true, true, true, true, true, true, false, false, true, false, false, false, false]) (fun (a0 a' : Act) (wz : World) => ∃ (v43 v45 v48 v51 v54 : Value), a' = (((((a0.put (some 43) (v43)).put (some 45) (v45)).put (some 48) (v48)).put (some 51) (v51)).put (some 54) (v54)) ∧ Below w6.heap.size w6 wz ∧ OwF N wz v43 ∧ OwF N wz v45 ∧ OwF N wz v48 ∧ OwF N wz v51 ∧ OwF N wz v54) ?_ ?_
            · as_aux_lemma =>
                rintro a' wz ⟨v43, v45, v48, v51, v54, rfl, hB, o43, o45, o48, o51, o54⟩
                try simp only [Act.put, List.getElem_toArray, List.getElem_cons_succ, List.getElem_cons_zero, List.setIfInBounds_toArray, List.set_cons_zero, List.set_cons_succ]
                refine wpAnyH_ready (rs := [15, 18]) (by kernel_rfl) (by simp) ?_
                refine AllReadyH.cons rfl (fun K hK => ?_) ?_
                · skip
                  go_simp
                  refine hK.out _ _ (hKeep.out _ (hB.alloc hB.size _)) (fun _ => ?_)
                  clear hK K
                  try simp only [Act.put, List.getElem_toArray, List.getElem_cons_succ, List.getElem_cons_zero, List.setIfInBounds_toArray, List.set_cons_zero, List.set_cons_succ]
                  have hal := (Below.refl (wz : World).heap.size wz).alloc (Nat.le_refl _) (.cells #[.bool sa, .slice Ax na cx, .slice Bx ma dx] 24)
                  refine key510.out _ _ ⟨v43, v45, v48, v51, v54, wz.heap.size, ?_, hB.alloc hB.size _, o43.below hal, o45.below hal, o48.below hal, o51.below hal, o54.below hal, Blk.new _ _ _⟩
                  simp only [Act.put, List.getElem_toArray, List.getElem_cons_succ, List.getElem_cons_zero, List.setIfInBounds_toArray, List.set_cons_zero, List.set_cons_succ]
                refine AllReadyH.cons rfl (fun K hK => ?_) AllReadyH.nil
                go_simp
                refine hK.out _ _ (hKeep.out _ (hB.alloc hB.size _)) (fun _ => ?_)
                clear hK K
                try simp only [Act.put, List.getElem_toArray, List.getElem_cons_succ, List.getElem_cons_zero, List.setIfInBounds_toArray, List.set_cons_zero, List.set_cons_succ]
                have hal := (Below.refl (wz : World).heap.size wz).alloc (Nat.le_refl _) (.cells #[.bool sa, .slice Ax na cx, .slice Bx ma dx] 24)
                refine key501.out _ _ ⟨v43, v45, v48, v51, v54, wz.heap.size, ?_, hB.alloc hB.size _, o43.below hal, o45.below hal, o48.below hal, o51.below hal, o54.below hal, Blk.new _ _ _⟩
                simp only [Act.put, List.getElem_toArray, List.getElem_cons_succ, List.getElem_cons_zero, List.setIfInBounds_toArray, List.set_cons_zero, List.set_cons_succ]
            intro key500
            have key500 := Lib.hid key500
            refine share_state (fuel' := 5) (listed' := #[true, true, true, true, true, true, true, true, true, true, true, true, false, true, true, true, false, true, true, false, false, false]) (fun (a0 a' : Act) (wz : World) => ∃ (v43 v45 v48 v51 : Value) (gs gt : Nat), a' = ((((((a0.put (some 43) (v43)).put (some 45) (v45)).put (some 48) (v48)).put (some 51) (v51)).put (some 57) (.slice (some ⟨gs, 0, none⟩) 1 1)).put (some 60) (.slice (some ⟨gt, 0, none⟩) 1 1)) ∧ Below w6.heap.size w6 wz ∧ OwF N wz v43 ∧ OwF N wz v45 ∧ OwF N wz v48 ∧ OwF N wz v51 ∧ Blk wz gs 24 #[.bool sa, .slice Ax na cx, .slice Bx ma dx] ∧ Blk wz gt 24 #[.bool sa, .slice Ax na cx, .slice Bx ma dx]) ?_ ?_
            · as_aux_lemma =>
                rintro a' wz ⟨v43, v45, v48, v51, gs, gt, rfl, hB, o43, o45, o48, o51, Zs, Zt⟩
                try simp only [Act.put, List.getElem_toArray, List.getElem_cons_succ, List.getElem_cons_zero, List.setIfInBounds_toArray, List.set_cons_zero, List.set_cons_succ]
                refine wpAnyH_ready (rs := [12]) (by kernel_rfl) (by simp) ?_
                refine AllReadyH.cons rfl (fun K hK => ?_) AllReadyH.nil
                go_simp
                have hqx := hqx.below hB
                have hqy := hqy.below hB
                refine (mulO _ _ qx qy 12 _ hqx hqy (by decide)).mono ?_
                rintro e wn ⟨v54, rfl, o54, hc⟩
                have o54 := (o54.lower (Nat.le_trans hN6 hB.size)).owf (by decide)
                go_wp2_with fail
                refine hK.out _ _ (hKeep.out _ (hB.trans (hc.mono hB.size))) (fun _ => ?_)
                clear hK K
                try simp only [Act.put, List.getElem_toArray, List.getElem_cons_succ, List.getElem_cons_zero, List.setIfInBounds_toArray, List.set_cons_zero, List.set_cons_succ]
                refine key511.out _ _ ⟨v43, v45, v48, v51, v54, gs, gt, ?_, hB.trans (hc.mono hB.size), o43.below hc, o45.below hc, o48.below hc, o51.below hc, o54, Zs.below hc, Zt.below hc⟩
                simp only [Act.put, List.getElem_toArray, List.getElem_cons_succ, List.getElem_cons_zero, List.setIfInBounds_toArray, List.set_cons_zero, List.set_cons_succ]
            intro key411
            have key411 := Lib.hid key411
            refine share_state (fuel' := 6) (listed' := #[true, true, true, true, true, true, true, true, true, true, true, true, false, true, true, true, false, true, false, false, false, false]) (fun (a0 a' : Act) (wz : World) => ∃ (v43 v45 v48 v51 : Value) (gs : Nat), a' = (((((a0.put (some 43) (v43)).put (some 45) (v45)).put (some 48) (v48)).put (some 51) (v51)).put (some 57) (.slice (some ⟨gs, 0, none⟩) 1 1)) ∧ Below w6.heap.size w6 wz ∧ OwF N wz v43 ∧ OwF N wz v45 ∧ OwF N wz v48 ∧ OwF N wz v51 ∧ Blk wz gs 24 #[.bool sa, .slice Ax na cx, .slice Bx ma dx]) ?_ ?_
            · as_aux_lemma =>
                rintro a' wz ⟨v43, v45, v48, v51, gs, rfl, hB, o43, o45, o48, o51, Zs⟩
                try simp only [Act.put, List.getElem_toArray, List.getElem_cons_succ, List.getElem_cons_zero, List.setIfInBounds_toArray, List.set_cons_zero, List.set_cons_succ]
                refine wpAnyH_ready (rs := [12, 18]) (by kernel_rfl) (by simp) ?_
                refine AllReadyH.cons rfl (fun K hK => ?_) ?_
                · skip
                  go_simp
                  have hqx := hqx.below hB
                  have hqy := hqy.below hB
                  refine (mulO _ _ qx qy 12 _ hqx hqy (by decide)).mono ?_
                  rintro e wn ⟨v54, rfl, o54, hc⟩
                  have o54 := (o54.lower (Nat.le_trans hN6 hB.size)).owf (by decide)
                  go_wp2_with fail
                  refine hK.out _ _ (hKeep.out _ (hB.trans (hc.mono hB.size))) (fun _ => ?_)
                  clear hK K
                  try simp only [Act.put, List.getElem_toArray, List.getElem_cons_succ, List.getElem_cons_zero, List.setIfInBounds_toArray, List.set_cons_zero, List.set_cons_succ]
                  refine key510.out _ _ ⟨v43, v45, v48, v51, v54, gs, ?_, hB.trans (hc.mono hB.size), o43.below hc, o45.below hc, o48.below hc, o51.below hc, o54, Zs.below hc⟩
                  simp only [Act.put, List.getElem_toArray, List.getElem_cons_succ, List.getElem_cons_zero, List.setIfInBounds_toArray, List.set_cons_zero, List.set_cons_succ]
                refine AllReadyH.cons rfl (fun K hK => ?_) AllReadyH.nil
                go_simp
                refine hK.out _ _ (hKeep.out _ (hB.alloc hB.size _)) (fun _ => ?_)
                clear hK K
                try simp only [Act.put, List.getElem_toArray, List.getElem_cons_succ, List.getElem_cons_zero, List.setIfInBounds_toArray, List.set_cons_zero, List.set_cons_succ]
                have hal := (Below.refl (wz : World).heap.size wz).alloc (Nat.le_refl _) (.cells #[.bool sa, .slice Ax na cx, .slice Bx ma dx] 24)
                refine key411.out _ _ ⟨v43, v45, v48, v51, gs, wz.heap.size, ?_, hB.alloc hB.size _, o43.below hal, o45.below hal, o48.below hal, o51.below hal, Zs.below hal, Blk.new _ _ _⟩
                simp only [Act.put, List.getElem_toArray, List.getElem_cons_succ, List.getElem_cons_zero, List.setIfInBounds_toArray, List.set_cons_zero, List.set_cons_succ]
            intro key410
            have key410 := Lib.hid key410
            refine share_state (fuel' := 6) (listed' := #[true, true, true, true, true, true, true, true, true, true, true, true, false, true, true, false, false, true, true, false, false, false]) (fun (a0 a' : Act) (wz : World) => ∃ (v43 v45 v48 v51 : Value) (gt : Nat), a' = (((((a0.put (some 43) (v43)).put (some 45) (v45)).put (some 48) (v48)).put (some 51) (v51)).put (some 60) (.slice (some ⟨gt, 0, none⟩) 1 1)) ∧ Below w6.heap.size w6 wz ∧ OwF N wz v43 ∧ OwF N wz v45 ∧ OwF N wz v48 ∧ OwF N wz v51 ∧ Blk wz gt 24 #[.bool sa, .slice Ax na cx, .slice Bx ma dx]) ?_ ?_
            · as_aux_lemma =>
                rintro a' wz ⟨v43, v45, v48, v51, gt, rfl, hB, o43, o45, o48, o51, Zt⟩
                try simp only [Act.put, List.getElem_toArray, List.getElem_cons_succ, List.getElem_cons_zero, List.setIfInBounds_toArray, List.set_cons_zero, List.set_cons_succ]
                refine wpAnyH_ready (rs := [12, 15]) (by kernel_rfl) (by simp) ?_
                refine AllReadyH.cons rfl (fun K hK => ?_) ?_
                · skip
                  go_simp
                  have hqx := hqx.below hB
                  have hqy := hqy.below hB
                  refine (mulO _ _ qx qy 12 _ hqx hqy (by decide)).mono ?_
                  rintro e wn ⟨v54, rfl, o54, hc⟩
                  have o54 := (o54.lower (Nat.le_trans hN6 hB.size)).owf (by decide)
                  go_wp2_with fail
                  refine hK.out _ _ (hKeep.out _ (hB.trans (hc.mono hB.size))) (fun _ => ?_)
                  clear hK K
                  try simp only [Act.put, List.getElem_toArray, List.getElem_cons_succ, List.getElem_cons_zero, List.setIfInBounds_toArray, List.set_cons_zero, List.set_cons_succ]
                  refine key501.out _ _ ⟨v43, v45, v48, v51, v54, gt, ?_, hB.trans (hc.mono hB.size), o43.below hc, o45.below hc, o48.below hc, o51.below hc, o54, Zt.below hc⟩
                  simp only [Act.put, List.getElem_toArray, List.getElem_cons_succ, List.getElem_cons_zero, List.setIfInBounds_toArray, List.set_cons_zero, List.set_cons_succ]
                refine AllReadyH.cons rfl (fun K hK => ?_) AllReadyH.nil
                go_simp
                refine hK.out _ _ (hKeep.out _ (hB.alloc hB.size _)) (fun _ => ?_)
                clear hK K
                try simp only [Act.put, List.getElem_toArray, List.getElem_cons_succ, List.getElem_cons_zero, List.setIfInBounds_toArray, List.set_cons_zero, List.set_cons_succ]
                have hal := (Below.refl (wz : World).heap.size wz).alloc (Nat.le_refl _) (.cells #[.bool sa, .slice Ax na cx, .slice Bx ma dx] 24)
                refine key411.out _ _ ⟨v43, v45, v48, v51, wz.heap.size, gt, ?_, hB.alloc hB.size _, o43.below hal, o45.below hal, o48.below hal, o51.below hal, Blk.new _ _ _, Zt.below hal⟩
                simp only [Act.put, List.getElem_toArray, List.getElem_cons_succ, List.getElem_cons_zero, List.setIfInBounds_toArray, List.set_cons_zero, List.set_cons_succ]
            intro key401
            have key401 := Lib.hid key401
            refine share_state (fuel' := 7) (listed' := #[true, true, true, true, true, true, true, true, true, true, true, true, false, true, true, false, false, true, false, false, false, false]) (fun (a0 a' : Act) (wz : World) => ∃ (v43 v45 v48 v51 : Value), a' = ((((a0.put (some 43) (v43)).put (some 45) (v45)).put (some 48) (v48)).put (some 51) (v51)) ∧ Below w6.heap.size w6 wz ∧ OwF N wz v43 ∧ OwF N wz v45 ∧ OwF N wz v48 ∧ OwF N wz v51) ?_ ?_
            · as_aux_lemma =>
                rintro a' wz ⟨v43, v45, v48, v51, rfl, hB, o43, o45, o48, o51⟩
                try simp only [Act.put, List.getElem_toArray, List.getElem_cons_succ, List.getElem_cons_zero, List.setIfInBounds_toArray, List.set_cons_zero, List.set_cons_succ]
                refine wpAnyH_ready (rs := [12, 15, 18]) (by kernel_rfl) (by simp) ?_
                refine AllReadyH.cons rfl (fun K hK => ?_) ?_
                · skip
                  go_simp
                  have hqx := hqx.below hB
                  have hqy := hqy.below hB
                  refine (mulO _ _ qx qy 12 _ hqx hqy (by decide)).mono ?_
                  rintro e wn ⟨v54, rfl, o54, hc⟩
                  have o54 := (o54.lower (Nat.le_trans hN6 hB.size)).owf (by decide)
                  go_wp2_with fail
                  refine hK.out _ _ (hKeep.out _ (hB.trans (hc.mono hB.size))) (fun _ => ?_)
                  clear hK K
                  try simp only [Act.put, List.getElem_toArray, List.getElem_cons_succ, List.getElem_cons_zero, List.setIfInBounds_toArray, List.set_cons_zero, List.set_cons_succ]
                  refine key500.out _ _ ⟨v43, v45, v48, v51, v54, ?_, hB.trans (hc.mono hB.size), o43.below hc, o45.below hc, o48.below hc, o51.below hc, o54⟩
                  simp only [Act.put, List.getElem_toArray, List.getElem_cons_succ, List.getElem_cons_zero, List.setIfInBounds_toArray, List.set_cons_zero, List.set_cons_succ]
                refine AllReadyH.cons rfl (fun K hK => ?_) ?_
                · skip
                  go_simp
                  refine hK.out _ _ (hKeep.out _ (hB.alloc hB.size _)) (fun _ => ?_)
                  clear hK K
                  try simp only [Act.put, List.getElem_toArray, List.getElem_cons_succ, List.getElem_cons_zero, List.setIfInBounds_toArray, List.set_cons_zero, List.set_cons_succ]
                  have hal := (Below.refl (wz : World).heap.size wz).alloc (Nat.le_refl _) (.cells #[.bool sa, .slice Ax na cx, .slice Bx ma dx] 24)
                  refine key410.out _ _ ⟨v43, v45, v48, v51, wz.heap.size, ?_, hB.alloc hB.size _, o43.below hal, o45.below hal, o48.below hal, o51.below hal, Blk.new _ _ _⟩
                  simp only [Act.put, List.getElem_toArray, List.getElem_cons_succ, List.getElem_cons_zero, List.setIfInBounds_toArray, List.set_cons_zero, List.set_cons_succ]
                refine AllReadyH.cons rfl (fun K hK => ?_) AllReadyH.nil
                go_simp
                refine hK.out _ _ (hKeep.out _ (hB.alloc hB.size _)) (fun _ => ?_)
                clear hK K
                try simp only [Act.put, List.getElem_toArray, List.getElem_cons_succ, List.getElem_cons_zero, List.setIfInBounds_toArray, List.set_cons_zero, List.set_cons_succ]
                have hal := (Below.refl (wz : World).heap.size wz).alloc (Nat.le_refl _) (.cells #[.bool sa, .slice Ax na cx, .slice Bx ma dx] 24)
                refine key401.out _ _ ⟨v43, v45, v48, v51, wz.heap.size, ?_, hB.alloc hB.size _, o43.below hal, o45.below hal, o48.below hal, o51.below hal, Blk.new _ _ _⟩
                simp only [Act.put, List.getElem_toArray, List.getElem_cons_succ, List.getElem_cons_zero, List.setIfInBounds_toArray, List.set_cons_zero, List.set_cons_succ]
            intro key400
            have key400 := Lib.hid key400
            refine share_state (fuel' := 6) (listed' := #[true, true, true, true, true, true, true, true, true, false, true, true, false, true, true, true, false, true, true, false, false, false]) (fun (a0 a' : Act) (wz : World) => ∃ (v43 v45 v48 : Value) (gs gt : Nat), a' = (((((a0.put (some 43) (v43)).put (some 45) (v45)).put (some 48) (v48)).put (some 57) (.slice (some ⟨gs, 0, none⟩) 1 1)).put (some 60) (.slice (some ⟨gt, 0, none⟩) 1 1)) ∧ Below w6.heap.size w6 wz ∧ OwF N wz v43 ∧ OwF N wz v45 ∧ OwF N wz v48 ∧ Blk wz gs 24 #[.bool sa, .slice Ax na cx, .slice Bx ma dx] ∧ Blk wz gt 24 #[.bool sa, .slice Ax na cx, .slice Bx ma dx]) ?_ ?_
            · as_aux_lemma =>
                rintro a' wz ⟨v43, v45, v48, gs, gt, rfl, hB, o43, o45, o48, Zs, Zt⟩
                try simp only [Act.put, List.getElem_toArray, List.getElem_cons_succ, List.getElem_cons_zero, List.setIfInBounds_toArray, List.set_cons_zero, List.set_cons_succ]
                refine wpAnyH_ready (rs := [9]) (by kernel_rfl) (by simp) ?_
                refine AllReadyH.cons rfl (fun K hK => ?_) AllReadyH.nil
                go_simp
                have hqx := hqx.below hB
                have hqy := hqy.below hB
                refine (subO _ _ qx qy 12 _ hqx hqy (by decide)).mono ?_
                rintro e wn ⟨v51, rfl, o51, hc⟩
                have o51 := (o51.lower (Nat.le_trans hN6 hB.size)).owf (by decide)
                go_wp2_with fail
                refine hK.out _ _ (hKeep.out _ (hB.trans (hc.mono hB.size))) (fun _ => ?_)
                clear hK K
                try simp only [Act.put, List.getElem_toArray, List.getElem_cons_succ, List.getElem_cons_zero, List.setIfInBounds_toArray, List.set_cons_zero, List.set_cons_succ]
                refine key411.out _ _ ⟨v43, v45, v48, v51, gs, gt, ?_, hB.trans (hc.mono hB.size), o43.below hc, o45.below hc, o48.below hc, o51, Zs.below hc, Zt.below hc⟩
                simp only [Act.put, List.getElem_toArray, List.getElem_cons_succ, List.getElem_cons_zero, List.setIfInBounds_toArray, List.set_cons_zero, List.set_cons_succ]
            intro key311
            have key311 := Lib.hid key311
            refine share_state (fuel' := 7) (listed' := #[true, true, true, true, true, true, true, true, true, false, true, true, false, true, true, true, false, true, false, false, false, false]) (fun (a0 a' : Act) (wz : World) => ∃ (v43 v45 v48 : Value) (gs : Nat), a' = ((((a0.put (some 43) (v43)).put (some 45) (v45)).put (some 48) (v48)).put (some 57) (.slice (some ⟨gs, 0, none⟩) 1 1)) ∧ Below w6.heap.size w6 wz ∧ OwF N wz v43 ∧ OwF N wz v45 ∧ OwF N wz v48 ∧ Blk wz gs 24 #[.bool sa, .slice Ax na cx, .slice Bx ma dx]) ?_ ?_
            · as_aux_lemma =>
                rintro a' wz ⟨v43, v45, v48, gs, rfl, hB, o43, o45, o48, Zs⟩
                try simp only [Act.put, List.getElem_toArray, List.getElem_cons_succ, List.getElem_cons_zero, List.setIfInBounds_toArray, List.set_cons_zero, List.set_cons_succ]
                refine wpAnyH_ready (rs := [9, 18]) (by kernel_rfl) (by simp) ?_
                refine AllReadyH.cons rfl (fun K hK => ?_) ?_
                · skip
                  go_simp
                  have hqx := hqx.below hB
                  have hqy := hqy.below hB
                  refine (subO _ _ qx qy 12 _ hqx hqy (by decide)).mono ?_
                  rintro e wn ⟨v51, rfl, o51, hc⟩
                  have o51 := (o51.lower (Nat.le_trans hN6 hB.size)).owf (by decide)
                  go_wp2_with fail
                  refine hK.out _ _ (hKeep.out _ (hB.trans (hc.mono hB.size))) (fun _ => ?_)
                  clear hK K
                  try simp only [Act.put, List.getElem_toArray, List.getElem_cons_succ, List.getElem_cons_zero, List.setIfInBounds_toArray, List.set_cons_zero, List.set_cons_succ]
                  refine key410.out _ _ ⟨v43, v45, v48, v51, gs, ?_, hB.trans (hc.mono hB.size), o43.below hc, o45.below hc, o48.below hc, o51, Zs.below hc⟩
                  simp only [Act.put, List.getElem_toArray, List.getElem_cons_succ, List.getElem_cons_zero, List.setIfInBounds_toArray, List.set_cons_zero, List.set_cons_succ]
                refine AllReadyH.cons rfl (fun K hK => ?_) AllReadyH.nil
                go_simp
                refine hK.out _ _ (hKeep.out _ (hB.alloc hB.size _)) (fun _ => ?_)
                clear hK K
                try simp only [Act.put, List.getElem_toArray, List.getElem_cons_succ, List.getElem_cons_zero, List.setIfInBounds_toArray, List.set_cons_zero, List.set_cons_succ]
                have hal := (Below.refl (wz : World).heap.size wz).alloc (Nat.le_refl _) (.cells #[.bool sa, .slice Ax na cx, .slice Bx ma dx] 24)
                refine key311.out _ _ ⟨v43, v45, v48, gs, wz.heap.size, ?_, hB.alloc hB.size _, o43.below hal, o45.below hal, o48.below hal, Zs.below hal, Blk.new _ _ _⟩
                simp only [Act.put, List.getElem_toArray, List.getElem_cons_succ, List.getElem_cons_zero, List.setIfInBounds_toArray, List.set_cons_zero, List.set_cons_succ]
            intro key310
            have key310 := Lib.hid key310
            refine share_state (fuel' := 7) (listed' := #[true, true, true, true, true, true, true, true, true, false, true, true, false, true, true, false, false, true, true, false, false, false]) (fun (a0 a' : Act) (wz : World) => ∃ (v43 v45 v48 : Value) (gt : Nat), a' = ((((a0.put (some 43) (v43)).put (some 45) (v45)).put (some 48) (v48)).put (some 60) (.slice (some ⟨gt, 0, none⟩) 1 1)) ∧ Below w6.heap.size w6 wz ∧ OwF N wz v43 ∧ OwF N wz v45 ∧ OwF N wz v48 ∧ Blk wz gt 24 #[.bool sa, .slice Ax na cx, .slice Bx ma dx]) ?_ ?_
            · as_aux_lemma =>
                rintro a' wz ⟨v43, v45, v48, gt, rfl, hB, o43, o45, o48, Zt⟩
                try simp only [Act.put, List.getElem_toArray, List.getElem_cons_succ, List.getElem_cons_zero, List.setIfInBounds_toArray, List.set_cons_zero, List.set_cons_succ]
                refine wpAnyH_ready (rs := [9, 15]) (by kernel_rfl) (by simp) ?_
                refine AllReadyH.cons rfl (fun K hK => ?_) ?_
                · skip
                  go_simp
                  have hqx := hqx.below hB
                  have hqy := hqy.below hB
                  refine (subO _ _ qx qy 12 _ hqx hqy (by decide)).mono ?_
                  rintro e wn ⟨v51, rfl, o51, hc⟩
                  have o51 := (o51.lower (Nat.le_trans hN6 hB.size)).owf (by decide)
                  go_wp2_with fail
                  refine hK.out _ _ (hKeep.out _ (hB.trans (hc.mono hB.size))) (fun _ => ?_)
                  clear hK K
                  try simp only [Act.put, List.getElem_toArray, List.getElem_cons_succ, List.getElem_cons_zero, List.setIfInBounds_toArray, List.set_cons_zero, List.set_cons_succ]
                  refine key401.out _ _ ⟨v43, v45, v48, v51, gt, ?_, hB.trans (hc.mono hB.size), o43.below hc, o45.below hc, o48.below hc, o51, Zt.below hc⟩
                  simp only [Act.put, List.getElem_toArray, List.getElem_cons_succ, List.getElem_cons_zero, List.setIfInBounds_toArray, List.set_cons_zero, List.set_cons_succ]
                refine AllReadyH.cons rfl (fun K hK => ?_) AllReadyH.nil
                go_simp
                refine hK.out _ _ (hKeep.out _ (hB.alloc hB.size _)) (fun _ => ?_)
                clear hK K
                try simp only [Act.put, List.getElem_toArray, List.getElem_cons_succ, List.getElem_cons_zero, List.setIfInBounds_toArray, List.set_cons_zero, List.set_cons_succ]
                have hal := (Below.refl (wz : World).heap.size wz).alloc (Nat.le_refl _) (.cells #[.bool sa, .slice Ax na cx, .slice Bx ma dx] 24)
                refine key311.out _ _ ⟨v43, v45, v48, wz.heap.size, gt, ?_, hB.alloc hB.size _, o43.below hal, o45.below hal, o48.below hal, Blk.new _ _ _, Zt.below hal⟩
                simp only [Act.put, List.getElem_toArray, List.getElem_cons_succ, List.getElem_cons_zero, List.setIfInBounds_toArray, List.set_cons_zero, List.set_cons_succ]
            intro key301
            have key301 := Lib.hid key301
            refine share_state (fuel' := 8) (listed' := #[true, true, true, true, true, true, true, true, true, false, true, true, false, true, true, false, false, true, false, false, false, false]) (fun (a0 a' : Act) (wz : World) => ∃ (v43 v45 v48 : Value), a' = (((a0.put (some 43) (v43)).put (some 45) (v45)).put (some 48) (v48)) ∧ Below w6.heap.size w6 wz ∧ OwF N wz v43 ∧ OwF N wz v45 ∧ OwF N wz v48) ?_ ?_
            · as_aux_lemma =>
                rintro a' wz ⟨v43, v45, v48, rfl, hB, o43, o45, o48⟩
                try simp only [Act.put, List.getElem_toArray, List.getElem_cons_succ, List.getElem_cons_zero, List.setIfInBounds_toArray, List.set_cons_zero, List.set_cons_succ]
                refine wpAnyH_ready (rs := [9, 15, 18]) (by kernel_rfl) (by simp) ?_
                refine AllReadyH.cons rfl (fun K hK => ?_) ?_
                · skip
                  go_simp
                  have hqx := hqx.below hB
                  have hqy := hqy.below hB
                  refine (subO _ _ qx qy 12 _ hqx hqy (by decide)).mono ?_
                  rintro e wn ⟨v51, rfl, o51, hc⟩
                  have o51 := (o51.lower (Nat.le_trans hN6 hB.size)).owf (by decide)
                  go_wp2_with fail
                  refine hK.out _ _ (hKeep.out _ (hB.trans (hc.mono hB.size))) (fun _ => ?_)
                  clear hK K
                  try simp only [Act.put, List.getElem_toArray, List.getElem_cons_succ, List.getElem_cons_zero, List.setIfInBounds_toArray, List.set_cons_zero, List.set_cons_succ]
                  refine key400.out _ _ ⟨v43, v45, v48, v51, ?_, hB.trans (hc.mono hB.size), o43.below hc, o45.below hc, o48.below hc, o51⟩
                  simp only [Act.put, List.getElem_toArray, List.getElem_cons_succ, List.getElem_cons_zero, List.setIfInBounds_toArray, List.set_cons_zero, List.set_cons_succ]
                refine AllReadyH.cons rfl (fun K hK => ?_) ?_
                · skip
                  go_simp
                  refine hK.out _ _ (hKeep.out _ (hB.alloc hB.size _)) (fun _ => ?_)
                  clear hK K
                  try simp only [Act.put, List.getElem_toArray, List.getElem_cons_succ, List.getElem_cons_zero, List.setIfInBounds_toArray, List.set_cons_zero, List.set_cons_succ]
                  have hal := (Below.refl (wz : World).heap.size wz).alloc (Nat.le_refl _) (.cells #[.bool sa, .slice Ax na cx, .slice Bx ma dx] 24)
                  refine key310.out _ _ ⟨v43, v45, v48, wz.heap.size, ?_, hB.alloc hB.size _, o43.below hal, o45.below hal, o48.below hal, Blk.new _ _ _⟩
                  simp only [Act.put, List.getElem_toArray, List.getElem_cons_succ, List.getElem_cons_zero, List.setIfInBounds_toArray, List.set_cons_zero, List.set_cons_succ]
                refine AllReadyH.cons rfl (fun K hK => ?_) AllReadyH.nil
                go_simp
                refine hK.out _ _ (hKeep.out _ (hB.alloc hB.size _)) (fun _ => ?_)
                clear hK K
                try simp only [Act.put, List.getElem_toArray, List.getElem_cons_succ, List.getElem_cons_zero, List.setIfInBounds_toArray, List.set_cons_zero, List.set_cons_succ]
                have hal := (Below.refl (wz : World).heap.size wz).alloc (Nat.le_refl _) (.cells #[.bool sa, .slice Ax na cx, .slice Bx ma dx] 24)
                refine key301.out _ _ ⟨v43, v45, v48, wz.heap.size, ?_, hB.alloc hB.size _, o43.below hal, o45.below hal, o48.below hal, Blk.new _ _ _⟩
                simp only [Act.put, List.getElem_toArray, List.getElem_cons_succ, List.getElem_cons_zero, List.setIfInBounds_toArray, List.set_cons_zero, List.set_cons_succ]
            intro key300
            have key300 := Lib.hid key300
            refine share_state (fuel' := 7) (listed' := #[true, true, true, true, true, true, false, true, true, false, true, true, false, true, true, true, false, true, true, false, false, false]) (fun (a0 a' : Act) (wz : World) => ∃ (v43 v45 : Value) (gs gt : Nat), a' = ((((a0.put (some 43) (v43)).put (some 45) (v45)).put (some 57) (.slice (some ⟨gs, 0, none⟩) 1 1)).put (some 60) (.slice (some ⟨gt, 0, none⟩) 1 1)) ∧ Below w6.heap.size w6 wz ∧ OwF N wz v43 ∧ OwF N wz v45 ∧ Blk wz gs 24 #[.bool sa, .slice Ax na cx, .slice Bx ma dx] ∧ Blk wz gt 24 #[.bool sa, .slice Ax na cx, .slice Bx ma dx]) ?_ ?_
            · as_aux_lemma =>
                rintro a' wz ⟨v43, v45, gs, gt, rfl, hB, o43, o45, Zs, Zt⟩
                try simp only [Act.put, List.getElem_toArray, List.getElem_cons_succ, List.getElem_cons_zero, List.setIfInBounds_toArray, List.set_cons_zero, List.set_cons_succ]
                refine wpAnyH_ready (rs := [6]) (by kernel_rfl) (by simp) ?_
                refine AllReadyH.cons rfl (fun K hK => ?_) AllReadyH.nil
                go_simp
                have hqx := hqx.below hB
                have hqy := hqy.below hB
                refine (addO _ _ qx qy 12 _ hqx hqy (by decide)).mono ?_
                rintro e wn ⟨v48, rfl, o48, hc⟩
                have o48 := (o48.lower (Nat.le_trans hN6 hB.size)).owf (by decide)
                go_wp2_with fail
                refine hK.out _ _ (hKeep.out _ (hB.trans (hc.mono hB.size))) (fun _ => ?_)
                clear hK K
                try simp only [Act.put, List.getElem_toArray, List.getElem_cons_succ, List.getElem_cons_zero, List.setIfInBounds_toArray, List.set_cons_zero, List.set_cons_succ]
                refine key311.out _ _ ⟨v43, v45, v48, gs, gt, ?_, hB.trans (hc.mono hB.size), o43.below hc, o45.below hc, o48, Zs.below hc, Zt.below hc⟩
                simp only [Act.put, List.getElem_toArray, List.getElem_cons_succ, List.getElem_cons_zero, List.setIfInBounds_toArray, List.set_cons_zero, List.set_cons_succ]
            intro key211
            have key211 := Lib.hid key211
            refine share_state (fuel' := 8) (listed' := #[true, true, true, true, true, true, false, true, true, false, true, true, false, true, true, true, false, true, false, false, false, false]) (fun (a0 a' : Act) (wz : World) => ∃ (v43 v45 : Value) (gs : Nat), a' = (((a0.put (some 43) (v43)).put (some 45) (v45)).put (some 57) (.slice (some ⟨gs, 0, none⟩) 1 1)) ∧ Below w6.heap.size w6 wz ∧ OwF N wz v43 ∧ OwF N wz v45 ∧ Blk wz gs 24 #[.bool sa, .slice Ax na cx, .slice Bx ma dx]) ?_ ?_
            · as_aux_lemma =>
                rintro a' wz ⟨v43, v45, gs, rfl, hB, o43, o45, Zs⟩
                try simp only [Act.put, List.getElem_toArray, List.getElem_cons_succ, List.getElem_cons_zero, List.setIfInBounds_toArray, List.set_cons_zero, List.set_cons_succ]
                refine wpAnyH_ready (rs := [6, 18]) (by kernel_rfl) (by simp) ?_
                refine AllReadyH.cons rfl (fun K hK => ?_) ?_
                · skip
                  go_simp
                  have hqx := hqx.below hB
                  have hqy := hqy.below hB
                  refine (addO _ _ qx qy 12 _ hqx hqy (by decide)).mono ?_
                  rintro e wn ⟨v48, rfl, o48, hc⟩
                  have o48 := (o48.lower (Nat.le_trans hN6 hB.size)).owf (by decide)
                  go_wp2_with fail
                  refine hK.out _ _ (hKeep.out _ (hB.trans (hc.mono hB.size))) (fun _ => ?_)
                  clear hK K
                  try simp only [Act.put, List.getElem_toArray, List.getElem_cons_succ, List.getElem_cons_zero, List.setIfInBounds_toArray, List.set_cons_zero, List.set_cons_succ]
                  refine key310.out _ _ ⟨v43, v45, v48, gs, ?_, hB.trans (hc.mono hB.size), o43.below hc, o45.below hc, o48, Zs.below hc⟩
                  simp only [Act.put, List.getElem_toArray, List.getElem_cons_succ, List.getElem_cons_zero, List.setIfInBounds_toArray, List.set_cons_zero, List.set_cons_succ]
                refine AllReadyH.cons rfl (fun K hK => ?_) AllReadyH.nil
                go_simp
                refine hK.out _ _ (hKeep.out _ (hB.alloc hB.size _)) (fun _ => ?_)
                clear hK K
                try simp only [Act.put, List.getElem_toArray, List.getElem_cons_succ, List.getElem_cons_zero, List.setIfInBounds_toArray, List.set_cons_zero, List.set_cons_succ]
                have hal := (Below.refl (wz : World).heap.size wz).alloc (Nat.le_refl _) (.cells #[.bool sa, .slice Ax na cx, .slice Bx ma dx] 24)
                refine key211.out _ _ ⟨v43, v45, gs, wz.heap.size, ?_, hB.alloc hB.size _, o43.below hal, o45.below hal, Zs.below hal, Blk.new _ _ _⟩
                simp only [Act.put, List.getElem_toArray, List.getElem_cons_succ, List.getElem_cons_zero, List.setIfInBounds_toArray, List.set_cons_zero, List.set_cons_succ]
            intro key210
            have key210 := Lib.hid key210
            refine share_state (fuel' := 8) (listed' := #[true, true, true, true, true, true, false, true, true, false, true, true, false, true, true, false, false, true, true, false, false, false]) (fun (a0 a' : Act) (wz : World) => ∃ (v43 v45 : Value) (gt : Nat), a' = (((a0.put (some 43) (v43)).put (some 45) (v45)).put (some 60) (.slice (some ⟨gt, 0, none⟩) 1 1)) ∧ Below w6.heap.size w6 wz ∧ OwF N wz v43 ∧ OwF N wz v45 ∧ Blk wz gt 24 #[.bool sa, .slice Ax na cx, .slice Bx ma dx]) ?_ ?_
            · as_aux_lemma =>
                rintro a' wz ⟨v43, v45, gt, rfl, hB, o43, o45, Zt⟩
                try simp only [Act.put, List.getElem_toArray, List.getElem_cons_succ, List.getElem_cons_zero, List.setIfInBounds_toArray, List.set_cons_zero, List.set_cons_succ]
                refine wpAnyH_ready (rs := [6, 15]) (by kernel_rfl) (by simp) ?_
                refine AllReadyH.cons rfl (fun K hK => ?_) ?_
                · skip
                  go_simp
                  have hqx := hqx.below hB
                  have hqy := hqy.below hB
                  refine (addO _ _ qx qy 12 _ hqx hqy (by decide)).mono ?_
                  rintro e wn ⟨v48, rfl, o48, hc⟩
                  have o48 := (o48.lower (Nat.le_trans hN6 hB.size)).owf (by decide)
                  go_wp2_with fail
                  refine hK.out _ _ (hKeep.out _ (hB.trans (hc.mono hB.size))) (fun _ => ?_)
                  clear hK K
                  try simp only [Act.put, List.getElem_toArray, List.getElem_cons_succ, List.getElem_cons_zero, List.setIfInBounds_toArray, List.set_cons_zero, List.set_cons_succ]
                  refine key301.out _ _ ⟨v43, v45, v48, gt, ?_, hB.trans (hc.mono hB.size), o43.below hc, o45.below hc, o48, Zt.below hc⟩
                  simp only [Act.put, List.getElem_toArray, List.getElem_cons_succ, List.getElem_cons_zero, List.setIfInBounds_toArray, List.set_cons_zero, List.set_cons_succ]
                refine AllReadyH.cons rfl (fun K hK => ?_) AllReadyH.nil
                go_simp
                refine hK.out _ _ (hKeep.out _ (hB.alloc hB.size _)) (fun _ => ?_)
                clear hK K
                try simp only [Act.put, List.getElem_toArray, List.getElem_cons_succ, List.getElem_cons_zero, List.setIfInBounds_toArray, List.set_cons_zero, List.set_cons_succ]
                have hal := (Below.refl (wz : World).heap.size wz).alloc (Nat.le_refl _) (.cells #[.bool sa, .slice Ax na cx, .slice Bx ma dx] 24)
                refine key211.out _ _ ⟨v43, v45, wz.heap.size, gt, ?_, hB.alloc hB.size _, o43.below hal, o45.below hal, Blk.new _ _ _, Zt.below hal⟩
                simp only [Act.put, List.getElem_toArray, List.getElem_cons_succ, List.getElem_cons_zero, List.setIfInBounds_toArray, List.set_cons_zero, List.set_cons_succ]
            intro key201
            have key201 := Lib.hid key201
            refine share_state (fuel' := 9) (listed' := #[true, true, true, true, true, true, false, true, true, false, true, true, false, true, true, false, false, true, false, false, false, false]) (fun (a0 a' : Act) (wz : World) => ∃ (v43 v45 : Value), a' = ((a0.put (some 43) (v43)).put (some 45) (v45)) ∧ Below w6.heap.size w6 wz ∧ OwF N wz v43 ∧ OwF N wz v45) ?_ ?_
            · as_aux_lemma =>
                rintro a' wz ⟨v43, v45, rfl, hB, o43, o45⟩
                try simp only [Act.put, List.getElem_toArray, List.getElem_cons_succ, List.getElem_cons_zero, List.setIfInBounds_toArray, List.set_cons_zero, List.set_cons_succ]
                refine wpAnyH_ready (rs := [6, 15, 18]) (by kernel_rfl) (by simp) ?_
                refine AllReadyH.cons rfl (fun K hK => ?_) ?_
                · skip
                  go_simp
                  have hqx := hqx.below hB
                  have hqy := hqy.below hB
                  refine (addO _ _ qx qy 12 _ hqx hqy (by decide)).mono ?_
                  rintro e wn ⟨v48, rfl, o48, hc⟩
                  have o48 := (o48.lower (Nat.le_trans hN6 hB.size)).owf (by decide)
                  go_wp2_with fail
                  refine hK.out _ _ (hKeep.out _ (hB.trans (hc.mono hB.size))) (fun _ => ?_)
                  clear hK K
                  try simp only [Act.put, List.getElem_toArray, List.getElem_cons_succ, List.getElem_cons_zero, List.setIfInBounds_toArray, List.set_cons_zero, List.set_cons_succ]
                  refine key300.out _ _ ⟨v43, v45, v48, ?_, hB.trans (hc.mono hB.size), o43.below hc, o45.below hc, o48⟩
                  simp only [Act.put, List.getElem_toArray, List.getElem_cons_succ, List.getElem_cons_zero, List.setIfInBounds_toArray, List.set_cons_zero, List.set_cons_succ]
                refine AllReadyH.cons rfl (fun K hK => ?_) ?_
                · skip
                  go_simp
                  refine hK.out _ _ (hKeep.out _ (hB.alloc hB.size _)) (fun _ => ?_)
                  clear hK K
                  try simp only [Act.put, List.getElem_toArray, List.getElem_cons_succ, List.getElem_cons_zero, List.setIfInBounds_toArray, List.set_cons_zero, List.set_cons_succ]
                  have hal := (Below.refl (wz : World).heap.size wz).alloc (Nat.le_refl _) (.cells #[.bool sa, .slice Ax na cx, .slice Bx ma dx] 24)
                  refine key210.out _ _ ⟨v43, v45, wz.heap.size, ?_, hB.alloc hB.size _, o43.below hal, o45.below hal, Blk.new _ _ _⟩
                  simp only [Act.put, List.getElem_toArray, List.getElem_cons_succ, List.getElem_cons_zero, List.setIfInBounds_toArray, List.set_cons_zero, List.set_cons_succ]
                refine AllReadyH.cons rfl (fun K hK => ?_) AllReadyH.nil
                go_simp
                refine hK.out _ _ (hKeep.out _ (hB.alloc hB.size _)) (fun _ => ?_)
                clear hK K
                try simp only [Act.put, List.getElem_toArray, List.getElem_cons_succ, List.getElem_cons_zero, List.setIfInBounds_toArray, List.set_cons_zero, List.set_cons_succ]
                have hal := (Below.refl (wz : World).heap.size wz).alloc (Nat.le_refl _) (.cells #[.bool sa, .slice Ax na cx, .slice Bx ma dx] 24)
                refine key201.out _ _ ⟨v43, v45, wz.heap.size, ?_, hB.alloc hB.size _, o43.below hal, o45.below hal, Blk.new _ _ _⟩
                simp only [Act.put, List.getElem_toArray, List.getElem_cons_succ, List.getElem_cons_zero, List.setIfInBounds_toArray, List.set_cons_zero, List.set_cons_succ]
            intro key200
            have key200 := Lib.hid key200
            refine share_state (fuel' := 8) (listed' := #[true, true, true, false, true, true, false, true, true, false, true, true, false, true, true, true, false, true, true, false, false, false]) (fun (a0 a' : Act) (wz : World) => ∃ (v43 : Value) (gs gt : Nat), a' = (((a0.put (some 43) (v43)).put (some 57) (.slice (some ⟨gs, 0, none⟩) 1 1)).put (some 60) (.slice (some ⟨gt, 0, none⟩) 1 1)) ∧ Below w6.heap.size w6 wz ∧ OwF N wz v43 ∧ Blk wz gs 24 #[.bool sa, .slice Ax na cx, .slice Bx ma dx] ∧ Blk wz gt 24 #[.bool sa, .slice Ax na cx, .slice Bx ma dx]) ?_ ?_
            · as_aux_lemma =>
                rintro a' wz ⟨v43, gs, gt, rfl, hB, o43, Zs, Zt⟩
                try simp only [Act.put, List.getElem_toArray, List.getElem_cons_succ, List.getElem_cons_zero, List.setIfInBounds_toArray, List.set_cons_zero, List.set_cons_succ]
                refine wpAnyH_ready (rs := [3]) (by kernel_rfl) (by simp) ?_
                refine AllReadyH.cons rfl (fun K hK => ?_) AllReadyH.nil
                go_simp
                have hqx := hqx.below hB
                have hqy := hqy.below hB
                refine (negO _ qx 12 _ hqx (by decide)).mono ?_
                rintro e wn ⟨v45, rfl, o45, hc⟩
                have o45 := (o45.lower (Nat.le_trans hN6 hB.size)).owf (by decide)
                go_wp2_with fail
                refine hK.out _ _ (hKeep.out _ (hB.trans (hc.mono hB.size))) (fun _ => ?_)
                clear hK K
                try simp only [Act.put, List.getElem_toArray, List.getElem_cons_succ, List.getElem_cons_zero, List.setIfInBounds_toArray, List.set_cons_zero, List.set_cons_succ]
                refine key211.out _ _ ⟨v43, v45, gs, gt, ?_, hB.trans (hc.mono hB.size), o43.below hc, o45, Zs.below hc, Zt.below hc⟩
                simp only [Act.put, List.getElem_toArray, List.getElem_cons_succ, List.getElem_cons_zero, List.setIfInBounds_toArray, List.set_cons_zero, List.set_cons_succ]
            intro key111
            have key111 := Lib.hid key111
            refine share_state (fuel' := 9) (listed' := #[true, true, true, false, true, true, false, true, true, false, true, true, false, true, true, true, false, true, false, false, false, false]) (fun (a0 a' : Act) (wz : World) => ∃ (v43 : Value) (gs : Nat), a' = ((a0.put (some 43) (v43)).put (some 57) (.slice (some ⟨gs, 0, none⟩) 1 1)) ∧ Below w6.heap.size w6 wz ∧ OwF N wz v43 ∧ Blk wz gs 24 #[.bool sa, .slice Ax na cx, .slice Bx ma dx]) ?_ ?_
            · as_aux_lemma =>
                rintro a' wz ⟨v43, gs, rfl, hB, o43, Zs⟩
                try simp only [Act.put, List.getElem_toArray, List.getElem_cons_succ, List.getElem_cons_zero, List.setIfInBounds_toArray, List.set_cons_zero, List.set_cons_succ]
                refine wpAnyH_ready (rs := [3, 18]) (by kernel_rfl) (by simp) ?_
                refine AllReadyH.cons rfl (fun K hK => ?_) ?_
                · skip
                  go_simp
                  have hqx := hqx.below hB
                  have hqy := hqy.below hB
                  refine (negO _ qx 12 _ hqx (by decide)).mono ?_
                  rintro e wn ⟨v45, rfl, o45, hc⟩
                  have o45 := (o45.lower (Nat.le_trans hN6 hB.size)).owf (by decide)
                  go_wp2_with fail
                  refine hK.out _ _ (hKeep.out _ (hB.trans (hc.mono hB.size))) (fun _ => ?_)
                  clear hK K
                  try simp only [Act.put, List.getElem_toArray, List.getElem_cons_succ, List.getElem_cons_zero, List.setIfInBounds_toArray, List.set_cons_zero, List.set_cons_succ]
                  refine key210.out _ _ ⟨v43, v45, gs, ?_, hB.trans (hc.mono hB.size), o43.below hc, o45, Zs.below hc⟩
                  simp only [Act.put, List.getElem_toArray, List.getElem_cons_succ, List.getElem_cons_zero, List.setIfInBounds_toArray, List.set_cons_zero, List.set_cons_succ]
                refine AllReadyH.cons rfl (fun K hK => ?_) AllReadyH.nil
                go_simp
                refine hK.out _ _ (hKeep.out _ (hB.alloc hB.size _)) (fun _ => ?_)
                clear hK K
                try simp only [Act.put, List.getElem_toArray, List.getElem_cons_succ, List.getElem_cons_zero, List.setIfInBounds_toArray, List.set_cons_zero, List.set_cons_succ]
                have hal := (Below.refl (wz : World).heap.size wz).alloc (Nat.le_refl _) (.cells #[.bool sa, .slice Ax na cx, .slice Bx ma dx] 24)
                refine key111.out _ _ ⟨v43, gs, wz.heap.size, ?_, hB.alloc hB.size _, o43.below hal, Zs.below hal, Blk.new _ _ _⟩
                simp only [Act.put, List.getElem_toArray, List.getElem_cons_succ, List.getElem_cons_zero, List.setIfInBounds_toArray, List.set_cons_zero, List.set_cons_succ]
            intro key110
            have key110 := Lib.hid key110
            refine share_state (fuel' := 9) (listed' := #[true, true, true, false, true, true, false, true, true, false, true, true, false, true, true, false, false, true, true, false, false, false]) (fun (a0 a' : Act) (wz : World) => ∃ (v43 : Value) (gt : Nat), a' = ((a0.put (some 43) (v43)).put (some 60) (.slice (some ⟨gt, 0, none⟩) 1 1)) ∧ Below w6.heap.size w6 wz ∧ OwF N wz v43 ∧ Blk wz gt 24 #[.bool sa, .slice Ax na cx, .slice Bx ma dx]) ?_ ?_
            · as_aux_lemma =>
                rintro a' wz ⟨v43, gt, rfl, hB, o43, Zt⟩
                try simp only [Act.put, List.getElem_toArray, List.getElem_cons_succ, List.getElem_cons_zero, List.setIfInBounds_toArray, List.set_cons_zero, List.set_cons_succ]
                refine wpAnyH_ready (rs := [3, 15]) (by kernel_rfl) (by simp) ?_
                refine AllReadyH.cons rfl (fun K hK => ?_) ?_
                · skip
                  go_simp
                  have hqx := hqx.below hB
                  have hqy := hqy.below hB
                  refine (negO _ qx 12 _ hqx (by decide)).mono ?_
                  rintro e wn ⟨v45, rfl, o45, hc⟩
                  have o45 := (o45.lower (Nat.le_trans hN6 hB.size)).owf (by decide)
                  go_wp2_with fail
                  refine hK.out _ _ (hKeep.out _ (hB.trans (hc.mono hB.size))) (fun _ => ?_)
                  clear hK K
                  try simp only [Act.put, List.getElem_toArray, List.getElem_cons_succ, List.getElem_cons_zero, List.setIfInBounds_toArray, List.set_cons_zero, List.set_cons_succ]
                  refine key201.out _ _ ⟨v43, v45, gt, ?_, hB.trans (hc.mono hB.size), o43.below hc, o45, Zt.below hc⟩
                  simp only [Act.put, List.getElem_toArray, List.getElem_cons_succ, List.getElem_cons_zero, List.setIfInBounds_toArray, List.set_cons_zero, List.set_cons_succ]
                refine AllReadyH.cons rfl (fun K hK => ?_) AllReadyH.nil
                go_simp
                refine hK.out _ _ (hKeep.out _ (hB.alloc hB.size _)) (fun _ => ?_)
                clear hK K
                try simp only [Act.put, List.getElem_toArray, List.getElem_cons_succ, List.getElem_cons_zero, List.setIfInBounds_toArray, List.set_cons_zero, List.set_cons_succ]
                have hal := (Below.refl (wz : World).heap.size wz).alloc (Nat.le_refl _) (.cells #[.bool sa, .slice Ax na cx, .slice Bx ma dx] 24)
                refine key111.out _ _ ⟨v43, wz.heap.size, gt, ?_, hB.alloc hB.size _, o43.below hal, Blk.new _ _ _, Zt.below hal⟩
                simp only [Act.put, List.getElem_toArray, List.getElem_cons_succ, List.getElem_cons_zero, List.setIfInBounds_toArray, List.set_cons_zero, List.set_cons_succ]
            intro key101
            have key101 := Lib.hid key101
            refine share_state (fuel' := 10) (listed' := #[true, true, true, false, true, true, false, true, true, false, true, true, false, true, true, false, false, true, false, false, false, false]) (fun (a0 a' : Act) (wz : World) => ∃ (v43 : Value), a' = (a0.put (some 43) (v43)) ∧ Below w6.heap.size w6 wz ∧ OwF N wz v43) ?_ ?_
            · as_aux_lemma =>
                rintro a' wz ⟨v43, rfl, hB, o43⟩
                try simp only [Act.put, List.getElem_toArray, List.getElem_cons_succ, List.getElem_cons_zero, List.setIfInBounds_toArray, List.set_cons_zero, List.set_cons_succ]
                refine wpAnyH_ready (rs := [3, 15, 18]) (by kernel_rfl) (by simp) ?_
                refine AllReadyH.cons rfl (fun K hK => ?_) ?_
                · skip
                  go_simp
                  have hqx := hqx.below hB
                  have hqy := hqy.below hB
                  refine (negO _ qx 12 _ hqx (by decide)).mono ?_
                  rintro e wn ⟨v45, rfl, o45, hc⟩
                  have o45 := (o45.lower (Nat.le_trans hN6 hB.size)).owf (by decide)
                  go_wp2_with fail
                  refine hK.out _ _ (hKeep.out _ (hB.trans (hc.mono hB.size))) (fun _ => ?_)
                  clear hK K
                  try simp only [Act.put, List.getElem_toArray, List.getElem_cons_succ, List.getElem_cons_zero, List.setIfInBounds_toArray, List.set_cons_zero, List.set_cons_succ]
                  refine key200.out _ _ ⟨v43, v45, ?_, hB.trans (hc.mono hB.size), o43.below hc, o45⟩
                  simp only [Act.put, List.getElem_toArray, List.getElem_cons_succ, List.getElem_cons_zero, List.setIfInBounds_toArray, List.set_cons_zero, List.set_cons_succ]
                refine AllReadyH.cons rfl (fun K hK => ?_) ?_
                · skip
                  go_simp
                  refine hK.out _ _ (hKeep.out _ (hB.alloc hB.size _)) (fun _ => ?_)
                  clear hK K
                  try simp only [Act.put, List.getElem_toArray, List.getElem_cons_succ, List.getElem_cons_zero, List.setIfInBounds_toArray, List.set_cons_zero, List.set_cons_succ]
                  have hal := (Below.refl (wz : World).heap.size wz).alloc (Nat.le_refl _) (.cells #[.bool sa, .slice Ax na cx, .slice Bx ma dx] 24)
                  refine key110.out _ _ ⟨v43, wz.heap.size, ?_, hB.alloc hB.size _, o43.below hal, Blk.new _ _ _⟩
                  simp only [Act.put, List.getElem_toArray, List.getElem_cons_succ, List.getElem_cons_zero, List.setIfInBounds_toArray, List.set_cons_zero, List.set_cons_succ]
                refine AllReadyH.cons rfl (fun K hK => ?_) AllReadyH.nil
                go_simp
                refine hK.out _ _ (hKeep.out _ (hB.alloc hB.size _)) (fun _ => ?_)
                clear hK K
                try simp only [Act.put, List.getElem_toArray, List.getElem_cons_succ, List.getElem_cons_zero, List.setIfInBounds_toArray, List.set_cons_zero, List.set_cons_succ]
                have hal := (Below.refl (wz : World).heap.size wz).alloc (Nat.le_refl _) (.cells #[.bool sa, .slice Ax na cx, .slice Bx ma dx] 24)
                refine key101.out _ _ ⟨v43, wz.heap.size, ?_, hB.alloc hB.size _, o43.below hal, Blk.new _ _ _⟩
                simp only [Act.put, List.getElem_toArray, List.getElem_cons_succ, List.getElem_cons_zero, List.setIfInBounds_toArray, List.set_cons_zero, List.set_cons_succ]
            intro key100
            have key100 := Lib.hid key100
            refine share_state (fuel' := 9) (listed' := #[true, false, true, false, true, true, false, true, true, false, true, true, false, true, true, true, false, true, true, false, false, false]) (fun (a0 a' : Act) (wz : World) => ∃ (gs gt : Nat), a' = ((a0.put (some 57) (.slice (some ⟨gs, 0, none⟩) 1 1)).put (some 60) (.slice (some ⟨gt, 0, none⟩) 1 1)) ∧ Below w6.heap.size w6 wz ∧ Blk wz gs 24 #[.bool sa, .slice Ax na cx, .slice Bx ma dx] ∧ Blk wz gt 24 #[.bool sa, .slice Ax na cx, .slice Bx ma dx]) ?_ ?_
            · as_aux_lemma =>
                rintro a' wz ⟨gs, gt, rfl, hB, Zs, Zt⟩
                try simp only [Act.put, List.getElem_toArray, List.getElem_cons_succ, List.getElem_cons_zero, List.setIfInBounds_toArray, List.set_cons_zero, List.set_cons_succ]
                refine wpAnyH_ready (rs := [1]) (by kernel_rfl) (by simp) ?_
                refine AllReadyH.cons rfl (fun K hK => ?_) AllReadyH.nil
                go_simp
                have hqx := hqx.below hB
                have hqy := hqy.below hB
                refine (canonO _ qx 12 _ hqx (by decide)).mono ?_
                rintro e wn ⟨v43, rfl, o43, hc⟩
                have o43 := (o43.lower (Nat.le_trans hN6 hB.size)).owf (by decide)
                go_wp2_with fail
                refine hK.out _ _ (hKeep.out _ (hB.trans (hc.mono hB.size))) (fun _ => ?_)
                clear hK K
                try simp only [Act.put, List.getElem_toArray, List.getElem_cons_succ, List.getElem_cons_zero, List.setIfInBounds_toArray, List.set_cons_zero, List.set_cons_succ]
                refine key111.out _ _ ⟨v43, gs, gt, ?_, hB.trans (hc.mono hB.size), o43, Zs.below hc, Zt.below hc⟩
                simp only [Act.put, List.getElem_toArray, List.getElem_cons_succ, List.getElem_cons_zero, List.setIfInBounds_toArray, List.set_cons_zero, List.set_cons_succ]
            intro key011
            have key011 := Lib.hid key011
            refine share_state (fuel' := 10) (listed' := #[true, false, true, false, true, true, false, true, true, false, true, true, false, true, true, true, false, true, false, false, false, false]) (fun (a0 a' : Act) (wz : World) => ∃ (gs : Nat), a' = (a0.put (some 57) (.slice (some ⟨gs, 0, none⟩) 1 1)) ∧ Below w6.heap.size w6 wz ∧ Blk wz gs 24 #[.bool sa, .slice Ax na cx, .slice Bx ma dx]) ?_ ?_
            · as_aux_lemma =>
                rintro a' wz ⟨gs, rfl, hB, Zs⟩
                try simp only [Act.put, List.getElem_toArray, List.getElem_cons_succ, List.getElem_cons_zero, List.setIfInBounds_toArray, List.set_cons_zero, List.set_cons_succ]
                refine wpAnyH_ready (rs := [1, 18]) (by kernel_rfl) (by simp) ?_
                refine AllReadyH.cons rfl (fun K hK => ?_) ?_
                · skip
                  go_simp
                  have hqx := hqx.below hB
                  have hqy := hqy.below hB
                  refine (canonO _ qx 12 _ hqx (by decide)).mono ?_
                  rintro e wn ⟨v43, rfl, o43, hc⟩
                  have o43 := (o43.lower (Nat.le_trans hN6 hB.size)).owf (by decide)
                  go_wp2_with fail
                  refine hK.out _ _ (hKeep.out _ (hB.trans (hc.mono hB.size))) (fun _ => ?_)
                  clear hK K
                  try simp only [Act.put, List.getElem_toArray, List.getElem_cons_succ, List.getElem_cons_zero, List.setIfInBounds_toArray, List.set_cons_zero, List.set_cons_succ]
                  refine key110.out _ _ ⟨v43, gs, ?_, hB.trans (hc.mono hB.size), o43, Zs.below hc⟩
                  simp only [Act.put, List.getElem_toArray, List.getElem_cons_succ, List.getElem_cons_zero, List.setIfInBounds_toArray, List.set_cons_zero, List.set_cons_succ]
                refine AllReadyH.cons rfl (fun K hK => ?_) AllReadyH.nil
                go_simp
                refine hK.out _ _ (hKeep.out _ (hB.alloc hB.size _)) (fun _ => ?_)
                clear hK K
                try simp only [Act.put, List.getElem_toArray, List.getElem_cons_succ, List.getElem_cons_zero, List.setIfInBounds_toArray, List.set_cons_zero, List.set_cons_succ]
                have hal := (Below.refl (wz : World).heap.size wz).alloc (Nat.le_refl _) (.cells #[.bool sa, .slice Ax na cx, .slice Bx ma dx] 24)
                refine key011.out _ _ ⟨gs, wz.heap.size, ?_, hB.alloc hB.size _, Zs.below hal, Blk.new _ _ _⟩
                simp only [Act.put, List.getElem_toArray, List.getElem_cons_succ, List.getElem_cons_zero, List.setIfInBounds_toArray, List.set_cons_zero, List.set_cons_succ]
            intro key010
            have key010 := Lib.hid key010
            refine share_state (fuel' := 10) (listed' := #[true, false, true, false, true, true, false, true, true, false, true, true, false, true, true, false, false, true, true, false, false, false]) (fun (a0 a' : Act) (wz : World) => ∃ (gt : Nat), a' = (a0.put (some 60) (.slice (some ⟨gt, 0, none⟩) 1 1)) ∧ Below w6.heap.size w6 wz ∧ Blk wz gt 24 #[.bool sa, .slice Ax na cx, .slice Bx ma dx]) ?_ ?_
            · as_aux_lemma =>
                rintro a' wz ⟨gt, rfl, hB, Zt⟩
                try simp only [Act.put, List.getElem_toArray, List.getElem_cons_succ, List.getElem_cons_zero, List.setIfInBounds_toArray, List.set_cons_zero, List.set_cons_succ]
                refine wpAnyH_ready (rs := [1, 15]) (by kernel_rfl) (by simp) ?_
                refine AllReadyH.cons rfl (fun K hK => ?_) ?_
                · skip
                  go_simp
                  have hqx := hqx.below hB
                  have hqy := hqy.below hB
                  refine (canonO _ qx 12 _ hqx (by decide)).mono ?_
                  rintro e wn ⟨v43, rfl, o43, hc⟩
                  have o43 := (o43.lower (Nat.le_trans hN6 hB.size)).owf (by decide)
                  go_wp2_with fail
                  refine hK.out _ _ (hKeep.out _ (hB.trans (hc.mono hB.size))) (fun _ => ?_)
                  clear hK K
                  try simp only [Act.put, List.getElem_toArray, List.getElem_cons_succ, List.getElem_cons_zero, List.setIfInBounds_toArray, List.set_cons_zero, List.set_cons_succ]
                  refine key101.out _ _ ⟨v43, gt, ?_, hB.trans (hc.mono hB.size), o43, Zt.below hc⟩
                  simp only [Act.put, List.getElem_toArray, List.getElem_cons_succ, List.getElem_cons_zero, List.setIfInBounds_toArray, List.set_cons_zero, List.set_cons_succ]
                refine AllReadyH.cons rfl (fun K hK => ?_) AllReadyH.nil
                go_simp
                refine hK.out _ _ (hKeep.out _ (hB.alloc hB.size _)) (fun _ => ?_)
                clear hK K
                try simp only [Act.put, List.getElem_toArray, List.getElem_cons_succ, List.getElem_cons_zero, List.setIfInBounds_toArray, List.set_cons_zero, List.set_cons_succ]
                have hal := (Below.refl (wz : World).heap.size wz).alloc (Nat.le_refl _) (.cells #[.bool sa, .slice Ax na cx, .slice Bx ma dx] 24)
                refine key011.out _ _ ⟨wz.heap.size, gt, ?_, hB.alloc hB.size _, Blk.new _ _ _, Zt.below hal⟩
                simp only [Act.put, List.getElem_toArray, List.getElem_cons_succ, List.getElem_cons_zero, List.setIfInBounds_toArray, List.set_cons_zero, List.set_cons_succ]
            intro key001
            have key001 := Lib.hid key001
            refine wpAnyH_ready (rs := [1, 15, 18]) (by kernel_rfl) (by simp) ?_
            refine AllReadyH.cons rfl (fun K hK => ?_) ?_
            · skip
              go_simp
              have hqx := hqx.below hB
              have hqy := hqy.below hB
              refine (canonO _ qx 12 _ hqx (by decide)).mono ?_
              rintro e wn ⟨v43, rfl, o43, hc⟩
              have o43 := (o43.lower (Nat.le_trans hN6 hB.size)).owf (by decide)
              go_wp2_with fail
              refine hK.out _ _ (hKeep.out _ (hB.trans (hc.mono hB.size))) (fun _ => ?_)
              clear hK K
              try simp only [Act.put, List.getElem_toArray, List.getElem_cons_succ, List.getElem_cons_zero, List.setIfInBounds_toArray, List.set_cons_zero, List.set_cons_succ]
              refine key100.out _ _ ⟨v43, ?_, hB.trans (hc.mono hB.size), o43⟩
              simp only [Act.put, List.getElem_toArray, List.getElem_cons_succ, List.getElem_cons_zero, List.setIfInBounds_toArray, List.set_cons_zero, List.set_cons_succ]
            refine AllReadyH.cons rfl (fun K hK => ?_) ?_
            · skip
              go_simp
              refine hK.out _ _ (hKeep.out _ (hB.alloc hB.size _)) (fun _ => ?_)
              clear hK K
              try simp only [Act.put, List.getElem_toArray, List.getElem_cons_succ, List.getElem_cons_zero, List.setIfInBounds_toArray, List.set_cons_zero, List.set_cons_succ]
              have hal := (Below.refl (wd : World).heap.size wd).alloc (Nat.le_refl _) (.cells #[.bool sa, .slice Ax na cx, .slice Bx ma dx] 24)
              refine key010.out _ _ ⟨wd.heap.size, ?_, hB.alloc hB.size _, Blk.new _ _ _⟩
              simp only [Act.put, List.getElem_toArray, List.getElem_cons_succ, List.getElem_cons_zero, List.setIfInBounds_toArray, List.set_cons_zero, List.set_cons_succ]
            refine AllReadyH.cons rfl (fun K hK => ?_) AllReadyH.nil
            go_simp
            refine hK.out _ _ (hKeep.out _ (hB.alloc hB.size _)) (fun _ => ?_)
            clear hK K
            try simp only [Act.put, List.getElem_toArray, List.getElem_cons_succ, List.getElem_cons_zero, List.setIfInBounds_toArray, List.set_cons_zero, List.set_cons_succ]
            have hal := (Below.refl (wd : World).heap.size wd).alloc (Nat.le_refl _) (.cells #[.bool sa, .slice Ax na cx, .slice Bx ma dx] 24)
            refine key001.out _ _ ⟨wd.heap.size, ?_, hB.alloc hB.size _, Blk.new _ _ _⟩
            simp only [Act.put, List.getElem_toArray, List.getElem_cons_succ, List.getElem_cons_zero, List.setIfInBounds_toArray, List.set_cons_zero, List.set_cons_succ]
        case rest =>
          clear hKeep
          obtain ⟨g, cs, rfl, hR, hB⟩ := hcut
          generalize wc = w7 at *
          obtain ⟨ad, had0⟩ : ∃ ad : Addr, (⟨g, 0, none⟩ : Addr) = ad := ⟨_, rfl⟩
          rw [had0]
          have had := Lib.hid had0.symm
          clear had0
          clear hB Xx Xy Xp hqx hqy q5
          go_wp2
          go_loopw [10] (fun iv wr => ∃ j : Nat, iv = .int .i64 j ∧ j ≤ 8 ∧ R8 N uy wr g cs) (fun iv _ => 8 - (intOf iv).toNat)
          case atStart => exact ⟨0, rfl, by omega, hR⟩
          case round =>
            clear hR
            obtain ⟨j, rfl, hj8, hR⟩ := hrel
            by_cases hj : j < 8
            · obtain ⟨s, A, n, c, B, m, d, e1, e2, e3, o1, o2, bn, bm⟩ := hR.o j hj
              have e1 := Lib.hid e1
              have e2 := Lib.hid e2
              have e3 := Lib.hid e3
              have c0 := cell_add hR.b e1.out had.out
              have c1 := cell_add1 hR.b e2.out had.out
              have c2 := cell_add1 hR.b e3.out had.out
              go_wp2
              clear c0 c1 c2
              go_loopw [11] (fun kv wr => ∃ k : Nat, kv = .int .i64 k ∧ k ≤ n ∧ R8 N uy wr g cs ∧ OwA N wr A n ∧ OwA N wr B m) (fun kv _ => n - (intOf kv).toNat)
              case atStart => exact ⟨0, rfl, Nat.zero_le _, hR, o1, o2⟩
              case round =>
                clear hR o1 o2
                obtain ⟨k, rfl, hkn, hR, o1, o2⟩ := hrel
                have c0 := cell_add hR.b e1.out had.out
                have c1 := cell_add1 hR.b e2.out had.out
                have c2 := cell_add1 hR.b e3.out had.out
                by_cases hk : k < n
                · obtain ⟨g2, cs2, rfl, hg2, hh2, hl2⟩ := o1 (by omega)
                  have Z2 : Blk _ g2 63 cs2 := hh2
                  have hfr := Z2.frozen k
                  have hce := (Z2.cell k).trans (Array.getElem?_eq_getElem (by omega))
                  generalize cs2[k]'(by omega) = z at hce
                  have hn1 := hR.set hh2 hg2 k (.int .u32 77)
                  have hn2 := o1.set ⟨g2, k, none⟩ (.int .u32 77)
                  have hn3 := o2.set ⟨g2, k, none⟩ (.int .u32 77)
                  go_wp2
                  go_roundw
                  case rel => exact ⟨k + 1, rfl, hk, hn1, hn2, hn3⟩
                  case measure => simp [intOf]; omega
                · skip
                  go_wp2
                  clear c0 c1 c2 hk hkn
                  go_loopw [12] (fun kv wr => ∃ k : Nat, kv = .int .i64 k ∧ k ≤ m ∧ R8 N uy wr g cs ∧ OwA N wr A n ∧ OwA N wr B m) (fun kv _ => m - (intOf kv).toNat)
                  case atStart => exact ⟨0, rfl, Nat.zero_le _, hR, o1, o2⟩
                  case round =>
                    clear hR o1 o2
                    obtain ⟨k, rfl, hkn, hR, o1, o2⟩ := hrel
                    have c0 := cell_add hR.b e1.out had.out
                    have c1 := cell_add1 hR.b e2.out had.out
                    have c2 := cell_add1 hR.b e3.out had.out
                    by_cases hk : k < m
                    · obtain ⟨g2, cs2, rfl, hg2, hh2, hl2⟩ := o2 (by omega)
                      have Z2 : Blk _ g2 63 cs2 := hh2
                      have hfr := Z2.frozen k
                      have hce := (Z2.cell k).trans (Array.getElem?_eq_getElem (by omega))
                      generalize cs2[k]'(by omega) = z at hce
                      have hn1 := hR.set hh2 hg2 k (.int .u32 78)
                      have hn2 := o1.set ⟨g2, k, none⟩ (.int .u32 78)
                      have hn3 := o2.set ⟨g2, k, none⟩ (.int .u32 78)
                      go_wp2
                      go_roundw
                      case rel => exact ⟨k + 1, rfl, hk, hn1, hn2, hn3⟩
                      case measure => simp [intOf]; omega
                    · skip
                      go_wp2
                      go_roundw
                      case rel => exact ⟨j + 1, rfl, hj, hR⟩
                      case measure => simp [intOf]; omega
            · have hU := hR.bel' hNH.out
              obtain rfl : j = 8 := by omega
              have Zx := Xx0.below hU
              have D1x := hxx.below hU
              have D2x := hyx.below hU
              have Zy := Xy0.below hU
              have D1y := hxy.below hU
              have D2y := hyy.below hU
              have Za := Xa.below hU
              have D1a := hxa.below hU
              have D2a := hya.below hU
              have Zb := Xb.below hU
              have D1b := hxb.below hU
              have D2b := hyb.below hU
              have hw9 := hw.trans (hU.mono hw.size)
              have kx0 := Zx.cell 0
              have kx1 := Zx.cell 1
              have kx2 := Zx.cell 2
              have ka0 := Za.cell 0
              have ka1 := Za.cell 1
              have ka2 := Za.cell 2
              go_wp2_with fail
              refine (same_any sa sa Ax Bx Aa Ba na cx ma dx na ca ma ea xa ya xa ya _ D1x D2x D1a D2a).mono ?_
              rintro e v1 ⟨rfl, hb⟩
              rw [show (decide (sa = sa) && decide (xa = xa) && decide (ya = ya)) = true by simp]
              clear kx0 kx1 kx2 ka0 ka1 ka2
              have Zy := Zy.below hb
              have D1y := D1y.below hb
              have D2y := D2y.below hb
              have Zb := Zb.below hb
              have D1b := D1b.below hb
              have D2b := D2b.below hb
              have hw9 := hw9.trans (hb.mono hw9.size)
              have ky0 := Zy.cell 0
              have ky1 := Zy.cell 1
              have ky2 := Zy.cell 2
              have kb0 := Zb.cell 0
              have kb1 := Zb.cell 1
              have kb2 := Zb.cell 2
              go_wp2_with fail
              refine (same_any sb sb Ay By Ab Bb nb cy mb dy nb cb mb eb xb yb xb yb _ D1y D2y D1b D2b).mono ?_
              rintro e v2 ⟨rfl, hb⟩
              rw [show (decide (sb = sb) && decide (xb = xb) && decide (yb = yb)) = true by simp]
              have hw9 := hw9.trans (hb.mono hw9.size)
              go_wp2_with fail
              refine (known_true _ (hG.out.below hw9)).mono ?_
              rintro e v3 ⟨rfl, hb⟩
              have hw9 := hw9.trans (hb.mono hw9.size)
              go_wp2
              go_ret
              exact ⟨rfl, hw9⟩
end Go.Proofs.YtbgihlfblmilmaaGreatDoor.Fr
