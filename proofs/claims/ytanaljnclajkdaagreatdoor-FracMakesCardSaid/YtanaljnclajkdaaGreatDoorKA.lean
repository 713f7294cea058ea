/- FracMakes: integers and quotients of integers. -/
import Derived.Test.YtanaljnclajkdaaGreatDoorJK
import Derived.Test.YtanaljnclajkdaaGreatDoorGS
import Derived.Deep.RegionHeld3
namespace Go.Proofs.YtanaljnclajkdaaGreatDoor.Fr
open Go.RowKit Num

set_option maxHeartbeats 1600000 in
theorem MakeZeroQ (n : Int) (w : World) : Calls Tryz.prog 29 #[.int .i64 n, .int .i64 0] w (RetFE w 0 0 3) := by
  have B := Blk.new w 24 #[.bool false, .slice none 0 0, .slice none 0 0]
  have hw0 := (Below.refl w.heap.size w).alloc (Nat.le_refl _) (.cells #[.bool false, .slice none 0 0, .slice none 0 0] 24)
  have r0 := B.cell 0
  have r1 := B.cell 1
  have r2 := B.cell 2
  have f0 := B.frozen 0
  have f1 := B.frozen 1
  have f2 := B.frozen 2
  go_enter Tryz.func29, Tryz.ntmps29
  go_upto_region 1 with fail
  generalize w.alloc (.cells #[.bool false, .slice none 0 0, .slice none 0 0] 24) = w1 at *
  go_wp2
  exact ret_frac2 rfl rfl (((B.set_ 0 _).set_ 1 _).set_ 2 _) rfl ⟨_, rfl, FQ.zero _, bel_set3 hw0 (by omega) _ _ _⟩
theorem floor_int (n : Int) : ((n : Int) : Rat).floor = n := by simp

set_option linter.unusedSimpArgs false in
set_option maxHeartbeats 12800000 in
set_option maxRecDepth 100000 in
theorem makes_law (n d : Int) (w : World) (hn : -9223372036854775808 ≤ n ∧ n ≤ 9223372036854775807) (hd : -9223372036854775808 ≤ d ∧ d ≤ 9223372036854775807) (hG : Gl w) :
    Calls Tryz.prog 4 #[.int .i64 n, .int .i64 d] w fun e w' => e = .returned (.bool true) ∧ Below w.heap.size w w' := by
  have hG := Lib.hid hG
  have hB := Below.refl w.heap.size w
  by_cases hd0 : d = 0
  · subst hd0
    go_enter Tryz.func4, Tryz.ntmps4
    go_wp2_with fail
    refine (MakeZeroQ n _).mono ?_
    rintro e v0 ⟨_, rfl, q0, hc0⟩
    have hB := hB.trans (hc0.mono hB.size)
    obtain ⟨s0, A0, m0, c0, B0, n0, d0, rfl⟩ := q0.form
    have ha := (Below.refl v0.heap.size v0).alloc (Nat.le_refl _) (.cells #[.bool s0, .slice A0 m0 c0, .slice B0 n0 d0] 24)
    have X := Blk.new v0 24 #[.bool s0, .slice A0 m0 c0, .slice B0 n0 d0]
    have hB := hB.alloc hB.size (.cells #[.bool s0, .slice A0 m0 c0, .slice B0 n0 d0] 24)
    have q0 := q0.below ha
    clear ha hc0
    go_wp2_with fail
    generalize v0.heap.size = g at *
    generalize v0.alloc (.cells #[.bool s0, .slice A0 m0 c0, .slice B0 n0 d0] 24) = w1 at *
    refine (ofQ _ _ hn).mono ?_
    rintro e v1 ⟨_, rfl, q1, hc1⟩
    have q1 := q1.le (show _ ≤ 2 by decide)
    obtain ⟨s1, A1, m1, c1, B1, n1, d1, rfl⟩ := q1.form
    have hB := hB.trans (hc1.mono hB.size)
    have q0 := q0.below hc1
    have X := X.below hc1
    go_wp2_with fail
    refine (refOfQ _ _ hn).mono ?_
    rintro e v2 ⟨_, rfl, q2, hc2⟩
    have q2 := q2.le (show _ ≤ 3 by decide)
    obtain ⟨s2, A2, m2, c2, B2, n2, d2, rfl⟩ := q2.form
    have hB := hB.trans (hc2.mono hB.size)
    have q0 := q0.below hc2
    have q1 := q1.below hc2
    have X := X.below hc2
    go_wp2_with fail
    refine (sameT _ _ _ _ _ _ _ q1 q2 (rfl)).mono ?_
    rintro e v3 ⟨rfl, hc3⟩
    have hB := hB.trans (hc3.mono hB.size)
    have q0 := q0.below hc3
    have q1 := q1.below hc3
    have q2 := q2.below hc3
    have X := X.below hc3
    have k0 := X.cell 0
    have k1 := X.cell 1
    have k2 := X.cell 2
    go_wp2_with fail
    refine (sameT _ _ _ _ _ _ _ q0 (FQ.zero _) rfl).mono ?_
    rintro e v8 ⟨rfl, hc8⟩
    have hB := hB.trans (hc8.mono hB.size)
    go_wp2_with fail
    refine (known_true _ (hG.out.below hB)).mono ?_
    rintro e v9 ⟨rfl, hc9⟩
    go_wp2
    go_ret
    exact ⟨rfl, hB.trans (hc9.mono hB.size)⟩
  · have hz : ((d : Int) == 0) = false := by rw [beq_eq_false_iff_ne]; exact hd0
    go_enter Tryz.func4, Tryz.ntmps4
    go_wp2_with fail
    refine (makeQ n d _ hn hd hd0).mono ?_
    rintro e v0 ⟨_, rfl, q0, hc0⟩
    have hB := hB.trans (hc0.mono hB.size)
    obtain ⟨s0, A0, m0, c0, B0, n0, d0, rfl⟩ := q0.form
    have ha := (Below.refl v0.heap.size v0).alloc (Nat.le_refl _) (.cells #[.bool s0, .slice A0 m0 c0, .slice B0 n0 d0] 24)
    have X := Blk.new v0 24 #[.bool s0, .slice A0 m0 c0, .slice B0 n0 d0]
    have hB := hB.alloc hB.size (.cells #[.bool s0, .slice A0 m0 c0, .slice B0 n0 d0] 24)
    have q0 := q0.below ha
    clear ha hc0
    go_wp2_with fail
    generalize v0.heap.size = g at *
    generalize v0.alloc (.cells #[.bool s0, .slice A0 m0 c0, .slice B0 n0 d0] 24) = w1 at *
    refine (ofQ _ _ hn).mono ?_
    rintro e v1 ⟨_, rfl, q1, hc1⟩
    have q1 := q1.le (show _ ≤ 2 by decide)
    obtain ⟨s1, A1, m1, c1, B1, n1, d1, rfl⟩ := q1.form
    have hB := hB.trans (hc1.mono hB.size)
    have q0 := q0.below hc1
    have X := X.below hc1
    go_wp2_with fail
    refine (refOfQ _ _ hn).mono ?_
    rintro e v2 ⟨_, rfl, q2, hc2⟩
    have q2 := q2.le (show _ ≤ 3 by decide)
    obtain ⟨s2, A2, m2, c2, B2, n2, d2, rfl⟩ := q2.form
    have hB := hB.trans (hc2.mono hB.size)
    have q0 := q0.below hc2
    have q1 := q1.below hc2
    have X := X.below hc2
    go_wp2_with fail
    refine (sameT _ _ _ _ _ _ _ q1 q2 (rfl)).mono ?_
    rintro e v3 ⟨rfl, hc3⟩
    have hB := hB.trans (hc3.mono hB.size)
    have q0 := q0.below hc3
    have q1 := q1.below hc3
    have q2 := q2.below hc3
    have X := X.below hc3
    have hz := hz
    go_wp2_with fail
    refine (ofQ _ _ hn).mono ?_
    rintro e v4 ⟨_, rfl, q4, hc4⟩
    have q4 := q4.le (show _ ≤ 2 by decide)
    obtain ⟨s4, A4, m4, c4, B4, n4, d4, rfl⟩ := q4.form
    have hB := hB.trans (hc4.mono hB.size)
    have q0 := q0.below hc4
    have q1 := q1.below hc4
    have q2 := q2.below hc4
    have X := X.below hc4
    go_wp2_with fail
    refine (WholeQ _ _ 2 _ q4.af (by decide)).mono ?_
    rintro e v5 ⟨hc5, hy, _⟩
    obtain rfl := hy (by rw [floor_int]; exact hn)
    clear hy
    rw [floor_int]
    have hB := hB.trans (hc5.mono hB.size)
    have q0 := q0.below hc5
    have q1 := q1.below hc5
    have q2 := q2.below hc5
    have q4 := q4.below hc5
    have X := X.below hc5
    go_upto_region 7 with fail
    have hw := hB
    have kg_0 : v5.cell? ⟨g, 0, none⟩ = some (.bool s0) := X.cell 0
    have kg_1 : v5.cell? ⟨g, 1, none⟩ = some (.slice A0 m0 c0) := X.cell 1
    have kg_2 : v5.cell? ⟨g, 2, none⟩ = some (.slice B0 n0 d0) := X.cell 2
    have hKeep := Lib.hid (fun (wx : World) (hb : Below v5.heap.size v5 wx) => (⟨(hb.cell (World.block_lt_of_cell? _ _ kg_0)).trans kg_0, (hb.cell (World.block_lt_of_cell? _ _ kg_1)).trans kg_1, (hb.cell (World.block_lt_of_cell? _ _ kg_2)).trans kg_2⟩ : wx.cell? ⟨g, 0, none⟩ = some (.bool s0) ∧ wx.cell? ⟨g, 1, none⟩ = some (.slice A0 m0 c0) ∧ wx.cell? ⟨g, 2, none⟩ = some (.slice B0 n0 d0)))
    clear kg_0 kg_1 kg_2
    have hB := bel_drewN (Below.refl v5.heap.size v5) 1
    have q0 := q0.below hB
    refine wp_region_held_drew (S := (fun wx => wx.cell? ⟨g, 0, none⟩ = some (.bool s0) ∧ wx.cell? ⟨g, 1, none⟩ = some (.slice A0 m0 c0) ∧ wx.cell? ⟨g, 2, none⟩ = some (.slice B0 n0 d0))) (by kernel_rfl) (hKeep.out _ hB) (fun hHeld => ?_)
    refine wpAnyH_take (i := 0) (v := .int .i64 0) rfl (by kernel_rfl) (by kernel_rfl) (by kernel_rfl) (fun _ _ _ h => h) (Or.inl ⟨by kernel_rfl, by (intro w hSw; (try dsimp only at hSw); go_simp)⟩) hHeld ?_
    try simp only [Act.put, List.getElem_toArray, List.getElem_cons_succ, List.getElem_cons_zero, List.setIfInBounds_toArray, List.set_cons_zero, List.set_cons_succ]
    refine wpAnyH_take (i := 1) (v := .bool true) rfl (by kernel_rfl) (by kernel_rfl) (by kernel_rfl) (fun _ _ _ h => h) (Or.inl ⟨by kernel_rfl, by (intro w hSw; (try dsimp only at hSw); go_simp)⟩) hHeld ?_
    try simp only [Act.put, List.getElem_toArray, List.getElem_cons_succ, List.getElem_cons_zero, List.setIfInBounds_toArray, List.set_cons_zero, List.set_cons_succ]
    refine wpAnyH_take (i := 2) (v := .bool true) rfl (by kernel_rfl) (by kernel_rfl) (by kernel_rfl) (fun _ _ _ h => h) (Or.inl ⟨by kernel_rfl, by (intro w hSw; (try dsimp only at hSw); go_simp)⟩) hHeld ?_
    try simp only [Act.put, List.getElem_toArray, List.getElem_cons_succ, List.getElem_cons_zero, List.setIfInBounds_toArray, List.set_cons_zero, List.set_cons_succ]
    refine wpAnyH_take (i := 3) (v := .agg #[.bool s0, .slice A0 m0 c0, .slice B0 n0 d0]) rfl (by kernel_rfl) (by kernel_rfl) (by kernel_rfl) (fun _ _ _ h => h) (Or.inl ⟨by kernel_rfl, by (intro w hSw; (try dsimp only at hSw); go_simp)⟩) hHeld ?_
    try simp only [Act.put, List.getElem_toArray, List.getElem_cons_succ, List.getElem_cons_zero, List.setIfInBounds_toArray, List.set_cons_zero, List.set_cons_succ]
    refine wpAnyH_take (i := 4) (v := .int .i64 n) rfl (by kernel_rfl) (by kernel_rfl) (by kernel_rfl) (fun _ _ _ h => h) (Or.inl ⟨by kernel_rfl, by (intro w hSw; (try dsimp only at hSw); go_simp)⟩) hHeld ?_
    try simp only [Act.put, List.getElem_toArray, List.getElem_cons_succ, List.getElem_cons_zero, List.setIfInBounds_toArray, List.set_cons_zero, List.set_cons_succ]
    refine wpAnyH_take (i := 5) (v := .int .i64 d) rfl (by kernel_rfl) (by kernel_rfl) (by kernel_rfl) (fun _ _ _ h => h) (Or.inl ⟨by kernel_rfl, by (intro w hSw; (try dsimp only at hSw); go_simp)⟩) hHeld ?_
    try simp only [Act.put, List.getElem_toArray, List.getElem_cons_succ, List.getElem_cons_zero, List.setIfInBounds_toArray, List.set_cons_zero, List.set_cons_succ]
    refine wpAnyH_ready (rs := [6]) (by kernel_rfl) (by simp) ?_
    refine AllReadyH.cons rfl (fun K hK => ?_) AllReadyH.nil
    go_simp
    refine (refMakeQ _ _ _ hn hd hd0).mono ?_
    rintro e v6 ⟨_, rfl, q6, hc6⟩
    have q6 := q6.le (show _ ≤ 5 by decide)
    obtain ⟨s6, A6, m6, c6, B6, n6, d6, rfl⟩ := q6.form
    have hB := hB.trans (hc6.mono hB.size)
    have q0 := q0.below hc6
    go_wp2_with fail
    refine hK.out _ _ ?_ (fun hHeld => ?_)
    · exact hKeep.out _ hB
    clear hK K
    try simp only [Act.put, List.getElem_toArray, List.getElem_cons_succ, List.getElem_cons_zero, List.setIfInBounds_toArray, List.set_cons_zero, List.set_cons_succ]
    refine wpAnyH_ready (rs := [7]) (by kernel_rfl) (by simp) ?_
    refine AllReadyH.cons rfl (fun K hK => ?_) AllReadyH.nil
    go_simp
    refine (sameT _ _ _ _ _ _ _ q0 q6 (rfl)).mono ?_
    rintro e v7 ⟨rfl, hc7⟩
    have hB := hB.trans (hc7.mono hB.size)
    have q0 := q0.below hc7
    have q6 := q6.below hc7
    go_wp2_with fail
    refine hK.out _ _ ?_ (fun hHeld => ?_)
    · exact hKeep.out _ hB
    clear hK K
    try simp only [Act.put, List.getElem_toArray, List.getElem_cons_succ, List.getElem_cons_zero, List.setIfInBounds_toArray, List.set_cons_zero, List.set_cons_succ]
    refine wpAnyH_take (i := 8) (v := .bool true) rfl (by kernel_rfl) (by kernel_rfl) (by kernel_rfl) (fun _ _ _ h => h) (Or.inl ⟨by kernel_rfl, by (intro w hSw; (try dsimp only at hSw); go_simp)⟩) hHeld ?_
    try simp only [Act.put, List.getElem_toArray, List.getElem_cons_succ, List.getElem_cons_zero, List.setIfInBounds_toArray, List.set_cons_zero, List.set_cons_succ]
    refine wpAnyH_take (i := 9) (v := .bool true) rfl (by kernel_rfl) (by kernel_rfl) (by kernel_rfl) (fun _ _ _ h => h) (Or.inl ⟨by kernel_rfl, by (intro w hSw; (try dsimp only at hSw); go_simp)⟩) hHeld ?_
    try simp only [Act.put, List.getElem_toArray, List.getElem_cons_succ, List.getElem_cons_zero, List.setIfInBounds_toArray, List.set_cons_zero, List.set_cons_succ]
    refine wpAnyH_take (i := 10) (v := .int .i64 0) rfl (by kernel_rfl) (by kernel_rfl) (by kernel_rfl) (fun _ _ _ h => h) (Or.inl ⟨by kernel_rfl, by (intro w hSw; (try dsimp only at hSw); go_simp)⟩) hHeld ?_
    try simp only [Act.put, List.getElem_toArray, List.getElem_cons_succ, List.getElem_cons_zero, List.setIfInBounds_toArray, List.set_cons_zero, List.set_cons_succ]
    refine wpAnyH_take (i := 11) (v := .bool true) rfl (by kernel_rfl) (by kernel_rfl) (by kernel_rfl) (fun _ _ _ h => h) (Or.inl ⟨by kernel_rfl, by (intro w hSw; (try dsimp only at hSw); go_simp)⟩) hHeld ?_
    try simp only [Act.put, List.getElem_toArray, List.getElem_cons_succ, List.getElem_cons_zero, List.setIfInBounds_toArray, List.set_cons_zero, List.set_cons_succ]
    refine wpAnyH_take (i := 12) (v := .bool true) rfl (by kernel_rfl) (by kernel_rfl) (by kernel_rfl) (fun _ _ _ h => h) (Or.inl ⟨by kernel_rfl, by (intro w hSw; (try dsimp only at hSw); go_simp)⟩) hHeld ?_
    try simp only [Act.put, List.getElem_toArray, List.getElem_cons_succ, List.getElem_cons_zero, List.setIfInBounds_toArray, List.set_cons_zero, List.set_cons_succ]
    refine wpAnyH_take (i := 13) (v := .bool true) rfl (by kernel_rfl) (by kernel_rfl) (by kernel_rfl) (fun _ _ _ h => h) (Or.inl ⟨by kernel_rfl, by (intro w hSw; (try dsimp only at hSw); go_simp)⟩) hHeld ?_
    try simp only [Act.put, List.getElem_toArray, List.getElem_cons_succ, List.getElem_cons_zero, List.setIfInBounds_toArray, List.set_cons_zero, List.set_cons_succ]
    refine wpAnyH_take (i := 14) (v := .int .i64 n) rfl (by kernel_rfl) (by kernel_rfl) (by kernel_rfl) (fun _ _ _ h => h) (Or.inl ⟨by kernel_rfl, by (intro w hSw; (try dsimp only at hSw); go_simp)⟩) hHeld ?_
    try simp only [Act.put, List.getElem_toArray, List.getElem_cons_succ, List.getElem_cons_zero, List.setIfInBounds_toArray, List.set_cons_zero, List.set_cons_succ]
    refine wpAnyH_take (i := 15) (v := .int .i64 n) rfl (by kernel_rfl) (by kernel_rfl) (by kernel_rfl) (fun _ _ _ h => h) (Or.inl ⟨by kernel_rfl, by (intro w hSw; (try dsimp only at hSw); go_simp)⟩) hHeld ?_
    try simp only [Act.put, List.getElem_toArray, List.getElem_cons_succ, List.getElem_cons_zero, List.setIfInBounds_toArray, List.set_cons_zero, List.set_cons_succ]
    refine wpAnyH_take (i := 16) (v := .bool true) rfl (by kernel_rfl) (by kernel_rfl) (by kernel_rfl) (fun _ _ _ h => h) (Or.inl ⟨by kernel_rfl, by (intro w hSw; (try dsimp only at hSw); go_simp)⟩) hHeld ?_
    try simp only [Act.put, List.getElem_toArray, List.getElem_cons_succ, List.getElem_cons_zero, List.setIfInBounds_toArray, List.set_cons_zero, List.set_cons_succ]
    refine wpAnyH_take (i := 17) (v := .bool true) rfl (by kernel_rfl) (by kernel_rfl) (by kernel_rfl) (fun _ _ _ h => h) (Or.inl ⟨by kernel_rfl, by (intro w hSw; (try dsimp only at hSw); go_simp)⟩) hHeld ?_
    try simp only [Act.put, List.getElem_toArray, List.getElem_cons_succ, List.getElem_cons_zero, List.setIfInBounds_toArray, List.set_cons_zero, List.set_cons_succ]
    refine wpAnyH_take (i := 18) (v := .bool true) rfl (by kernel_rfl) (by kernel_rfl) (by kernel_rfl) (fun _ _ _ h => h) (Or.inl ⟨by kernel_rfl, by (intro w hSw; (try dsimp only at hSw); go_simp)⟩) hHeld ?_
    try simp only [Act.put, List.getElem_toArray, List.getElem_cons_succ, List.getElem_cons_zero, List.setIfInBounds_toArray, List.set_cons_zero, List.set_cons_succ]
    refine wpAnyH_ready (rs := [19]) (by kernel_rfl) (by simp) ?_
    refine AllReadyH.cons rfl (fun K hK => ?_) AllReadyH.nil
    go_simp
    refine (known_true _ (hG.out.below (hw.trans (hB.mono hw.size)))).mono ?_
    rintro e v8 ⟨rfl, hc8⟩
    have hB := hB.trans (hc8.mono hB.size)
    have q0 := q0.below hc8
    have q6 := q6.below hc8
    go_wp2_with fail
    refine hK.out _ _ ?_ (fun hHeld => ?_)
    · exact hKeep.out _ hB
    clear hK K
    try simp only [Act.put, List.getElem_toArray, List.getElem_cons_succ, List.getElem_cons_zero, List.setIfInBounds_toArray, List.set_cons_zero, List.set_cons_succ]
    refine wpAnyH_take (i := 20) (v := .bool true) rfl (by kernel_rfl) (by kernel_rfl) (by kernel_rfl) (fun _ _ _ h => h) (Or.inl ⟨by kernel_rfl, by (intro w hSw; (try dsimp only at hSw); go_simp)⟩) hHeld ?_
    try simp only [Act.put, List.getElem_toArray, List.getElem_cons_succ, List.getElem_cons_zero, List.setIfInBounds_toArray, List.set_cons_zero, List.set_cons_succ]
    refine wpAnyH_take (i := 21) (v := .bool true) rfl (by kernel_rfl) (by kernel_rfl) (by kernel_rfl) (fun _ _ _ h => h) (Or.inl ⟨by kernel_rfl, by (intro w hSw; (try dsimp only at hSw); go_simp)⟩) hHeld ?_
    try simp only [Act.put, List.getElem_toArray, List.getElem_cons_succ, List.getElem_cons_zero, List.setIfInBounds_toArray, List.set_cons_zero, List.set_cons_succ]
    refine wpAnyH_done (by kernel_rfl) ?_ _
    have hw := hw.trans (hB.mono hw.size)
    go_wp2
    go_ret
    exact ⟨rfl, hw⟩
end Go.Proofs.YtanaljnclajkdaaGreatDoor.Fr
