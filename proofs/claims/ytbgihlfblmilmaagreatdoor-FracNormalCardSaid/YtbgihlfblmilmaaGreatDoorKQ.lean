/- FracNormal: lists divided by their sum. -/
import Derived.Test.YtbgihlfblmilmaaGreatDoorLJ
import Derived.Test.YtbgihlfblmilmaaGreatDoorJK
import Derived.Test.YtbgihlfblmilmaaGreatDoorHE
import Derived.Test.YtbgihlfblmilmaaGreatDoorHB
import Derived.Deep.RegionHeld3
namespace Go.Proofs.YtbgihlfblmilmaaGreatDoor.Fr
open Go.RowKit Num

set_option linter.unusedSimpArgs false in
set_option maxHeartbeats 25600000 in
set_option maxRecDepth 100000 in
theorem normal_law (A : Option Addr) (n c : Nat) (w : World) (hF : Fa w A n c) (hG : Gl w) :
    Calls Tryz.prog 14 #[.slice A n c] w fun e w' => e = .returned (.bool true) ∧ Below w.heap.size w w' := by
  have hG := Lib.hid hG
  have hc1 := hF.cap
  have hc2 := hF.top
  by_cases hlong : 8 < n
  · have f1 : decide ((8 : Int) < (n : Int)) = true := decide_eq_true (by omega)
    clear hlong
    go_enter Tryz.func14, Tryz.ntmps14
    go_wp2_with fail
    refine (known_true _ hG.out).mono ?_
    rintro e v1 ⟨rfl, hb⟩
    go_wp2
    go_ret
    exact ⟨rfl, hb⟩
  · have f1 : decide ((8 : Int) < (n : Int)) = false := decide_eq_false (by omega)
    by_cases hall : Few w A 3 n
    · obtain ⟨ql, hL⟩ := Few.ls hF hall
      have hn8 : n ≤ 8 := by omega
      have hlen := Lib.hid hL.len
      clear hall hF hlong
      go_enter Tryz.func14, Tryz.ntmps14
      go_wp2
      go_loopw [3, 4] (fun bv iv wr => ∃ k : Nat, bv = .bool (ngs (ql.take k)) ∧ iv = .int .i64 k ∧ k ≤ n ∧ Ls AF wr A n c 3 ql ∧ Below w.heap.size w wr) (fun _ iv _ => n - (intOf iv).toNat)
      case atStart => exact ⟨0, rfl, rfl, Nat.zero_le _, hL, Below.refl _ _⟩
      case round =>
        clear hL
        obtain ⟨k, rfl, rfl, hkn, hL, hw⟩ := hrel
        by_cases hlt : k < n
        · obtain ⟨ad, s, A1, n1, d1, A2, n2, d2, q, rfl, hq, k0, k1, k2, hv⟩ := hL.af hlt
          obtain ⟨l1, l2⟩ := hv.lens
          have g1 : decide ((3 : Int) < (n1 : Int)) = false := decide_eq_false (by omega)
          have g2 : decide (3 < n1) = false := decide_eq_false (by omega)
          have g3 : decide ((3 : Int) < (n2 : Int)) = false := decide_eq_false (by omega)
          have g4 : decide (3 < n2) = false := decide_eq_false (by omega)
          have hst := Lib.hid (ngs_step hq)
          have hql := Lib.hid (qs_lt q)
          obtain ⟨y, hy⟩ : ∃ y, qs q = y := ⟨_, rfl⟩
          rw [hy] at hql
          have hy := Lib.hid hy
          obtain ⟨b, hbe⟩ : ∃ b, ngs (ql.take k) = b := ⟨_, rfl⟩
          rw [hbe] at hst ⊢
          clear hbe
          cases b with
          | true =>
            have hst2 := Lib.hid (show ngs (ql.take (k + 1)) = true from hst.out)
            go_wp2
            go_roundw
            case rel => exact ⟨k + 1, by rw [hst2.out], rfl, hlt, hL, hw⟩
            case measure => simp [intOf]; omega
          | false =>
            have hst2 := Lib.hid (show ngs (ql.take (k + 1)) = decide (y < 0) by rw [hst.out, hql.out, Bool.false_or])
            go_wp2_with fail
            refine (refSignQ _ q 3 _ hv).mono ?_
            rintro e v1 ⟨rfl, hb⟩
            rw [hy.out]
            have hL := hL.below bels_af hb
            have hw := hw.trans (hb.mono hw.size)
            obtain ⟨b2, hb2⟩ : ∃ b, decide (y < 0) = b := ⟨_, rfl⟩
            rw [hb2] at hst2
            cases b2
            all_goals
              go_wp2
              go_roundw
              case rel => exact ⟨k + 1, by rw [hst2.out], rfl, hlt, hL, hw⟩
              case measure => simp [intOf]; omega
        · obtain rfl : k = n := by omega
          rw [List.take_of_length_le (by rw [hlen.out]; exact Nat.le_refl _)]
          obtain ⟨b, hbe⟩ : ∃ b, ngs ql = b := ⟨_, rfl⟩
          rw [hbe]
          go_wp2_with fail
          refine (NormalizeQ A k c 3 ql _ hL (by omega)).mono ?_
          rintro e v1 ⟨hb, r1, r2, r3⟩
          rw [hbe] at r1 r2 r3
          have hL := hL.below bels_af hb
          have hw := hw.trans (hb.mono hw.size)
          clear hb
          obtain ⟨S, hS⟩ : ∃ S, ql.foldl (· + ·) 0 = S := ⟨_, rfl⟩
          have hbeH := Lib.hid hbe
          rw [hS] at r2 r3
          clear hbe
          cases b with
          | true =>
            obtain rfl := r1 rfl
            clear r1 r2 r3
            go_wp2_with fail
            refine (refSumQ A k c 3 ql _ hL (by omega) (by omega)).mono ?_
            rintro e v2 ⟨_, rfl, q1, hb⟩
            obtain ⟨s1, A1, n1, c1, B1, m1, d1, rfl⟩ := q1.form
            have hw := hw.trans (hb.mono hw.size)
            have hw := hw.alloc hw.size (.cells #[.bool s1, .slice A1 n1 c1, .slice B1 m1 d1] 24)
            go_wp2_with fail
            refine (known_true _ (hG.out.below hw)).mono ?_
            rintro e v3 ⟨rfl, hb⟩
            have hw := hw.trans (hb.mono hw.size)
            go_wp2
            go_ret
            exact ⟨rfl, hw⟩
          | false =>
            have hS := Lib.hid hS
            by_cases hz : S = 0
            · obtain rfl := r2 rfl hz
              have hz := Lib.hid hz
              clear r1 r2 r3
              go_wp2_with fail
              refine (refSumQ A k c 3 ql _ hL (by omega) (by omega)).mono ?_
              rintro e v2 ⟨_, rfl, q1, hb⟩
              rw [hS.out] at q1
              obtain ⟨s1, A1, n1, c1, B1, m1, d1, rfl⟩ := q1.form
              have hw := hw.trans (hb.mono hw.size)
              have hba := (Below.refl v2.heap.size v2).alloc (Nat.le_refl _) (.cells #[.bool s1, .slice A1 n1 c1, .slice B1 m1 d1] 24)
              have X := Blk.new v2 24 #[.bool s1, .slice A1 n1 c1, .slice B1 m1 d1]
              have hw := hw.alloc hw.size (.cells #[.bool s1, .slice A1 n1 c1, .slice B1 m1 d1] 24)
              have q1 := q1.below hba
              have k0 := X.cell 0
              have k1 := X.cell 1
              have k2 := X.cell 2
              go_wp2_with fail
              refine (refSignQ _ S _ _ q1.af).mono ?_
              rintro e v3 ⟨rfl, hb⟩
              rw [qs_zero.2 hz.out]
              have hw := hw.trans (hb.mono hw.size)
              go_wp2_with fail
              refine (known_true _ (hG.out.below hw)).mono ?_
              rintro e v3 ⟨rfl, hb⟩
              have hw := hw.trans (hb.mono hw.size)
              go_wp2
              go_ret
              exact ⟨rfl, hw⟩
            · obtain ⟨A', rfl, hX⟩ := r3 rfl hz
              have hX := hX.fle (show _ ≤ 176 by omega)
              have hd0 := scaled_dist (qs := ql) hbeH.out (by rw [hS.out]; exact hz)
              rw [hS.out] at hd0
              have hdist := Lib.hid hd0
              clear hd0
              have hxc := hX.cap
              have hxt := hX.top
              have hsn : ((qs S : Int) == 0) = false := by rw [beq_eq_false_iff_ne]; exact fun h => hz (qs_zero.1 h)
              obtain ⟨y, hy⟩ : ∃ y, qs S = y := ⟨_, rfl⟩
              rw [hy] at hsn
              have hy := Lib.hid hy
              have hz := Lib.hid hz
              clear r1 r2 r3
              go_wp2_with fail
              refine (refSumQ A k c 3 ql _ hL (by omega) (by omega)).mono ?_
              rintro e v2 ⟨_, rfl, q1, hb⟩
              rw [hS.out] at q1
              have q1 := q1.le (show _ ≤ 51 by omega)
              obtain ⟨s1, A1, n1, c1, B1, m1, d1, rfl⟩ := q1.form
              have hL := hL.below bels_af hb
              have hX := hX.below bels_fq hb
              have hw := hw.trans (hb.mono hw.size)
              have hba := (Below.refl v2.heap.size v2).alloc (Nat.le_refl _) (.cells #[.bool s1, .slice A1 n1 c1, .slice B1 m1 d1] 24)
              have X := Blk.new v2 24 #[.bool s1, .slice A1 n1 c1, .slice B1 m1 d1]
              have hw := hw.alloc hw.size (.cells #[.bool s1, .slice A1 n1 c1, .slice B1 m1 d1] 24)
              have q1 := q1.below hba
              have hL := hL.below bels_af hba
              have hX := hX.below bels_fq hba
              clear hba hb
              go_upto_region 12 with fail
              generalize v2.heap.size = g at *
              generalize v2.alloc (.cells #[.bool s1, .slice A1 n1 c1, .slice B1 m1 d1] 24) = w3 at *
              have k0 := X.cell 0
              have k1 := X.cell 1
              have k2 := X.cell 2
              go_wp2_with fail
              refine (refSignQ _ S _ _ q1.af).mono ?_
              rintro e w4 ⟨rfl, hb⟩
              rw [hy.out]
              have hL := hL.below bels_af hb
              have hX := hX.below bels_fq hb
              have X := X.below hb
              have q1 := q1.below hb
              have hw := hw.trans (hb.mono hw.size)
              clear hb k0 k1 k2
              go_wp2_with fail
              refine (DistributionQ A' k k _ _ _ (hX.imp (fun _ _ _ _ h => FQ.af h)) (by omega)).mono ?_
              rintro e w5 ⟨rfl, hb⟩
              rw [hdist.out]
              have hL := hL.below bels_af hb
              have hX := hX.below bels_fq hb
              have X := X.below hb
              have q1 := q1.below hb
              have hw := hw.trans (hb.mono hw.size)
              clear hb
              have hlx := Lib.hid hX.len
              go_wp2
              go_loopw [8] (fun iv wr => ∃ j : Nat, iv = .int .i64 j ∧ j ≤ k ∧ Ls AF wr A k c 3 ql ∧ Ls FQ wr A' k k (176) (ql.map fun q => q * S⁻¹) ∧ Blk wr g 24 #[.bool s1, .slice A1 n1 c1, .slice B1 m1 d1] ∧ FQ wr (.agg #[.bool s1, .slice A1 n1 c1, .slice B1 m1 d1]) S 51 ∧ Below w.heap.size w wr) (fun iv _ => k - (intOf iv).toNat)
              case atStart => exact ⟨0, rfl, Nat.zero_le _, hL, hX, X, q1, hw⟩
              case round =>
                clear hL hX X q1 hw
                obtain ⟨j, rfl, hjk, hL, hX, X, q1, hw⟩ := hrel
                by_cases hlt2 : j < k
                · obtain ⟨ad, s2, A2, n2, d2, B2, m2, e2, q, rfl, hq, ka0, ka1, ka2, hv⟩ := hL.af hlt2
                  obtain ⟨ad', s3, A3, n3, d3, B3, m3, e3, q', rfl, hq', kb0, kb1, kb2, hv'⟩ := hX.fqat hlt2
                  have hqq : q' = q * S⁻¹ := by
                    rw [List.getElem?_map, hq, Option.map_some] at hq'
                    injection hq' with hq'
                    exact hq'.symm
                  subst hqq
                  clear hq hq'
                  have kc0 := X.cell 0
                  have kc1 := X.cell 1
                  have kc2 := X.cell 2
                  go_upto_region 21 with fail
                  have hKeep := Lib.hid (fun (wx : World) (hb : Below wr.heap.size wr wx) => (⟨(hb.cell (World.block_lt_of_cell? _ _ kb0)).trans kb0, (hb.cell (World.block_lt_of_cell? _ _ kb1)).trans kb1, (hb.cell (World.block_lt_of_cell? _ _ kb2)).trans kb2, (hb.cell (World.block_lt_of_cell? _ _ ka0)).trans ka0, (hb.cell (World.block_lt_of_cell? _ _ ka1)).trans ka1, (hb.cell (World.block_lt_of_cell? _ _ ka2)).trans ka2, (hb.cell (World.block_lt_of_cell? _ _ kc0)).trans kc0, (hb.cell (World.block_lt_of_cell? _ _ kc1)).trans kc1, (hb.cell (World.block_lt_of_cell? _ _ kc2)).trans kc2⟩ : wx.cell? (ad'.add (j * 3)) = some (.bool s3) ∧ wx.cell? ⟨(ad'.add (j * 3)).block, (ad'.add (j * 3)).off + 1, none⟩ = some (.slice A3 n3 d3) ∧ wx.cell? ⟨(ad'.add (j * 3)).block, (ad'.add (j * 3)).off + 2, none⟩ = some (.slice B3 m3 e3) ∧ wx.cell? (ad.add (j * 3)) = some (.bool s2) ∧ wx.cell? ⟨(ad.add (j * 3)).block, (ad.add (j * 3)).off + 1, none⟩ = some (.slice A2 n2 d2) ∧ wx.cell? ⟨(ad.add (j * 3)).block, (ad.add (j * 3)).off + 2, none⟩ = some (.slice B2 m2 e2) ∧ wx.cell? ⟨g, 0, none⟩ = some (.bool s1) ∧ wx.cell? ⟨g, 1, none⟩ = some (.slice A1 n1 c1) ∧ wx.cell? ⟨g, 2, none⟩ = some (.slice B1 m1 d1)))
                  clear kb0 kb1 kb2 ka0 ka1 ka2 kc0 kc1 kc2
                  have hB := bel_drewN (Below.refl wr.heap.size wr) 1
                  have hv := hv.below hB
                  have hv' := hv'.below hB
                  have q1d := q1.below hB
                  refine wp_region_held_drew (S := (fun wx => wx.cell? (ad'.add (j * 3)) = some (.bool s3) ∧ wx.cell? ⟨(ad'.add (j * 3)).block, (ad'.add (j * 3)).off + 1, none⟩ = some (.slice A3 n3 d3) ∧ wx.cell? ⟨(ad'.add (j * 3)).block, (ad'.add (j * 3)).off + 2, none⟩ = some (.slice B3 m3 e3) ∧ wx.cell? (ad.add (j * 3)) = some (.bool s2) ∧ wx.cell? ⟨(ad.add (j * 3)).block, (ad.add (j * 3)).off + 1, none⟩ = some (.slice A2 n2 d2) ∧ wx.cell? ⟨(ad.add (j * 3)).block, (ad.add (j * 3)).off + 2, none⟩ = some (.slice B2 m2 e2) ∧ wx.cell? ⟨g, 0, none⟩ = some (.bool s1) ∧ wx.cell? ⟨g, 1, none⟩ = some (.slice A1 n1 c1) ∧ wx.cell? ⟨g, 2, none⟩ = some (.slice B1 m1 d1))) (by kernel_rfl) (hKeep.out _ hB) (fun hHeld => ?_)
                  refine wpAnyH_take (i := 0) (v := .slice (some ad') k k) rfl (by kernel_rfl) (by kernel_rfl) (by kernel_rfl) (fun _ _ _ h => h) (Or.inl ⟨by kernel_rfl, by (intro w hSw; (try dsimp only at hSw); go_simp)⟩) hHeld ?_
                  try simp only [Act.put, List.getElem_toArray, List.getElem_cons_succ, List.getElem_cons_zero, List.setIfInBounds_toArray, List.set_cons_zero, List.set_cons_succ]
                  refine wpAnyH_take (i := 1) (v := .int .i64 (j : Int)) rfl (by kernel_rfl) (by kernel_rfl) (by kernel_rfl) (fun _ _ _ h => h) (Or.inl ⟨by kernel_rfl, by (intro w hSw; (try dsimp only at hSw); go_simp)⟩) hHeld ?_
                  try simp only [Act.put, List.getElem_toArray, List.getElem_cons_succ, List.getElem_cons_zero, List.setIfInBounds_toArray, List.set_cons_zero, List.set_cons_succ]
                  refine wpAnyH_take (i := 2) (v := .pointer (some (ad'.add (j * 3)))) rfl (by kernel_rfl) (by kernel_rfl) (by kernel_rfl) (fun _ _ _ h => h) (Or.inl ⟨by kernel_rfl, by (intro w hSw; (try dsimp only at hSw); go_simp)⟩) hHeld ?_
                  try simp only [Act.put, List.getElem_toArray, List.getElem_cons_succ, List.getElem_cons_zero, List.setIfInBounds_toArray, List.set_cons_zero, List.set_cons_succ]
                  refine wpAnyH_take (i := 3) (v := .agg #[.bool s3, .slice A3 n3 d3, .slice B3 m3 e3]) rfl (by kernel_rfl) (by kernel_rfl) (by kernel_rfl) (fun _ _ _ h => h) (Or.inl ⟨by kernel_rfl, by (intro w hSw; (try dsimp only at hSw); go_simp)⟩) hHeld ?_
                  try simp only [Act.put, List.getElem_toArray, List.getElem_cons_succ, List.getElem_cons_zero, List.setIfInBounds_toArray, List.set_cons_zero, List.set_cons_succ]
                  refine wpAnyH_take (i := 4) (v := .slice (some ad) k c) rfl (by kernel_rfl) (by kernel_rfl) (by kernel_rfl) (fun _ _ _ h => h) (Or.inl ⟨by kernel_rfl, by (intro w hSw; (try dsimp only at hSw); go_simp)⟩) hHeld ?_
                  try simp only [Act.put, List.getElem_toArray, List.getElem_cons_succ, List.getElem_cons_zero, List.setIfInBounds_toArray, List.set_cons_zero, List.set_cons_succ]
                  refine wpAnyH_take (i := 5) (v := .int .i64 (j : Int)) rfl (by kernel_rfl) (by kernel_rfl) (by kernel_rfl) (fun _ _ _ h => h) (Or.inl ⟨by kernel_rfl, by (intro w hSw; (try dsimp only at hSw); go_simp)⟩) hHeld ?_
                  try simp only [Act.put, List.getElem_toArray, List.getElem_cons_succ, List.getElem_cons_zero, List.setIfInBounds_toArray, List.set_cons_zero, List.set_cons_succ]
                  refine wpAnyH_take (i := 6) (v := .pointer (some (ad.add (j * 3)))) rfl (by kernel_rfl) (by kernel_rfl) (by kernel_rfl) (fun _ _ _ h => h) (Or.inl ⟨by kernel_rfl, by (intro w hSw; (try dsimp only at hSw); go_simp)⟩) hHeld ?_
                  try simp only [Act.put, List.getElem_toArray, List.getElem_cons_succ, List.getElem_cons_zero, List.setIfInBounds_toArray, List.set_cons_zero, List.set_cons_succ]
                  refine wpAnyH_take (i := 7) (v := .agg #[.bool s2, .slice A2 n2 d2, .slice B2 m2 e2]) rfl (by kernel_rfl) (by kernel_rfl) (by kernel_rfl) (fun _ _ _ h => h) (Or.inl ⟨by kernel_rfl, by (intro w hSw; (try dsimp only at hSw); go_simp)⟩) hHeld ?_
                  try simp only [Act.put, List.getElem_toArray, List.getElem_cons_succ, List.getElem_cons_zero, List.setIfInBounds_toArray, List.set_cons_zero, List.set_cons_succ]
                  refine wpAnyH_take (i := 8) (v := .agg #[.bool s1, .slice A1 n1 c1, .slice B1 m1 d1]) rfl (by kernel_rfl) (by kernel_rfl) (by kernel_rfl) (fun _ _ _ h => h) (Or.inl ⟨by kernel_rfl, by (intro w hSw; (try dsimp only at hSw); go_simp)⟩) hHeld ?_
                  try simp only [Act.put, List.getElem_toArray, List.getElem_cons_succ, List.getElem_cons_zero, List.setIfInBounds_toArray, List.set_cons_zero, List.set_cons_succ]
                  refine wpAnyH_ready (rs := [9]) (by kernel_rfl) (by simp) ?_
                  refine AllReadyH.cons rfl (fun K hK => ?_) AllReadyH.nil
                  go_simp
                  refine (refDivQ _ _ q S 3 51 _ hv q1d.af (by decide) hz.out).mono ?_
                  rintro e v8 ⟨_, rfl, q8, hb⟩
                  obtain ⟨s8, A8, n8, d8, B8, m8, e8, rfl⟩ := q8.form
                  have hB := hB.trans (hb.mono hB.size)
                  have hv' := hv'.below hb
                  go_wp2_with fail
                  refine hK.out _ _ ?_ (fun hHeld => ?_)
                  · exact hKeep.out _ hB
                  clear hK K
                  try simp only [Act.put, List.getElem_toArray, List.getElem_cons_succ, List.getElem_cons_zero, List.setIfInBounds_toArray, List.set_cons_zero, List.set_cons_succ]
                  refine wpAnyH_ready (rs := [10]) (by kernel_rfl) (by simp) ?_
                  refine AllReadyH.cons rfl (fun K hK => ?_) AllReadyH.nil
                  go_simp
                  refine (sameT _ _ _ _ _ _ _ hv' q8 rfl).mono ?_
                  rintro e v9 ⟨rfl, hb⟩
                  have hB := hB.trans (hb.mono hB.size)
                  go_wp2_with fail
                  refine hK.out _ _ ?_ (fun hHeld => ?_)
                  · exact hKeep.out _ hB
                  clear hK K
                  try simp only [Act.put, List.getElem_toArray, List.getElem_cons_succ, List.getElem_cons_zero, List.setIfInBounds_toArray, List.set_cons_zero, List.set_cons_succ]
                  refine wpAnyH_take (i := 11) (v := .bool false) rfl (by kernel_rfl) (by kernel_rfl) (by kernel_rfl) (fun _ _ _ h => h) (Or.inl ⟨by kernel_rfl, by (intro w hSw; (try dsimp only at hSw); go_simp)⟩) hHeld ?_
                  try simp only [Act.put, List.getElem_toArray, List.getElem_cons_succ, List.getElem_cons_zero, List.setIfInBounds_toArray, List.set_cons_zero, List.set_cons_succ]
                  refine wpAnyH_done (by kernel_rfl) ?_ _
                  have hL := hL.below bels_af hB
                  have hX := hX.below bels_fq hB
                  have X := X.below hB
                  have q1 := q1.below hB
                  have hw := hw.trans (hB.mono hw.size)
                  clear hKeep
                  go_wp2
                  go_roundw
                  case rel => exact ⟨j + 1, rfl, hlt2, hL, hX, X, q1, hw⟩
                  case measure => simp [intOf]; omega
                · obtain rfl : j = k := by omega
                  go_wp2_with fail
                  refine (known_true _ (hG.out.below hw)).mono ?_
                  rintro e v3 ⟨rfl, hb⟩
                  have hw := hw.trans (hb.mono hw.size)
                  go_wp2
                  go_ret
                  exact ⟨rfl, hw⟩
    · clear hlong
      go_enter Tryz.func14, Tryz.ntmps14
      go_wp2
      go_loopw [3, 4] (fun bv iv wr => ∃ (k : Nat) (b : Bool), bv = .bool b ∧ iv = .int .i64 k ∧ k ≤ n ∧ Few w A 3 k ∧ Below w.heap.size w wr) (fun _ iv _ => n - (intOf iv).toNat)
      case atStart => exact ⟨0, false, rfl, rfl, Nat.zero_le _, Few.zero _ _ _, Below.refl _ _⟩
      case round =>
        obtain ⟨k, b, rfl, rfl, hkn, hfew, hw⟩ := hrel
        by_cases hlt : k < n
        · obtain ⟨s, A1, n1, d1, A2, n2, d2, xs, ys, hat⟩ := hF.at_ hlt
          have hat0 := Lib.hid hat
          obtain ⟨ad, rfl, k0, k1, k2, e1, e2⟩ := hat
          have k0 := (hw.cell (World.block_lt_of_cell? _ _ k0)).trans k0
          have k1 := (hw.cell (World.block_lt_of_cell? _ _ k1)).trans k1
          have k2 := (hw.cell (World.block_lt_of_cell? _ _ k2)).trans k2
          have e1 := e1.below hw
          have e2 := e2.below hw
          by_cases h4 : 3 < n1
          · have g1 : decide ((3 : Int) < (n1 : Int)) = true := decide_eq_true (by omega)
            have g2 := decide_eq_true h4
            go_wp2_with fail
            refine (known_true _ (hG.out.below hw)).mono ?_
            rintro e v1 ⟨rfl, hb⟩
            have hw := hw.trans (hb.mono hw.size)
            go_wp2
            go_ret
            exact ⟨rfl, hw⟩
          · have g1 : decide ((3 : Int) < (n1 : Int)) = false := decide_eq_false (by omega)
            have g2 := decide_eq_false h4
            by_cases h5 : 3 < n2
            · have g3 : decide ((3 : Int) < (n2 : Int)) = true := decide_eq_true (by omega)
              have g4 := decide_eq_true h5
              go_wp2_with fail
              refine (known_true _ (hG.out.below hw)).mono ?_
              rintro e v1 ⟨rfl, hb⟩
              have hw := hw.trans (hb.mono hw.size)
              go_wp2
              go_ret
              exact ⟨rfl, hw⟩
            · have g3 : decide ((3 : Int) < (n2 : Int)) = false := decide_eq_false (by omega)
              have g4 := decide_eq_false h5
              have hnx := hfew.step hat0.out (by omega) (by omega)
              have hv := AF.of (s := s) (L := 3) e1 e2 (by omega) (by omega)
              clear h4 h5
              cases b with
              | true =>
                go_wp2
                go_roundw
                case rel => exact ⟨k + 1, _, rfl, rfl, hlt, hnx, hw⟩
                case measure => simp [intOf]; omega
              | false =>
                obtain ⟨q, hq⟩ : ∃ q, fq s (vl (bs .u32) xs) (dn (vl (bs .u32) ys)) = q := ⟨_, rfl⟩
                rw [hq] at hv
                clear hq
                obtain ⟨y, hy⟩ : ∃ y, qs q = y := ⟨_, rfl⟩
                have hy := Lib.hid hy
                go_wp2_with fail
                refine (refSignQ _ q 3 _ hv).mono ?_
                rintro e v1 ⟨rfl, hb⟩
                rw [hy.out]
                have hw := hw.trans (hb.mono hw.size)
                obtain ⟨b2, hb2⟩ : ∃ b, decide (y < 0) = b := ⟨_, rfl⟩
                cases b2
                all_goals
                  go_wp2
                  go_roundw
                  case rel => exact ⟨k + 1, _, rfl, rfl, hlt, hnx, hw⟩
                  case measure => simp [intOf]; omega
        · obtain rfl : k = n := by omega
          exact absurd hfew hall
end Go.Proofs.YtbgihlfblmilmaaGreatDoor.Fr
