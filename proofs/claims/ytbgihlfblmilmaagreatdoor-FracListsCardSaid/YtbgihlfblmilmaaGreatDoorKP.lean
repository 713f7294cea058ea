/- FracLists: sums, products, the greatest one, distributions. -/
import Derived.Test.YtbgihlfblmilmaaGreatDoorLI
import Derived.Test.YtbgihlfblmilmaaGreatDoorJK
import Derived.Test.YtbgihlfblmilmaaGreatDoorGU
import Derived.Test.YtbgihlfblmilmaaGreatDoorGW
import Derived.Test.YtbgihlfblmilmaaGreatDoorGX
import Derived.Test.YtbgihlfblmilmaaGreatDoorHG
import Derived.Test.YtbgihlfblmilmaaGreatDoorHF
namespace Go.Proofs.YtbgihlfblmilmaaGreatDoor.Fr
open Go.RowKit Num

set_option linter.unusedSimpArgs false in
set_option maxHeartbeats 25600000 in
set_option maxRecDepth 100000 in
theorem lists_law (A : Option Addr) (n c : Nat) (w : World) (hF : Fa w A n c) (hG : Gl w) :
    Calls Tryz.prog 13 #[.slice A n c] w fun e w' => e = .returned (.bool true) ∧ Below w.heap.size w w' := by
  have hG := Lib.hid hG
  have hc1 := hF.cap
  have hc2 := hF.top
  by_cases hlong : 8 < n
  · have f1 : decide ((8 : Int) < (n : Int)) = true := decide_eq_true (by omega)
    clear hlong
    go_enter Tryz.func13, Tryz.ntmps13
    go_wp2_with fail
    refine (known_true _ hG.out).mono ?_
    rintro e v1 ⟨rfl, hb⟩
    go_wp2
    go_ret
    exact ⟨rfl, hb⟩
  · have f1 : decide ((8 : Int) < (n : Int)) = false := decide_eq_false (by omega)
    go_enter Tryz.func13, Tryz.ntmps13
    go_wp2
    go_loopw [3] (fun iv wr => ∃ k : Nat, iv = .int .i64 k ∧ k ≤ n ∧ Few w A 4 k ∧ w = wr) (fun iv _ => n - (intOf iv).toNat)
    case atStart => exact ⟨0, rfl, Nat.zero_le _, Few.zero _ _ _, rfl⟩
    case round =>
      obtain ⟨k, rfl, hkn, hfew, rfl⟩ := hrel
      by_cases hlt : k < n
      · obtain ⟨s, A1, n1, d1, A2, n2, d2, xs, ys, hat⟩ := hF.at_ hlt
        have hat0 := hat
        obtain ⟨ad, rfl, k0, k1, k2, e1, e2⟩ := hat
        by_cases h4 : 4 < n1
        · have g1 : decide ((4 : Int) < (n1 : Int)) = true := decide_eq_true (by omega)
          have g2 := decide_eq_true h4
          go_wp2_with fail
          refine (known_true _ hG.out).mono ?_
          rintro e v1 ⟨rfl, hb⟩
          go_wp2
          go_ret
          exact ⟨rfl, hb⟩
        · have g1 : decide ((4 : Int) < (n1 : Int)) = false := decide_eq_false (by omega)
          have g2 := decide_eq_false h4
          by_cases h5 : 4 < n2
          · have g3 : decide ((4 : Int) < (n2 : Int)) = true := decide_eq_true (by omega)
            have g4 := decide_eq_true h5
            go_wp2_with fail
            refine (known_true _ hG.out).mono ?_
            rintro e v1 ⟨rfl, hb⟩
            go_wp2
            go_ret
            exact ⟨rfl, hb⟩
          · have g3 : decide ((4 : Int) < (n2 : Int)) = false := decide_eq_false (by omega)
            have g4 := decide_eq_false h5
            have hnx := hfew.step hat0 (by omega) (by omega)
            go_wp2
            go_roundw
            case rel => exact ⟨k + 1, rfl, hlt, hnx, trivial⟩
            case measure => simp [intOf]; omega
      · obtain rfl : k = n := by omega
        obtain ⟨qs, hL⟩ := Few.ls hF hfew
        have hk8 : k ≤ 8 := by omega
        obtain ⟨z, hz⟩ : ∃ z, bst qs k = z := ⟨_, rfl⟩
        obtain ⟨db, hdb⟩ : ∃ b, (!(ngs qs) && decide (qs.foldl (· + ·) 0 = 1)) = b := ⟨_, rfl⟩
        have hz := Lib.hid hz
        have hdb := Lib.hid hdb
        clear hfew hF hlong hlt
        have hw := Below.refl w.heap.size w
        go_wp2_with fail
        refine (SumQ A k c 4 qs _ hL (by omega)).mono ?_
        rintro e v1 ⟨_, rfl, q1, hb⟩
        obtain ⟨s1, A1, n1, c1, B1, m1, d1, rfl⟩ := q1.form
        have hw := hw.trans (hb.mono hw.size)
        have hL := hL.below bels_af hb
        go_wp2_with fail
        refine (refSumQ A k c 4 qs _ hL (by omega) (by omega)).mono ?_
        rintro e v2 ⟨_, rfl, q2, hb⟩
        obtain ⟨s2, A2, n2, c2, B2, m2, d2, rfl⟩ := q2.form
        have hw := hw.trans (hb.mono hw.size)
        have hL := hL.below bels_af hb
        have q1 := q1.below hb
        go_wp2_with fail
        refine (sameT _ _ _ _ _ _ _ q1 q2 rfl).mono ?_
        rintro e v3 ⟨rfl, hb⟩
        have hw := hw.trans (hb.mono hw.size)
        have hL := hL.below bels_af hb
        clear q1 q2
        go_wp2_with fail
        refine (ProductQ A k c 4 qs _ hL (by omega) (by omega) (by omega)).mono ?_
        rintro e v4 ⟨_, rfl, q1, hb⟩
        obtain ⟨s3, A3, n3, c3, B3, m3, d3, rfl⟩ := q1.form
        have hw := hw.trans (hb.mono hw.size)
        have hL := hL.below bels_af hb
        go_wp2_with fail
        refine (refProductQ A k c 4 qs _ hL (by omega) (by omega)).mono ?_
        rintro e v5 ⟨_, rfl, q2, hb⟩
        obtain ⟨s4, A4, n4, c4, B4, m4, d4, rfl⟩ := q2.form
        have hw := hw.trans (hb.mono hw.size)
        have hL := hL.below bels_af hb
        have q1 := q1.below hb
        go_wp2_with fail
        refine (sameT _ _ _ _ _ _ _ q1 q2 rfl).mono ?_
        rintro e v6 ⟨rfl, hb⟩
        have hw := hw.trans (hb.mono hw.size)
        have hL := hL.below bels_af hb
        clear q1 q2
        go_wp2_with fail
        refine (BestQ A k c 4 qs _ hL (by omega) (by omega)).mono ?_
        rintro e v7 ⟨rfl, hb⟩
        rw [hz.out]
        have hw := hw.trans (hb.mono hw.size)
        have hL := hL.below bels_af hb
        go_wp2_with fail
        refine (refBestQ A k c 4 qs _ hL (by omega)).mono ?_
        rintro e v8 ⟨rfl, hb⟩
        rw [hz.out]
        have hw := hw.trans (hb.mono hw.size)
        have hL := hL.below bels_af hb
        go_wp2_with fail
        refine (DistributionQ A k c 4 qs _ hL (by omega)).mono ?_
        rintro e v9 ⟨rfl, hb⟩
        rw [hdb.out]
        have hw := hw.trans (hb.mono hw.size)
        have hL := hL.below bels_af hb
        go_wp2_with fail
        refine (refDistributionQ A k c 4 qs _ hL (by omega) (by omega)).mono ?_
        rintro e v10 ⟨rfl, hb⟩
        rw [hdb.out]
        have hw := hw.trans (hb.mono hw.size)
        cases db
        all_goals
          go_wp2_with fail
          refine (known_true _ (hG.out.below hw)).mono ?_
          rintro e v11 ⟨rfl, hb⟩
          have hw := hw.trans (hb.mono hw.size)
          go_wp2
          go_ret
          exact ⟨rfl, hw⟩
end Go.Proofs.YtbgihlfblmilmaaGreatDoor.Fr
