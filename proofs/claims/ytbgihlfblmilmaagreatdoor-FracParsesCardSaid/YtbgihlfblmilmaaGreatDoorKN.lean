/- FracParses: which strings are numbers. -/
import Derived.Test.YtbgihlfblmilmaaGreatDoorLA
import Derived.Test.YtbgihlfblmilmaaGreatDoorJK
import Derived.Deep.RegionHeld3
namespace Go.Proofs.YtbgihlfblmilmaaGreatDoor.Fr
open Go.RowKit Num

set_option linter.unusedSimpArgs false in
set_option maxHeartbeats 25600000 in
set_option maxRecDepth 100000 in
theorem parses_law (l : List UInt8) (w : World) (hG : Gl w) :
    Calls Tryz.prog 18 #[.string ⟨l.toArray⟩] w fun e w' => e = .returned (.bool true) ∧ Below w.heap.size w w' := by
  have hG := Lib.hid hG
  have hw := Below.refl w.heap.size w
  by_cases hmid : 200 < l.length ∧ l.length ≤ 10000
  · have d1 : decide ((200 : Int) < (l.length : Int)) = true := decide_eq_true (by omega)
    have d2 : decide ((l.length : Int) ≤ 10000) = true := decide_eq_true (by omega)
    clear hmid
    go_enter Tryz.func18, Tryz.ntmps18
    go_wp2_with fail
    refine (known_true _ hG.out).mono ?_
    rintro e v1 ⟨rfl, hc1⟩
    go_wp2
    go_ret
    exact ⟨rfl, hc1⟩
  · have hh : l.length ≤ 200 ∨ 10000 < l.length := by omega
    have hPt := Lib.hid (fun (W : World) (hg : Gl W) => ParseAll l W hh hg)
    have hRt := Lib.hid (fun (W : World) => refParseAll l W hh)
    obtain ⟨z, hz⟩ : ∃ z, pre l = z := ⟨_, rfl⟩
    obtain ⟨q, hq⟩ : ∃ q, prq l = q := ⟨_, rfl⟩
    rw [hz, hq] at hPt hRt
    clear hz hq
    rcases hh with hh | hh
    · have d1 : decide ((200 : Int) < (l.length : Int)) = false := decide_eq_false (by omega)
      clear hmid hh
      go_enter Tryz.func18, Tryz.ntmps18
      go_wp2_with fail
      refine (hPt.out _ (hG.out.below hw)).mono ?_
      rintro e v1 ⟨_, rfl, q1, hc1⟩
      have hw := hw.trans (hc1.mono hw.size)
      have hB := Below.refl v1.heap.size v1
      have q1 := q1.le (show _ ≤ 40002 by decide)
      obtain ⟨s1, A1, m1, c1, B1, n1, d1, rfl⟩ := q1.form
      have haa := (Below.refl v1.heap.size v1).alloc (Nat.le_refl _) (.cells #[.bool s1, .slice A1 m1 c1, .slice B1 n1 d1] 24)
      have Xa := Blk.new v1 24 #[.bool s1, .slice A1 m1 c1, .slice B1 n1 d1]
      have hw := hw.alloc hw.size (.cells #[.bool s1, .slice A1 m1 c1, .slice B1 n1 d1] 24)
      have q1 := q1.below haa
      clear haa
      go_upto_region 4 with fail
      generalize v1.heap.size = ga at *
      generalize v1.alloc (.cells #[.bool s1, .slice A1 m1 c1, .slice B1 n1 d1] 24) = ua at *
      go_wp2_with fail
      refine (hRt.out _).mono ?_
      rintro e v2 ⟨_, rfl, q2, hc2⟩
      have hw := hw.trans (hc2.mono hw.size)
      have hB := Below.refl v2.heap.size v2
      have q1 := q1.below hc2
      have Xa := Xa.below hc2
      have q2 := q2.le (show _ ≤ 4000 by decide)
      obtain ⟨s2, A2, m2, c2, B2, n2, d2, rfl⟩ := q2.form
      have hab := (Below.refl v2.heap.size v2).alloc (Nat.le_refl _) (.cells #[.bool s2, .slice A2 m2 c2, .slice B2 n2 d2] 24)
      have Xb := Blk.new v2 24 #[.bool s2, .slice A2 m2 c2, .slice B2 n2 d2]
      have hw := hw.alloc hw.size (.cells #[.bool s2, .slice A2 m2 c2, .slice B2 n2 d2] 24)
      have q1 := q1.below hab
      have q2 := q2.below hab
      have Xa := Xa.below hab
      clear hab
      go_upto_region 5 with fail
      generalize v2.heap.size = gb at *
      generalize v2.alloc (.cells #[.bool s2, .slice A2 m2 c2, .slice B2 n2 d2] 24) = ub at *
      clear hPt hRt
      have ka0 : ub.cell? ⟨ga, 0, none⟩ = some (.bool s1) := Xa.cell 0
      have ka1 : ub.cell? ⟨ga, 1, none⟩ = some (.slice A1 m1 c1) := Xa.cell 1
      have ka2 : ub.cell? ⟨ga, 2, none⟩ = some (.slice B1 n1 d1) := Xa.cell 2
      have kb0 : ub.cell? ⟨gb, 0, none⟩ = some (.bool s2) := Xb.cell 0
      have kb1 : ub.cell? ⟨gb, 1, none⟩ = some (.slice A2 m2 c2) := Xb.cell 1
      have kb2 : ub.cell? ⟨gb, 2, none⟩ = some (.slice B2 n2 d2) := Xb.cell 2
      go_wp2_with fail
      refine (sameT _ _ _ _ _ _ _ q1 q2 rfl).mono ?_
      rintro e v3 ⟨rfl, hc3⟩
      have hw := hw.trans (hc3.mono hw.size)
      have hB := Below.refl v3.heap.size v3
      have q1 := q1.below hc3
      have q2 := q2.below hc3
      have Xa := Xa.below hc3
      have Xb := Xb.below hc3
      go_wp2_with fail
      refine (known_true _ (hG.out.below hw)).mono ?_
      rintro e v4 ⟨rfl, hc4⟩
      have hw := hw.trans (hc4.mono hw.size)
      have hB := Below.refl v4.heap.size v4
      have q1 := q1.below hc4
      have q2 := q2.below hc4
      have Xa := Xa.below hc4
      have Xb := Xb.below hc4
      go_wp2
      go_ret
      exact ⟨rfl, hw⟩
    · have d1 : decide ((200 : Int) < (l.length : Int)) = true := decide_eq_true (by omega)
      have d2 : decide ((l.length : Int) ≤ 10000) = false := decide_eq_false (by omega)
      clear hmid hh
      go_enter Tryz.func18, Tryz.ntmps18
      go_wp2_with fail
      refine (hPt.out _ (hG.out.below hw)).mono ?_
      rintro e v1 ⟨_, rfl, q1, hc1⟩
      have hw := hw.trans (hc1.mono hw.size)
      have hB := Below.refl v1.heap.size v1
      have q1 := q1.le (show _ ≤ 40002 by decide)
      obtain ⟨s1, A1, m1, c1, B1, n1, d1, rfl⟩ := q1.form
      have haa := (Below.refl v1.heap.size v1).alloc (Nat.le_refl _) (.cells #[.bool s1, .slice A1 m1 c1, .slice B1 n1 d1] 24)
      have Xa := Blk.new v1 24 #[.bool s1, .slice A1 m1 c1, .slice B1 n1 d1]
      have hw := hw.alloc hw.size (.cells #[.bool s1, .slice A1 m1 c1, .slice B1 n1 d1] 24)
      have q1 := q1.below haa
      clear haa
      go_upto_region 4 with fail
      generalize v1.heap.size = ga at *
      generalize v1.alloc (.cells #[.bool s1, .slice A1 m1 c1, .slice B1 n1 d1] 24) = ua at *
      go_wp2_with fail
      refine (hRt.out _).mono ?_
      rintro e v2 ⟨_, rfl, q2, hc2⟩
      have hw := hw.trans (hc2.mono hw.size)
      have hB := Below.refl v2.heap.size v2
      have q1 := q1.below hc2
      have Xa := Xa.below hc2
      have q2 := q2.le (show _ ≤ 4000 by decide)
      obtain ⟨s2, A2, m2, c2, B2, n2, d2, rfl⟩ := q2.form
      have hab := (Below.refl v2.heap.size v2).alloc (Nat.le_refl _) (.cells #[.bool s2, .slice A2 m2 c2, .slice B2 n2 d2] 24)
      have Xb := Blk.new v2 24 #[.bool s2, .slice A2 m2 c2, .slice B2 n2 d2]
      have hw := hw.alloc hw.size (.cells #[.bool s2, .slice A2 m2 c2, .slice B2 n2 d2] 24)
      have q1 := q1.below hab
      have q2 := q2.below hab
      have Xa := Xa.below hab
      clear hab
      go_upto_region 5 with fail
      generalize v2.heap.size = gb at *
      generalize v2.alloc (.cells #[.bool s2, .slice A2 m2 c2, .slice B2 n2 d2] 24) = ub at *
      clear hPt hRt
      have ka0 : ub.cell? ⟨ga, 0, none⟩ = some (.bool s1) := Xa.cell 0
      have ka1 : ub.cell? ⟨ga, 1, none⟩ = some (.slice A1 m1 c1) := Xa.cell 1
      have ka2 : ub.cell? ⟨ga, 2, none⟩ = some (.slice B1 n1 d1) := Xa.cell 2
      have kb0 : ub.cell? ⟨gb, 0, none⟩ = some (.bool s2) := Xb.cell 0
      have kb1 : ub.cell? ⟨gb, 1, none⟩ = some (.slice A2 m2 c2) := Xb.cell 1
      have kb2 : ub.cell? ⟨gb, 2, none⟩ = some (.slice B2 n2 d2) := Xb.cell 2
      go_wp2_with fail
      refine (sameT _ _ _ _ _ _ _ q1 q2 rfl).mono ?_
      rintro e v3 ⟨rfl, hc3⟩
      have hw := hw.trans (hc3.mono hw.size)
      have hB := Below.refl v3.heap.size v3
      have q1 := q1.below hc3
      have q2 := q2.below hc3
      have Xa := Xa.below hc3
      have Xb := Xb.below hc3
      go_wp2_with fail
      refine (known_true _ (hG.out.below hw)).mono ?_
      rintro e v4 ⟨rfl, hc4⟩
      have hw := hw.trans (hc4.mono hw.size)
      have hB := Below.refl v4.heap.size v4
      have q1 := q1.below hc4
      have q2 := q2.below hc4
      have Xa := Xa.below hc4
      have Xb := Xb.below hc4
      go_wp2
      go_ret
      exact ⟨rfl, hw⟩
end Go.Proofs.YtbgihlfblmilmaaGreatDoor.Fr
