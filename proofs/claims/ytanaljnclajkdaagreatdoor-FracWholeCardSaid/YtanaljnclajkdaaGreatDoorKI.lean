/- FracWhole: a number as an integer, rounded down, or the error. -/
import Derived.Test.YtanaljnclajkdaaGreatDoorJK
import Derived.Test.YtanaljnclajkdaaGreatDoorJO
import Derived.Deep.RegionHeld3
namespace Go.Proofs.YtanaljnclajkdaaGreatDoor.Fr
open Go.RowKit Num

set_option linter.unusedSimpArgs false in
set_option maxHeartbeats 25600000 in
set_option maxRecDepth 100000 in
theorem whole_law (sa : Bool) (Aa : Option Addr) (na ca : Nat) (Ba : Option Addr) (ma ea : Nat) (xa ya : List Nat) (w : World) (hxa : Dg .u32 w Aa na ca xa) (hya : Dg .u32 w Ba ma ea ya) (hG : Gl w) :
    Calls Tryz.prog 5 #[.agg #[.bool sa, .slice Aa na ca, .slice Ba ma ea]] w fun e w' => e = .returned (.bool true) ∧ Below w.heap.size w w' := by
  have hG := Lib.hid hG
  have Xa := Blk.new w 24 #[.bool sa, .slice Aa na ca, .slice Ba ma ea]
  have hw := ((Below.refl w.heap.size w).alloc (Nat.le_refl _) (.cells #[.bool sa, .slice Aa na ca, .slice Ba ma ea] 24))
  have hxa := hxa.below hw
  have hya := hya.below hw
  go_enter Tryz.func5, Tryz.ntmps5
  go_upto_region 1 with fail
  generalize (w.alloc (.cells #[.bool sa, .slice Aa na ca, .slice Ba ma ea] 24)) = w1 at *
  have ka0 : w1.cell? ⟨w.heap.size, 0, none⟩ = some (.bool sa) := Xa.cell 0
  have ka1 : w1.cell? ⟨w.heap.size, 1, none⟩ = some (.slice Aa na ca) := Xa.cell 1
  have ka2 : w1.cell? ⟨w.heap.size, 2, none⟩ = some (.slice Ba ma ea) := Xa.cell 2
  have hal := (Below.refl w1.heap.size w1).alloc (Nat.le_refl _) (.cells #[.bool sa, .slice Aa na ca, .slice Ba ma ea] 24)
  have hS := Sm.lit1 (Blk.new w1 24 #[.bool sa, .slice Aa na ca, .slice Ba ma ea])
  have hw := hw.alloc hw.size (.cells #[.bool sa, .slice Aa na ca, .slice Ba ma ea] 24)
  have Xa := Xa.below hal
  have hxa := hxa.below hal
  have hya := hya.below hal
  clear hal
  go_wp2_with fail
  generalize w1.heap.size = gl at *
  generalize w1.alloc (.cells #[.bool sa, .slice Aa na ca, .slice Ba ma ea] 24) = w2 at *
  clear ka0
  clear ka1
  clear ka2
  refine (smallL_any _ _ _ _ _ hS).mono ?_
  rintro e v0 ⟨b, rfl, hiff, rfl⟩
  cases b with
  | false =>
    clear hiff
    go_wp2_with fail
    refine (known_true _ (hG.out.below hw)).mono ?_
    rintro e v1 ⟨rfl, hc1⟩
    go_wp2
    go_ret
    exact ⟨rfl, hw.trans (hc1.mono hw.size)⟩
  | true =>
    obtain ⟨h1a, h2a⟩ := small1_of (hiff.1 rfl)
    obtain ⟨qa, ha⟩ : ∃ q, AF w2 (.agg #[.bool sa, .slice Aa na ca, .slice Ba ma ea]) q 12 := ⟨_, AF.of hxa hya h1a h2a⟩
    clear hiff hS hxa hya h1a h2a
    have hB := Below.refl w2.heap.size w2
    obtain ⟨f, hf0⟩ : ∃ f : Int, qa.floor = f := ⟨_, rfl⟩
    have hf := Lib.hid hf0
    clear hf0
    have ka0 : w2.cell? ⟨w.heap.size, 0, none⟩ = some (.bool sa) := Xa.cell 0
    have ka1 : w2.cell? ⟨w.heap.size, 1, none⟩ = some (.slice Aa na ca) := Xa.cell 1
    have ka2 : w2.cell? ⟨w.heap.size, 2, none⟩ = some (.slice Ba ma ea) := Xa.cell 2
    go_wp2_with fail
    clear ka0 ka1 ka2
    by_cases hr : InI f
    · have hin := Lib.hid hr
      clear hr
      refine (WholeQ _ qa 12 _ ha (by decide)).mono ?_
      rintro e v1 ⟨hc1, hy1, hy2⟩
      rw [hf.out] at hy1 hy2
      obtain rfl := hy1 hin.out
      clear hy1 hy2
      have hw := hw.trans (hc1.mono hw.size)
      have hB := Below.refl v1.heap.size v1
      have ha := ha.below hc1
      have Xa := Xa.below hc1
      have ka0 : v1.cell? ⟨w.heap.size, 0, none⟩ = some (.bool sa) := Xa.cell 0
      have ka1 : v1.cell? ⟨w.heap.size, 1, none⟩ = some (.slice Aa na ca) := Xa.cell 1
      have ka2 : v1.cell? ⟨w.heap.size, 2, none⟩ = some (.slice Ba ma ea) := Xa.cell 2
      go_wp2_with fail
      clear ka0 ka1 ka2
      refine (refDownQ _ qa 12 _ ha (by decide)).mono ?_
      rintro e v2 ⟨_, rfl, q2, hc2⟩
      rw [hf.out] at q2
      have hw := hw.trans (hc2.mono hw.size)
      have hB := Below.refl v2.heap.size v2
      have ha := ha.below hc2
      have Xa := Xa.below hc2
      have q2 := q2.le (show _ ≤ 15 by decide)
      obtain ⟨s2, A2, m2, c2, B2, n2, d2, rfl⟩ := q2.form
      go_wp2_with fail
      refine (refIntQ _ f 15 _ q2).mono ?_
      rintro e v3 ⟨hc3, hy1, hy2⟩
      obtain rfl := hy1 hin.out
      clear hy1 hy2
      have hw := hw.trans (hc3.mono hw.size)
      have hB := Below.refl v3.heap.size v3
      have ha := ha.below hc3
      have q2 := q2.below hc3
      have Xa := Xa.below hc3
      go_wp2_with fail
      refine (known_true _ (hG.out.below hw)).mono ?_
      rintro e v4 ⟨rfl, hc4⟩
      have hw := hw.trans (hc4.mono hw.size)
      have hB := Below.refl v4.heap.size v4
      have ha := ha.below hc4
      have q2 := q2.below hc4
      have Xa := Xa.below hc4
      go_wp2
      go_ret
      exact ⟨rfl, hw⟩
    · have hin := Lib.hid hr
      clear hr
      refine (WholeQ _ qa 12 _ ha (by decide)).mono ?_
      rintro e v1 ⟨hc1, hy1, hy2⟩
      rw [hf.out] at hy1 hy2
      obtain rfl := hy2 hin.out
      clear hy1 hy2
      have hw := hw.trans (hc1.mono hw.size)
      have hB := Below.refl v1.heap.size v1
      have ha := ha.below hc1
      have Xa := Xa.below hc1
      have ka0 : v1.cell? ⟨w.heap.size, 0, none⟩ = some (.bool sa) := Xa.cell 0
      have ka1 : v1.cell? ⟨w.heap.size, 1, none⟩ = some (.slice Aa na ca) := Xa.cell 1
      have ka2 : v1.cell? ⟨w.heap.size, 2, none⟩ = some (.slice Ba ma ea) := Xa.cell 2
      go_wp2_with fail
      clear ka0 ka1 ka2
      refine (refDownQ _ qa 12 _ ha (by decide)).mono ?_
      rintro e v2 ⟨_, rfl, q2, hc2⟩
      rw [hf.out] at q2
      have hw := hw.trans (hc2.mono hw.size)
      have hB := Below.refl v2.heap.size v2
      have ha := ha.below hc2
      have Xa := Xa.below hc2
      have q2 := q2.le (show _ ≤ 15 by decide)
      obtain ⟨s2, A2, m2, c2, B2, n2, d2, rfl⟩ := q2.form
      go_wp2_with fail
      refine (refIntQ _ f 15 _ q2).mono ?_
      rintro e v3 ⟨hc3, hy1, hy2⟩
      obtain ⟨x, rfl⟩ := hy2 hin.out
      clear hy1 hy2
      have hw := hw.trans (hc3.mono hw.size)
      have hB := Below.refl v3.heap.size v3
      have ha := ha.below hc3
      have q2 := q2.below hc3
      have Xa := Xa.below hc3
      go_wp2_with fail
      refine (known_true _ (hG.out.below hw)).mono ?_
      rintro e v4 ⟨rfl, hc4⟩
      have hw := hw.trans (hc4.mono hw.size)
      have hB := Below.refl v4.heap.size v4
      have ha := ha.below hc4
      have q2 := q2.below hc4
      have Xa := Xa.below hc4
      go_wp2
      go_ret
      exact ⟨rfl, hw⟩
end Go.Proofs.YtanaljnclajkdaaGreatDoor.Fr
