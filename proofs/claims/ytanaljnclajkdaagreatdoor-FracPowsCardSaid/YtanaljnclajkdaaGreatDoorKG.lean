/- FracPows: powers, or the errors. -/
import Derived.Test.YtanaljnclajkdaaGreatDoorJK
import Derived.Test.YtanaljnclajkdaaGreatDoorHF
import Derived.Test.YtanaljnclajkdaaGreatDoorHO
import Derived.Deep.RegionHeld3
namespace Go.Proofs.YtanaljnclajkdaaGreatDoor.Fr
open Go.RowKit Num

theorem refPowB (v1 : Value) (q1 : Rat) (n L : Nat) (w : World) (h1 : AF w v1 q1 L) (hn : n ≤ 12) (hL : L = 4 := by rfl) :
    Calls Tryz.prog 49 #[v1, .int .i64 (n : Int)] w (RetFQ w (q1 ^ n) 120) := by
  subst hL
  refine (refPowQ v1 q1 n 4 w h1 (by omega) (by omega)).mono ?_
  rintro e w' ⟨v, e1, h, hb⟩
  exact ⟨v, e1, h.le (by omega), hb⟩
theorem refPowNegQ' (v1 : Value) (q1 : Rat) (n : Nat) (nn : Int) (L : Nat) (w : World) (h1 : AF w v1 q1 L) (hnn : -(n : Int) = nn) (hz : q1 ≠ 0) (hn : 1 ≤ n) (hn2 : n ≤ 12) (_ : n ≤ 12) (hL : L = 4 := by rfl) :
    Calls Tryz.prog 49 #[v1, .int .i64 nn] w (RetFQ w (q1⁻¹ ^ n) 120) := by
  subst hL
  rw [← hnn]
  refine (refPowNegQ v1 q1 n 4 w h1 hz (by omega) hn (by omega)).mono ?_
  rintro e w' ⟨v, e1, h, hb⟩
  exact ⟨v, e1, h.le (by omega), hb⟩
set_option linter.unusedSimpArgs false in
set_option maxHeartbeats 25600000 in
set_option maxRecDepth 100000 in
theorem pows_law (sa : Bool) (Aa : Option Addr) (na ca : Nat) (Ba : Option Addr) (ma ea : Nat) (xa ya : List Nat) (n : Int) (w : World) (hxa : Dg .u32 w Aa na ca xa) (hya : Dg .u32 w Ba ma ea ya) (_hn : -9223372036854775808 ≤ n ∧ n ≤ 9223372036854775807) (hG : Gl w) :
    Calls Tryz.prog 9 #[.agg #[.bool sa, .slice Aa na ca, .slice Ba ma ea], .int .i64 n] w fun e w' => e = .returned (.bool true) ∧ Below w.heap.size w w' := by
  have hG := Lib.hid hG
  have Xa := Blk.new w 24 #[.bool sa, .slice Aa na ca, .slice Ba ma ea]
  have hw := ((Below.refl w.heap.size w).alloc (Nat.le_refl _) (.cells #[.bool sa, .slice Aa na ca, .slice Ba ma ea] 24))
  have hxa := hxa.below hw
  have hya := hya.below hw
  go_enter Tryz.func9, Tryz.ntmps9
  go_upto_region 1 with fail
  generalize (w.alloc (.cells #[.bool sa, .slice Aa na ca, .slice Ba ma ea] 24)) = w1 at *
  have hcase : ((12 < n ∧ n ≤ 4096) ∨ (n < -12 ∧ -4096 ≤ n)) ∨ (4096 < n ∨ n < -4096) ∨ (-12 ≤ n ∧ n ≤ 12) := by omega
  have ka0 : w1.cell? ⟨w.heap.size, 0, none⟩ = some (.bool sa) := Xa.cell 0
  have ka1 : w1.cell? ⟨w.heap.size, 1, none⟩ = some (.slice Aa na ca) := Xa.cell 1
  have ka2 : w1.cell? ⟨w.heap.size, 2, none⟩ = some (.slice Ba ma ea) := Xa.cell 2
  by_cases hl_na : 4 < na
  · have f1 : decide ((4 : Int) < (na : Int)) = true := decide_eq_true (by omega)
    have f2 := decide_eq_true hl_na
    go_wp2_with fail
    refine (known_true _ (hG.out.below hw)).mono ?_
    rintro e v1 ⟨rfl, hc1⟩
    go_wp2
    go_ret
    exact ⟨rfl, hw.trans (hc1.mono hw.size)⟩
  have g1_na : decide ((4 : Int) < (na : Int)) = false := decide_eq_false (by omega)
  have g2_na := decide_eq_false hl_na
  by_cases hl_ma : 4 < ma
  · have f1 : decide ((4 : Int) < (ma : Int)) = true := decide_eq_true (by omega)
    have f2 := decide_eq_true hl_ma
    go_wp2_with fail
    refine (known_true _ (hG.out.below hw)).mono ?_
    rintro e v1 ⟨rfl, hc1⟩
    go_wp2
    go_ret
    exact ⟨rfl, hw.trans (hc1.mono hw.size)⟩
  have g1_ma : decide ((4 : Int) < (ma : Int)) = false := decide_eq_false (by omega)
  have g2_ma := decide_eq_false hl_ma
  obtain ⟨qa, ha⟩ : ∃ q, AF w1 (.agg #[.bool sa, .slice Aa na ca, .slice Ba ma ea]) q 4 := ⟨_, AF.of hxa hya (by omega) (by omega)⟩
  have hB := Below.refl w1.heap.size w1
  clear hxa
  clear hya
  rcases hcase with hk | hlong | hin
  · rcases hk with ⟨hk1, hk2⟩ | ⟨hk1, hk2⟩
    · have f1 : decide ((12 : Int) < n) = true := decide_eq_true (by omega)
      have f2 : decide (n ≤ 4096) = true := decide_eq_true (by omega)
      have f3 : decide (-4096 ≤ n) = true := decide_eq_true (by omega)
      clear hk1 hk2
      go_wp2_with fail
      refine (known_true _ (hG.out.below hw)).mono ?_
      rintro e v1 ⟨rfl, hc1⟩
      go_wp2
      go_ret
      exact ⟨rfl, hw.trans (hc1.mono hw.size)⟩
    · have f1 : decide ((12 : Int) < n) = false := decide_eq_false (by omega)
      have f0 : decide (n < -12) = true := decide_eq_true (by omega)
      have f2 : decide (n ≤ 4096) = true := decide_eq_true (by omega)
      have f3 : decide (-4096 ≤ n) = true := decide_eq_true (by omega)
      clear hk1 hk2
      go_wp2_with fail
      refine (known_true _ (hG.out.below hw)).mono ?_
      rintro e v1 ⟨rfl, hc1⟩
      go_wp2
      go_ret
      exact ⟨rfl, hw.trans (hc1.mono hw.size)⟩
  · rcases hlong with hk1 | hk1
    · have f1 : decide ((12 : Int) < n) = true := decide_eq_true (by omega)
      have f2 : decide (n ≤ 4096) = false := decide_eq_false (by omega)
      have f4 : decide (4096 < n) = true := decide_eq_true (by omega)
      have hk1 := Lib.hid hk1
      go_wp2_with fail
      clear ka0 ka1 ka2 hl_na g1_na g2_na hl_ma g1_ma g2_ma
      refine (PowLongQ _ qa n 4 _ ha (by have := hk1.out; omega)).mono ?_
      rintro e v1 ⟨_, rfl, q1, hc1⟩
      have hw := hw.trans (hc1.mono hw.size)
      have hB := Below.refl v1.heap.size v1
      have ha := ha.below hc1
      have Xa := Xa.below hc1
      have q1 := q1.le (show _ ≤ 0 by decide)
      obtain ⟨s1, A1, m1, c1, B1, n1, d1, rfl⟩ := q1.form
      have had := (Below.refl v1.heap.size v1).alloc (Nat.le_refl _) (.cells #[.bool s1, .slice A1 m1 c1, .slice B1 n1 d1] 24)
      have Xd := Blk.new v1 24 #[.bool s1, .slice A1 m1 c1, .slice B1 n1 d1]
      have hw := hw.alloc hw.size (.cells #[.bool s1, .slice A1 m1 c1, .slice B1 n1 d1] 24)
      have ha := ha.below had
      have q1 := q1.below had
      have Xa := Xa.below had
      clear had
      have kd0 : (v1.alloc (.cells #[.bool s1, .slice A1 m1 c1, .slice B1 n1 d1] 24)).cell? ⟨v1.heap.size, 0, none⟩ = some (.bool s1) := Xd.cell 0
      have kd1 : (v1.alloc (.cells #[.bool s1, .slice A1 m1 c1, .slice B1 n1 d1] 24)).cell? ⟨v1.heap.size, 1, none⟩ = some (.slice A1 m1 c1) := Xd.cell 1
      have kd2 : (v1.alloc (.cells #[.bool s1, .slice A1 m1 c1, .slice B1 n1 d1] 24)).cell? ⟨v1.heap.size, 2, none⟩ = some (.slice B1 n1 d1) := Xd.cell 2
      go_wp2_with fail
      generalize v1.heap.size = gd at *
      generalize v1.alloc (.cells #[.bool s1, .slice A1 m1 c1, .slice B1 n1 d1] 24) = ud at *
      refine (sameT _ _ _ _ _ _ _ q1 (FQ.zero _) rfl).mono ?_
      rintro e v2 ⟨rfl, hc2⟩
      have hw := hw.trans (hc2.mono hw.size)
      have hB := Below.refl v2.heap.size v2
      have ha := ha.below hc2
      have q1 := q1.below hc2
      have Xa := Xa.below hc2
      have Xd := Xd.below hc2
      go_wp2_with fail
      refine (known_true _ (hG.out.below hw)).mono ?_
      rintro e v3 ⟨rfl, hc3⟩
      have hw := hw.trans (hc3.mono hw.size)
      have hB := Below.refl v3.heap.size v3
      have ha := ha.below hc3
      have q1 := q1.below hc3
      have Xa := Xa.below hc3
      have Xd := Xd.below hc3
      go_wp2
      go_ret
      exact ⟨rfl, hw⟩
    · have f1 : decide ((12 : Int) < n) = false := decide_eq_false (by omega)
      have f0 : decide (n < -12) = true := decide_eq_true (by omega)
      have f2 : decide (n ≤ 4096) = true := decide_eq_true (by omega)
      have f3 : decide (-4096 ≤ n) = false := decide_eq_false (by omega)
      have f4 : decide (4096 < n) = false := decide_eq_false (by omega)
      have f5 : decide (n < -4096) = true := decide_eq_true (by omega)
      have hk1 := Lib.hid hk1
      go_wp2_with fail
      clear ka0 ka1 ka2 hl_na g1_na g2_na hl_ma g1_ma g2_ma
      refine (PowLongQ _ qa n 4 _ ha (by have := hk1.out; omega)).mono ?_
      rintro e v1 ⟨_, rfl, q1, hc1⟩
      have hw := hw.trans (hc1.mono hw.size)
      have hB := Below.refl v1.heap.size v1
      have ha := ha.below hc1
      have Xa := Xa.below hc1
      have q1 := q1.le (show _ ≤ 0 by decide)
      obtain ⟨s1, A1, m1, c1, B1, n1, d1, rfl⟩ := q1.form
      have had := (Below.refl v1.heap.size v1).alloc (Nat.le_refl _) (.cells #[.bool s1, .slice A1 m1 c1, .slice B1 n1 d1] 24)
      have Xd := Blk.new v1 24 #[.bool s1, .slice A1 m1 c1, .slice B1 n1 d1]
      have hw := hw.alloc hw.size (.cells #[.bool s1, .slice A1 m1 c1, .slice B1 n1 d1] 24)
      have ha := ha.below had
      have q1 := q1.below had
      have Xa := Xa.below had
      clear had
      have kd0 : (v1.alloc (.cells #[.bool s1, .slice A1 m1 c1, .slice B1 n1 d1] 24)).cell? ⟨v1.heap.size, 0, none⟩ = some (.bool s1) := Xd.cell 0
      have kd1 : (v1.alloc (.cells #[.bool s1, .slice A1 m1 c1, .slice B1 n1 d1] 24)).cell? ⟨v1.heap.size, 1, none⟩ = some (.slice A1 m1 c1) := Xd.cell 1
      have kd2 : (v1.alloc (.cells #[.bool s1, .slice A1 m1 c1, .slice B1 n1 d1] 24)).cell? ⟨v1.heap.size, 2, none⟩ = some (.slice B1 n1 d1) := Xd.cell 2
      go_wp2_with fail
      generalize v1.heap.size = gd at *
      generalize v1.alloc (.cells #[.bool s1, .slice A1 m1 c1, .slice B1 n1 d1] 24) = ud at *
      refine (sameT _ _ _ _ _ _ _ q1 (FQ.zero _) rfl).mono ?_
      rintro e v2 ⟨rfl, hc2⟩
      have hw := hw.trans (hc2.mono hw.size)
      have hB := Below.refl v2.heap.size v2
      have ha := ha.below hc2
      have q1 := q1.below hc2
      have Xa := Xa.below hc2
      have Xd := Xd.below hc2
      go_wp2_with fail
      refine (known_true _ (hG.out.below hw)).mono ?_
      rintro e v3 ⟨rfl, hc3⟩
      have hw := hw.trans (hc3.mono hw.size)
      have hB := Below.refl v3.heap.size v3
      have ha := ha.below hc3
      have q1 := q1.below hc3
      have Xa := Xa.below hc3
      have Xd := Xd.below hc3
      go_wp2
      go_ret
      exact ⟨rfl, hw⟩
  · have f1 : decide ((12 : Int) < n) = false := decide_eq_false (by omega)
    have f0 : decide (n < -12) = false := decide_eq_false (by omega)
    have f4 : decide (4096 < n) = false := decide_eq_false (by omega)
    have f5 : decide (n < -4096) = false := decide_eq_false (by omega)
    have hin := Lib.hid hin
    by_cases hneg : n < 0
    case pos =>
      by_cases hz : qa = 0
      case pos =>
        obtain ⟨k, rfl⟩ : ∃ k : Nat, n = -(k : Int) := ⟨n.natAbs, by omega⟩
        have f6 : decide (-(k : Int) < 0) = true := decide_eq_true hneg
        have hkb := Lib.hid (show 1 ≤ k ∧ k ≤ 12 by have := hin.out; omega)
        generalize hnn : -(k : Int) = nn at *
        have hnn := Lib.hid hnn
        clear hneg
        have hz := Lib.hid hz
        go_wp2_with fail
        clear ka0 ka1 ka2 hl_na g1_na g2_na hl_ma g1_ma g2_ma
        rw [← hnn.out]
        refine (PowZeroQ _ qa k 4 _ ha hz.out (by have := hkb.out; omega) (by have := hkb.out; omega) (by decide)).mono ?_
        rintro e v1 ⟨_, rfl, q1, hc1⟩
        have hw := hw.trans (hc1.mono hw.size)
        have hB := Below.refl v1.heap.size v1
        have ha := ha.below hc1
        have Xa := Xa.below hc1
        have q1 := q1.le (show _ ≤ 0 by decide)
        obtain ⟨s1, A1, m1, c1, B1, n1, d1, rfl⟩ := q1.form
        have had := (Below.refl v1.heap.size v1).alloc (Nat.le_refl _) (.cells #[.bool s1, .slice A1 m1 c1, .slice B1 n1 d1] 24)
        have Xd := Blk.new v1 24 #[.bool s1, .slice A1 m1 c1, .slice B1 n1 d1]
        have hw := hw.alloc hw.size (.cells #[.bool s1, .slice A1 m1 c1, .slice B1 n1 d1] 24)
        have ha := ha.below had
        have q1 := q1.below had
        have Xa := Xa.below had
        clear had
        have kd0 : (v1.alloc (.cells #[.bool s1, .slice A1 m1 c1, .slice B1 n1 d1] 24)).cell? ⟨v1.heap.size, 0, none⟩ = some (.bool s1) := Xd.cell 0
        have kd1 : (v1.alloc (.cells #[.bool s1, .slice A1 m1 c1, .slice B1 n1 d1] 24)).cell? ⟨v1.heap.size, 1, none⟩ = some (.slice A1 m1 c1) := Xd.cell 1
        have kd2 : (v1.alloc (.cells #[.bool s1, .slice A1 m1 c1, .slice B1 n1 d1] 24)).cell? ⟨v1.heap.size, 2, none⟩ = some (.slice B1 n1 d1) := Xd.cell 2
        have ka0 : (v1.alloc (.cells #[.bool s1, .slice A1 m1 c1, .slice B1 n1 d1] 24)).cell? ⟨w.heap.size, 0, none⟩ = some (.bool sa) := Xa.cell 0
        have ka1 : (v1.alloc (.cells #[.bool s1, .slice A1 m1 c1, .slice B1 n1 d1] 24)).cell? ⟨w.heap.size, 1, none⟩ = some (.slice Aa na ca) := Xa.cell 1
        have ka2 : (v1.alloc (.cells #[.bool s1, .slice A1 m1 c1, .slice B1 n1 d1] 24)).cell? ⟨w.heap.size, 2, none⟩ = some (.slice Ba ma ea) := Xa.cell 2
        go_wp2_with fail
        generalize v1.heap.size = gd at *
        generalize v1.alloc (.cells #[.bool s1, .slice A1 m1 c1, .slice B1 n1 d1] 24) = ud at *
        clear kd0 kd1 kd2 ka0 ka1 ka2
        refine (refSignQ _ qa 4 _ ha).mono ?_
        rintro e v2 ⟨rfl, hc2⟩
        rw [qs_zero.2 hz.out]
        have hw := hw.trans (hc2.mono hw.size)
        have hB := Below.refl v2.heap.size v2
        have ha := ha.below hc2
        have q1 := q1.below hc2
        have Xa := Xa.below hc2
        have Xd := Xd.below hc2
        have kd0 : v2.cell? ⟨gd, 0, none⟩ = some (.bool s1) := Xd.cell 0
        have kd1 : v2.cell? ⟨gd, 1, none⟩ = some (.slice A1 m1 c1) := Xd.cell 1
        have kd2 : v2.cell? ⟨gd, 2, none⟩ = some (.slice B1 n1 d1) := Xd.cell 2
        go_wp2_with fail
        refine (sameT _ _ _ _ _ _ _ q1 (FQ.zero _) rfl).mono ?_
        rintro e v3 ⟨rfl, hc3⟩
        have hw := hw.trans (hc3.mono hw.size)
        have hB := Below.refl v3.heap.size v3
        have ha := ha.below hc3
        have q1 := q1.below hc3
        have Xa := Xa.below hc3
        have Xd := Xd.below hc3
        go_wp2_with fail
        refine (known_true _ (hG.out.below hw)).mono ?_
        rintro e v4 ⟨rfl, hc4⟩
        have hw := hw.trans (hc4.mono hw.size)
        have hB := Below.refl v4.heap.size v4
        have ha := ha.below hc4
        have q1 := q1.below hc4
        have Xa := Xa.below hc4
        have Xd := Xd.below hc4
        go_wp2
        go_ret
        exact ⟨rfl, hw⟩
      case neg =>
        obtain ⟨k, rfl⟩ : ∃ k : Nat, n = -(k : Int) := ⟨n.natAbs, by omega⟩
        have f6 : decide (-(k : Int) < 0) = true := decide_eq_true hneg
        have hkb := Lib.hid (show 1 ≤ k ∧ k ≤ 12 by have := hin.out; omega)
        generalize hnn : -(k : Int) = nn at *
        have hnn := Lib.hid hnn
        clear hneg
        have hz := Lib.hid hz
        go_wp2_with fail
        clear ka0 ka1 ka2 hl_na g1_na g2_na hl_ma g1_ma g2_ma
        rw [← hnn.out]
        refine (PowNegQ _ qa k 4 120 _ ha hz.out (by have := hkb.out; omega) (by have := hkb.out; omega) (by have := hkb.out; omega) (by decide) (by decide)).mono ?_
        rintro e v1 ⟨_, rfl, q1, hc1⟩
        have hw := hw.trans (hc1.mono hw.size)
        have hB := Below.refl v1.heap.size v1
        have ha := ha.below hc1
        have Xa := Xa.below hc1
        have q1 := q1.le (show _ ≤ 240 by decide)
        obtain ⟨s1, A1, m1, c1, B1, n1, d1, rfl⟩ := q1.form
        have had := (Below.refl v1.heap.size v1).alloc (Nat.le_refl _) (.cells #[.bool s1, .slice A1 m1 c1, .slice B1 n1 d1] 24)
        have Xd := Blk.new v1 24 #[.bool s1, .slice A1 m1 c1, .slice B1 n1 d1]
        have hw := hw.alloc hw.size (.cells #[.bool s1, .slice A1 m1 c1, .slice B1 n1 d1] 24)
        have ha := ha.below had
        have q1 := q1.below had
        have Xa := Xa.below had
        clear had
        have kd0 : (v1.alloc (.cells #[.bool s1, .slice A1 m1 c1, .slice B1 n1 d1] 24)).cell? ⟨v1.heap.size, 0, none⟩ = some (.bool s1) := Xd.cell 0
        have kd1 : (v1.alloc (.cells #[.bool s1, .slice A1 m1 c1, .slice B1 n1 d1] 24)).cell? ⟨v1.heap.size, 1, none⟩ = some (.slice A1 m1 c1) := Xd.cell 1
        have kd2 : (v1.alloc (.cells #[.bool s1, .slice A1 m1 c1, .slice B1 n1 d1] 24)).cell? ⟨v1.heap.size, 2, none⟩ = some (.slice B1 n1 d1) := Xd.cell 2
        have ka0 : (v1.alloc (.cells #[.bool s1, .slice A1 m1 c1, .slice B1 n1 d1] 24)).cell? ⟨w.heap.size, 0, none⟩ = some (.bool sa) := Xa.cell 0
        have ka1 : (v1.alloc (.cells #[.bool s1, .slice A1 m1 c1, .slice B1 n1 d1] 24)).cell? ⟨w.heap.size, 1, none⟩ = some (.slice Aa na ca) := Xa.cell 1
        have ka2 : (v1.alloc (.cells #[.bool s1, .slice A1 m1 c1, .slice B1 n1 d1] 24)).cell? ⟨w.heap.size, 2, none⟩ = some (.slice Ba ma ea) := Xa.cell 2
        go_wp2_with fail
        generalize v1.heap.size = gd at *
        generalize v1.alloc (.cells #[.bool s1, .slice A1 m1 c1, .slice B1 n1 d1] 24) = ud at *
        clear kd0 kd1 kd2 ka0 ka1 ka2
        obtain ⟨y, hy⟩ : ∃ y, qs qa = y := ⟨_, rfl⟩
        have hsn : ((y : Int) == 0) = false := by rw [← hy, beq_eq_false_iff_ne]; exact fun h => hz.out (qs_zero.1 h)
        have hy := Lib.hid hy
        refine (refSignQ _ qa 4 _ ha).mono ?_
        rintro e v2 ⟨rfl, hc2⟩
        rw [hy.out]
        have hw := hw.trans (hc2.mono hw.size)
        have hB := Below.refl v2.heap.size v2
        have ha := ha.below hc2
        have q1 := q1.below hc2
        have Xa := Xa.below hc2
        have Xd := Xd.below hc2
        go_upto_region 8 with fail
        have ka_0 : v2.cell? ⟨w.heap.size, 0, none⟩ = some (.bool sa) := Xa.cell 0
        have ka_1 : v2.cell? ⟨w.heap.size, 1, none⟩ = some (.slice Aa na ca) := Xa.cell 1
        have ka_2 : v2.cell? ⟨w.heap.size, 2, none⟩ = some (.slice Ba ma ea) := Xa.cell 2
        have kd_0 : v2.cell? ⟨gd, 0, none⟩ = some (.bool s1) := Xd.cell 0
        have kd_1 : v2.cell? ⟨gd, 1, none⟩ = some (.slice A1 m1 c1) := Xd.cell 1
        have kd_2 : v2.cell? ⟨gd, 2, none⟩ = some (.slice B1 n1 d1) := Xd.cell 2
        have hKeep := Lib.hid (fun (wx : World) (hb : Below v2.heap.size v2 wx) => (⟨(hb.cell (World.block_lt_of_cell? _ _ ka_0)).trans ka_0, (hb.cell (World.block_lt_of_cell? _ _ ka_1)).trans ka_1, (hb.cell (World.block_lt_of_cell? _ _ ka_2)).trans ka_2, (hb.cell (World.block_lt_of_cell? _ _ kd_0)).trans kd_0, (hb.cell (World.block_lt_of_cell? _ _ kd_1)).trans kd_1, (hb.cell (World.block_lt_of_cell? _ _ kd_2)).trans kd_2⟩ : wx.cell? ⟨w.heap.size, 0, none⟩ = some (.bool sa) ∧ wx.cell? ⟨w.heap.size, 1, none⟩ = some (.slice Aa na ca) ∧ wx.cell? ⟨w.heap.size, 2, none⟩ = some (.slice Ba ma ea) ∧ wx.cell? ⟨gd, 0, none⟩ = some (.bool s1) ∧ wx.cell? ⟨gd, 1, none⟩ = some (.slice A1 m1 c1) ∧ wx.cell? ⟨gd, 2, none⟩ = some (.slice B1 n1 d1)))
        clear ka_0 ka_1 ka_2 kd_0 kd_1 kd_2
        have hB := bel_drewN (Below.refl v2.heap.size v2) 1
        have ha := ha.below hB
        have q1 := q1.below hB
        refine wp_region_held_drew (S := (fun wx => wx.cell? ⟨w.heap.size, 0, none⟩ = some (.bool sa) ∧ wx.cell? ⟨w.heap.size, 1, none⟩ = some (.slice Aa na ca) ∧ wx.cell? ⟨w.heap.size, 2, none⟩ = some (.slice Ba ma ea) ∧ wx.cell? ⟨gd, 0, none⟩ = some (.bool s1) ∧ wx.cell? ⟨gd, 1, none⟩ = some (.slice A1 m1 c1) ∧ wx.cell? ⟨gd, 2, none⟩ = some (.slice B1 n1 d1))) (by kernel_rfl) (hKeep.out _ hB) (fun hHeld => ?_)
        refine wpAnyH_take (i := 0) (v := .int .i64 0) rfl (by kernel_rfl) (by kernel_rfl) (by kernel_rfl) (fun _ _ _ h => h) (Or.inl ⟨by kernel_rfl, by (intro w hSw; (try dsimp only at hSw); go_simp)⟩) hHeld ?_
        try simp only [Act.put, List.getElem_toArray, List.getElem_cons_succ, List.getElem_cons_zero, List.setIfInBounds_toArray, List.set_cons_zero, List.set_cons_succ]
        refine wpAnyH_take (i := 1) (v := .bool true) rfl (by kernel_rfl) (by kernel_rfl) (by kernel_rfl) (fun _ _ _ h => h) (Or.inl ⟨by kernel_rfl, by (intro w hSw; (try dsimp only at hSw); go_simp)⟩) hHeld ?_
        try simp only [Act.put, List.getElem_toArray, List.getElem_cons_succ, List.getElem_cons_zero, List.setIfInBounds_toArray, List.set_cons_zero, List.set_cons_succ]
        refine wpAnyH_take (i := 2) (v := .bool true) rfl (by kernel_rfl) (by kernel_rfl) (by kernel_rfl) (fun _ _ _ h => h) (Or.inl ⟨by kernel_rfl, by (intro w hSw; (try dsimp only at hSw); go_simp)⟩) hHeld ?_
        try simp only [Act.put, List.getElem_toArray, List.getElem_cons_succ, List.getElem_cons_zero, List.setIfInBounds_toArray, List.set_cons_zero, List.set_cons_succ]
        refine wpAnyH_take (i := 3) (v := .agg #[.bool s1, .slice A1 m1 c1, .slice B1 n1 d1]) rfl (by kernel_rfl) (by kernel_rfl) (by kernel_rfl) (fun _ _ _ h => h) (Or.inl ⟨by kernel_rfl, by (intro w hSw; (try dsimp only at hSw); go_simp)⟩) hHeld ?_
        try simp only [Act.put, List.getElem_toArray, List.getElem_cons_succ, List.getElem_cons_zero, List.setIfInBounds_toArray, List.set_cons_zero, List.set_cons_succ]
        refine wpAnyH_take (i := 4) (v := .agg #[.bool sa, .slice Aa na ca, .slice Ba ma ea]) rfl (by kernel_rfl) (by kernel_rfl) (by kernel_rfl) (fun _ _ _ h => h) (Or.inl ⟨by kernel_rfl, by (intro w hSw; (try dsimp only at hSw); go_simp)⟩) hHeld ?_
        try simp only [Act.put, List.getElem_toArray, List.getElem_cons_succ, List.getElem_cons_zero, List.setIfInBounds_toArray, List.set_cons_zero, List.set_cons_succ]
        refine wpAnyH_take (i := 5) (v := .int .i64 nn) rfl (by kernel_rfl) (by kernel_rfl) (by kernel_rfl) (fun _ _ _ h => h) (Or.inl ⟨by kernel_rfl, by (intro w hSw; (try dsimp only at hSw); go_simp)⟩) hHeld ?_
        try simp only [Act.put, List.getElem_toArray, List.getElem_cons_succ, List.getElem_cons_zero, List.setIfInBounds_toArray, List.set_cons_zero, List.set_cons_succ]
        refine wpAnyH_ready (rs := [6]) (by kernel_rfl) (by simp) ?_
        refine AllReadyH.cons rfl (fun K hK => ?_) AllReadyH.nil
        go_simp
        refine (refPowNegQ' _ qa k nn 4 _ ha hnn.out hz.out (by have := hkb.out; omega) (by have := hkb.out; omega) (by have := hkb.out; omega)).mono ?_
        rintro e v3 ⟨_, rfl, q3, hc3⟩
        have q3 := q3.le (show _ ≤ 120 by decide)
        obtain ⟨s3, A3, m3, c3, B3, n3, d3, rfl⟩ := q3.form
        have hB := hB.trans (hc3.mono hB.size)
        have ha := ha.below hc3
        have q1 := q1.below hc3
        go_wp2_with fail
        refine hK.out _ _ ?_ (fun hHeld => ?_)
        · exact hKeep.out _ hB
        clear hK K
        try simp only [Act.put, List.getElem_toArray, List.getElem_cons_succ, List.getElem_cons_zero, List.setIfInBounds_toArray, List.set_cons_zero, List.set_cons_succ]
        refine wpAnyH_ready (rs := [7]) (by kernel_rfl) (by simp) ?_
        refine AllReadyH.cons rfl (fun K hK => ?_) AllReadyH.nil
        go_simp
        refine (sameT _ _ _ _ _ _ _ q1 q3 (rfl)).mono ?_
        rintro e v4 ⟨rfl, hc4⟩
        have hB := hB.trans (hc4.mono hB.size)
        have ha := ha.below hc4
        have q1 := q1.below hc4
        have q3 := q3.below hc4
        go_wp2_with fail
        refine hK.out _ _ ?_ (fun hHeld => ?_)
        · exact hKeep.out _ hB
        clear hK K
        try simp only [Act.put, List.getElem_toArray, List.getElem_cons_succ, List.getElem_cons_zero, List.setIfInBounds_toArray, List.set_cons_zero, List.set_cons_succ]
        refine wpAnyH_take (i := 8) (v := .bool true) rfl (by kernel_rfl) (by kernel_rfl) (by kernel_rfl) (fun _ _ _ h => h) (Or.inl ⟨by kernel_rfl, by (intro w hSw; (try dsimp only at hSw); go_simp)⟩) hHeld ?_
        try simp only [Act.put, List.getElem_toArray, List.getElem_cons_succ, List.getElem_cons_zero, List.setIfInBounds_toArray, List.set_cons_zero, List.set_cons_succ]
        refine wpAnyH_take (i := 9) (v := .bool true) rfl (by kernel_rfl) (by kernel_rfl) (by kernel_rfl) (fun _ _ _ h => h) (Or.inl ⟨by kernel_rfl, by (intro w hSw; (try dsimp only at hSw); go_simp)⟩) hHeld ?_
        try simp only [Act.put, List.getElem_toArray, List.getElem_cons_succ, List.getElem_cons_zero, List.setIfInBounds_toArray, List.set_cons_zero, List.set_cons_succ]
        refine wpAnyH_ready (rs := [10]) (by kernel_rfl) (by simp) ?_
        refine AllReadyH.cons rfl (fun K hK => ?_) AllReadyH.nil
        go_simp
        refine (known_true _ (hG.out.below (hw.trans (hB.mono hw.size)))).mono ?_
        rintro e v5 ⟨rfl, hc5⟩
        have hB := hB.trans (hc5.mono hB.size)
        have ha := ha.below hc5
        have q1 := q1.below hc5
        have q3 := q3.below hc5
        go_wp2_with fail
        refine hK.out _ _ ?_ (fun hHeld => ?_)
        · exact hKeep.out _ hB
        clear hK K
        try simp only [Act.put, List.getElem_toArray, List.getElem_cons_succ, List.getElem_cons_zero, List.setIfInBounds_toArray, List.set_cons_zero, List.set_cons_succ]
        refine wpAnyH_take (i := 11) (v := .bool true) rfl (by kernel_rfl) (by kernel_rfl) (by kernel_rfl) (fun _ _ _ h => h) (Or.inl ⟨by kernel_rfl, by (intro w hSw; (try dsimp only at hSw); go_simp)⟩) hHeld ?_
        try simp only [Act.put, List.getElem_toArray, List.getElem_cons_succ, List.getElem_cons_zero, List.setIfInBounds_toArray, List.set_cons_zero, List.set_cons_succ]
        refine wpAnyH_take (i := 12) (v := .bool true) rfl (by kernel_rfl) (by kernel_rfl) (by kernel_rfl) (fun _ _ _ h => h) (Or.inl ⟨by kernel_rfl, by (intro w hSw; (try dsimp only at hSw); go_simp)⟩) hHeld ?_
        try simp only [Act.put, List.getElem_toArray, List.getElem_cons_succ, List.getElem_cons_zero, List.setIfInBounds_toArray, List.set_cons_zero, List.set_cons_succ]
        refine wpAnyH_done (by kernel_rfl) ?_ _
        have hw := hw.trans (hB.mono hw.size)
        have Xa := Xa.below hB
        have Xd := Xd.below hB
        go_wp2
        go_ret
        exact ⟨rfl, hw⟩
    case neg =>
      obtain ⟨k, rfl⟩ : ∃ k : Nat, n = (k : Int) := ⟨n.toNat, by omega⟩
      have f6 : decide ((k : Int) < 0) = false := decide_eq_false hneg
      have hkb := Lib.hid (show k ≤ 12 by have := hin.out; omega)
      clear hneg
      go_wp2_with fail
      clear ka0 ka1 ka2 hl_na g1_na g2_na hl_ma g1_ma g2_ma
      refine (PowQ _ qa k 4 120 _ ha (by have := hkb.out; omega) (by have := hkb.out; omega) (by decide) (by decide)).mono ?_
      rintro e v1 ⟨_, rfl, q1, hc1⟩
      have hw := hw.trans (hc1.mono hw.size)
      have hB := Below.refl v1.heap.size v1
      have ha := ha.below hc1
      have Xa := Xa.below hc1
      have q1 := q1.le (show _ ≤ 240 by decide)
      obtain ⟨s1, A1, m1, c1, B1, n1, d1, rfl⟩ := q1.form
      have had := (Below.refl v1.heap.size v1).alloc (Nat.le_refl _) (.cells #[.bool s1, .slice A1 m1 c1, .slice B1 n1 d1] 24)
      have Xd := Blk.new v1 24 #[.bool s1, .slice A1 m1 c1, .slice B1 n1 d1]
      have hw := hw.alloc hw.size (.cells #[.bool s1, .slice A1 m1 c1, .slice B1 n1 d1] 24)
      have ha := ha.below had
      have q1 := q1.below had
      have Xa := Xa.below had
      clear had
      have kd0 : (v1.alloc (.cells #[.bool s1, .slice A1 m1 c1, .slice B1 n1 d1] 24)).cell? ⟨v1.heap.size, 0, none⟩ = some (.bool s1) := Xd.cell 0
      have kd1 : (v1.alloc (.cells #[.bool s1, .slice A1 m1 c1, .slice B1 n1 d1] 24)).cell? ⟨v1.heap.size, 1, none⟩ = some (.slice A1 m1 c1) := Xd.cell 1
      have kd2 : (v1.alloc (.cells #[.bool s1, .slice A1 m1 c1, .slice B1 n1 d1] 24)).cell? ⟨v1.heap.size, 2, none⟩ = some (.slice B1 n1 d1) := Xd.cell 2
      have ka0 : (v1.alloc (.cells #[.bool s1, .slice A1 m1 c1, .slice B1 n1 d1] 24)).cell? ⟨w.heap.size, 0, none⟩ = some (.bool sa) := Xa.cell 0
      have ka1 : (v1.alloc (.cells #[.bool s1, .slice A1 m1 c1, .slice B1 n1 d1] 24)).cell? ⟨w.heap.size, 1, none⟩ = some (.slice Aa na ca) := Xa.cell 1
      have ka2 : (v1.alloc (.cells #[.bool s1, .slice A1 m1 c1, .slice B1 n1 d1] 24)).cell? ⟨w.heap.size, 2, none⟩ = some (.slice Ba ma ea) := Xa.cell 2
      go_wp2_with fail
      generalize v1.heap.size = gd at *
      generalize v1.alloc (.cells #[.bool s1, .slice A1 m1 c1, .slice B1 n1 d1] 24) = ud at *
      clear kd0 kd1 kd2 ka0 ka1 ka2
      obtain ⟨y, hy⟩ : ∃ y, qs qa = y := ⟨_, rfl⟩
      have hy := Lib.hid hy
      refine (refSignQ _ qa 4 _ ha).mono ?_
      rintro e v2 ⟨rfl, hc2⟩
      rw [hy.out]
      have hw := hw.trans (hc2.mono hw.size)
      have hB := Below.refl v2.heap.size v2
      have ha := ha.below hc2
      have q1 := q1.below hc2
      have Xa := Xa.below hc2
      have Xd := Xd.below hc2
      obtain ⟨yb, hyb⟩ : ∃ b, (y == 0) = b := ⟨_, rfl⟩
      cases yb
      case false =>
        go_upto_region 8 with fail
        have ka_0 : v2.cell? ⟨w.heap.size, 0, none⟩ = some (.bool sa) := Xa.cell 0
        have ka_1 : v2.cell? ⟨w.heap.size, 1, none⟩ = some (.slice Aa na ca) := Xa.cell 1
        have ka_2 : v2.cell? ⟨w.heap.size, 2, none⟩ = some (.slice Ba ma ea) := Xa.cell 2
        have kd_0 : v2.cell? ⟨gd, 0, none⟩ = some (.bool s1) := Xd.cell 0
        have kd_1 : v2.cell? ⟨gd, 1, none⟩ = some (.slice A1 m1 c1) := Xd.cell 1
        have kd_2 : v2.cell? ⟨gd, 2, none⟩ = some (.slice B1 n1 d1) := Xd.cell 2
        have hKeep := Lib.hid (fun (wx : World) (hb : Below v2.heap.size v2 wx) => (⟨(hb.cell (World.block_lt_of_cell? _ _ ka_0)).trans ka_0, (hb.cell (World.block_lt_of_cell? _ _ ka_1)).trans ka_1, (hb.cell (World.block_lt_of_cell? _ _ ka_2)).trans ka_2, (hb.cell (World.block_lt_of_cell? _ _ kd_0)).trans kd_0, (hb.cell (World.block_lt_of_cell? _ _ kd_1)).trans kd_1, (hb.cell (World.block_lt_of_cell? _ _ kd_2)).trans kd_2⟩ : wx.cell? ⟨w.heap.size, 0, none⟩ = some (.bool sa) ∧ wx.cell? ⟨w.heap.size, 1, none⟩ = some (.slice Aa na ca) ∧ wx.cell? ⟨w.heap.size, 2, none⟩ = some (.slice Ba ma ea) ∧ wx.cell? ⟨gd, 0, none⟩ = some (.bool s1) ∧ wx.cell? ⟨gd, 1, none⟩ = some (.slice A1 m1 c1) ∧ wx.cell? ⟨gd, 2, none⟩ = some (.slice B1 n1 d1)))
        clear ka_0 ka_1 ka_2 kd_0 kd_1 kd_2
        have hB := bel_drewN (Below.refl v2.heap.size v2) 1
        have ha := ha.below hB
        have q1 := q1.below hB
        refine wp_region_held_drew (S := (fun wx => wx.cell? ⟨w.heap.size, 0, none⟩ = some (.bool sa) ∧ wx.cell? ⟨w.heap.size, 1, none⟩ = some (.slice Aa na ca) ∧ wx.cell? ⟨w.heap.size, 2, none⟩ = some (.slice Ba ma ea) ∧ wx.cell? ⟨gd, 0, none⟩ = some (.bool s1) ∧ wx.cell? ⟨gd, 1, none⟩ = some (.slice A1 m1 c1) ∧ wx.cell? ⟨gd, 2, none⟩ = some (.slice B1 n1 d1))) (by kernel_rfl) (hKeep.out _ hB) (fun hHeld => ?_)
        refine wpAnyH_take (i := 0) (v := .int .i64 0) rfl (by kernel_rfl) (by kernel_rfl) (by kernel_rfl) (fun _ _ _ h => h) (Or.inl ⟨by kernel_rfl, by (intro w hSw; (try dsimp only at hSw); go_simp)⟩) hHeld ?_
        try simp only [Act.put, List.getElem_toArray, List.getElem_cons_succ, List.getElem_cons_zero, List.setIfInBounds_toArray, List.set_cons_zero, List.set_cons_succ]
        refine wpAnyH_take (i := 1) (v := .bool true) rfl (by kernel_rfl) (by kernel_rfl) (by kernel_rfl) (fun _ _ _ h => h) (Or.inl ⟨by kernel_rfl, by (intro w hSw; (try dsimp only at hSw); go_simp)⟩) hHeld ?_
        try simp only [Act.put, List.getElem_toArray, List.getElem_cons_succ, List.getElem_cons_zero, List.setIfInBounds_toArray, List.set_cons_zero, List.set_cons_succ]
        refine wpAnyH_take (i := 2) (v := .bool true) rfl (by kernel_rfl) (by kernel_rfl) (by kernel_rfl) (fun _ _ _ h => h) (Or.inl ⟨by kernel_rfl, by (intro w hSw; (try dsimp only at hSw); go_simp)⟩) hHeld ?_
        try simp only [Act.put, List.getElem_toArray, List.getElem_cons_succ, List.getElem_cons_zero, List.setIfInBounds_toArray, List.set_cons_zero, List.set_cons_succ]
        refine wpAnyH_take (i := 3) (v := .agg #[.bool s1, .slice A1 m1 c1, .slice B1 n1 d1]) rfl (by kernel_rfl) (by kernel_rfl) (by kernel_rfl) (fun _ _ _ h => h) (Or.inl ⟨by kernel_rfl, by (intro w hSw; (try dsimp only at hSw); go_simp)⟩) hHeld ?_
        try simp only [Act.put, List.getElem_toArray, List.getElem_cons_succ, List.getElem_cons_zero, List.setIfInBounds_toArray, List.set_cons_zero, List.set_cons_succ]
        refine wpAnyH_take (i := 4) (v := .agg #[.bool sa, .slice Aa na ca, .slice Ba ma ea]) rfl (by kernel_rfl) (by kernel_rfl) (by kernel_rfl) (fun _ _ _ h => h) (Or.inl ⟨by kernel_rfl, by (intro w hSw; (try dsimp only at hSw); go_simp)⟩) hHeld ?_
        try simp only [Act.put, List.getElem_toArray, List.getElem_cons_succ, List.getElem_cons_zero, List.setIfInBounds_toArray, List.set_cons_zero, List.set_cons_succ]
        refine wpAnyH_take (i := 5) (v := .int .i64 (k : Int)) rfl (by kernel_rfl) (by kernel_rfl) (by kernel_rfl) (fun _ _ _ h => h) (Or.inl ⟨by kernel_rfl, by (intro w hSw; (try dsimp only at hSw); go_simp)⟩) hHeld ?_
        try simp only [Act.put, List.getElem_toArray, List.getElem_cons_succ, List.getElem_cons_zero, List.setIfInBounds_toArray, List.set_cons_zero, List.set_cons_succ]
        refine wpAnyH_ready (rs := [6]) (by kernel_rfl) (by simp) ?_
        refine AllReadyH.cons rfl (fun K hK => ?_) AllReadyH.nil
        go_simp
        refine (refPowB _ qa k 4 _ ha (by have := hkb.out; omega)).mono ?_
        rintro e v3 ⟨_, rfl, q3, hc3⟩
        have q3 := q3.le (show _ ≤ 120 by decide)
        obtain ⟨s3, A3, m3, c3, B3, n3, d3, rfl⟩ := q3.form
        have hB := hB.trans (hc3.mono hB.size)
        have ha := ha.below hc3
        have q1 := q1.below hc3
        go_wp2_with fail
        refine hK.out _ _ ?_ (fun hHeld => ?_)
        · exact hKeep.out _ hB
        clear hK K
        try simp only [Act.put, List.getElem_toArray, List.getElem_cons_succ, List.getElem_cons_zero, List.setIfInBounds_toArray, List.set_cons_zero, List.set_cons_succ]
        refine wpAnyH_ready (rs := [7]) (by kernel_rfl) (by simp) ?_
        refine AllReadyH.cons rfl (fun K hK => ?_) AllReadyH.nil
        go_simp
        refine (sameT _ _ _ _ _ _ _ q1 q3 (rfl)).mono ?_
        rintro e v4 ⟨rfl, hc4⟩
        have hB := hB.trans (hc4.mono hB.size)
        have ha := ha.below hc4
        have q1 := q1.below hc4
        have q3 := q3.below hc4
        go_wp2_with fail
        refine hK.out _ _ ?_ (fun hHeld => ?_)
        · exact hKeep.out _ hB
        clear hK K
        try simp only [Act.put, List.getElem_toArray, List.getElem_cons_succ, List.getElem_cons_zero, List.setIfInBounds_toArray, List.set_cons_zero, List.set_cons_succ]
        refine wpAnyH_take (i := 8) (v := .bool true) rfl (by kernel_rfl) (by kernel_rfl) (by kernel_rfl) (fun _ _ _ h => h) (Or.inl ⟨by kernel_rfl, by (intro w hSw; (try dsimp only at hSw); go_simp)⟩) hHeld ?_
        try simp only [Act.put, List.getElem_toArray, List.getElem_cons_succ, List.getElem_cons_zero, List.setIfInBounds_toArray, List.set_cons_zero, List.set_cons_succ]
        refine wpAnyH_take (i := 9) (v := .bool true) rfl (by kernel_rfl) (by kernel_rfl) (by kernel_rfl) (fun _ _ _ h => h) (Or.inl ⟨by kernel_rfl, by (intro w hSw; (try dsimp only at hSw); go_simp)⟩) hHeld ?_
        try simp only [Act.put, List.getElem_toArray, List.getElem_cons_succ, List.getElem_cons_zero, List.setIfInBounds_toArray, List.set_cons_zero, List.set_cons_succ]
        refine wpAnyH_ready (rs := [10]) (by kernel_rfl) (by simp) ?_
        refine AllReadyH.cons rfl (fun K hK => ?_) AllReadyH.nil
        go_simp
        refine (known_true _ (hG.out.below (hw.trans (hB.mono hw.size)))).mono ?_
        rintro e v5 ⟨rfl, hc5⟩
        have hB := hB.trans (hc5.mono hB.size)
        have ha := ha.below hc5
        have q1 := q1.below hc5
        have q3 := q3.below hc5
        go_wp2_with fail
        refine hK.out _ _ ?_ (fun hHeld => ?_)
        · exact hKeep.out _ hB
        clear hK K
        try simp only [Act.put, List.getElem_toArray, List.getElem_cons_succ, List.getElem_cons_zero, List.setIfInBounds_toArray, List.set_cons_zero, List.set_cons_succ]
        refine wpAnyH_take (i := 11) (v := .bool true) rfl (by kernel_rfl) (by kernel_rfl) (by kernel_rfl) (fun _ _ _ h => h) (Or.inl ⟨by kernel_rfl, by (intro w hSw; (try dsimp only at hSw); go_simp)⟩) hHeld ?_
        try simp only [Act.put, List.getElem_toArray, List.getElem_cons_succ, List.getElem_cons_zero, List.setIfInBounds_toArray, List.set_cons_zero, List.set_cons_succ]
        refine wpAnyH_take (i := 12) (v := .bool true) rfl (by kernel_rfl) (by kernel_rfl) (by kernel_rfl) (fun _ _ _ h => h) (Or.inl ⟨by kernel_rfl, by (intro w hSw; (try dsimp only at hSw); go_simp)⟩) hHeld ?_
        try simp only [Act.put, List.getElem_toArray, List.getElem_cons_succ, List.getElem_cons_zero, List.setIfInBounds_toArray, List.set_cons_zero, List.set_cons_succ]
        refine wpAnyH_done (by kernel_rfl) ?_ _
        have hw := hw.trans (hB.mono hw.size)
        have Xa := Xa.below hB
        have Xd := Xd.below hB
        go_wp2
        go_ret
        exact ⟨rfl, hw⟩
      case true =>
        go_upto_region 8 with fail
        have ka_0 : v2.cell? ⟨w.heap.size, 0, none⟩ = some (.bool sa) := Xa.cell 0
        have ka_1 : v2.cell? ⟨w.heap.size, 1, none⟩ = some (.slice Aa na ca) := Xa.cell 1
        have ka_2 : v2.cell? ⟨w.heap.size, 2, none⟩ = some (.slice Ba ma ea) := Xa.cell 2
        have kd_0 : v2.cell? ⟨gd, 0, none⟩ = some (.bool s1) := Xd.cell 0
        have kd_1 : v2.cell? ⟨gd, 1, none⟩ = some (.slice A1 m1 c1) := Xd.cell 1
        have kd_2 : v2.cell? ⟨gd, 2, none⟩ = some (.slice B1 n1 d1) := Xd.cell 2
        have hKeep := Lib.hid (fun (wx : World) (hb : Below v2.heap.size v2 wx) => (⟨(hb.cell (World.block_lt_of_cell? _ _ ka_0)).trans ka_0, (hb.cell (World.block_lt_of_cell? _ _ ka_1)).trans ka_1, (hb.cell (World.block_lt_of_cell? _ _ ka_2)).trans ka_2, (hb.cell (World.block_lt_of_cell? _ _ kd_0)).trans kd_0, (hb.cell (World.block_lt_of_cell? _ _ kd_1)).trans kd_1, (hb.cell (World.block_lt_of_cell? _ _ kd_2)).trans kd_2⟩ : wx.cell? ⟨w.heap.size, 0, none⟩ = some (.bool sa) ∧ wx.cell? ⟨w.heap.size, 1, none⟩ = some (.slice Aa na ca) ∧ wx.cell? ⟨w.heap.size, 2, none⟩ = some (.slice Ba ma ea) ∧ wx.cell? ⟨gd, 0, none⟩ = some (.bool s1) ∧ wx.cell? ⟨gd, 1, none⟩ = some (.slice A1 m1 c1) ∧ wx.cell? ⟨gd, 2, none⟩ = some (.slice B1 n1 d1)))
        clear ka_0 ka_1 ka_2 kd_0 kd_1 kd_2
        have hB := bel_drewN (Below.refl v2.heap.size v2) 1
        have ha := ha.below hB
        have q1 := q1.below hB
        refine wp_region_held_drew (S := (fun wx => wx.cell? ⟨w.heap.size, 0, none⟩ = some (.bool sa) ∧ wx.cell? ⟨w.heap.size, 1, none⟩ = some (.slice Aa na ca) ∧ wx.cell? ⟨w.heap.size, 2, none⟩ = some (.slice Ba ma ea) ∧ wx.cell? ⟨gd, 0, none⟩ = some (.bool s1) ∧ wx.cell? ⟨gd, 1, none⟩ = some (.slice A1 m1 c1) ∧ wx.cell? ⟨gd, 2, none⟩ = some (.slice B1 n1 d1))) (by kernel_rfl) (hKeep.out _ hB) (fun hHeld => ?_)
        refine wpAnyH_take (i := 0) (v := .int .i64 0) rfl (by kernel_rfl) (by kernel_rfl) (by kernel_rfl) (fun _ _ _ h => h) (Or.inl ⟨by kernel_rfl, by (intro w hSw; (try dsimp only at hSw); go_simp)⟩) hHeld ?_
        try simp only [Act.put, List.getElem_toArray, List.getElem_cons_succ, List.getElem_cons_zero, List.setIfInBounds_toArray, List.set_cons_zero, List.set_cons_succ]
        refine wpAnyH_take (i := 1) (v := .bool true) rfl (by kernel_rfl) (by kernel_rfl) (by kernel_rfl) (fun _ _ _ h => h) (Or.inl ⟨by kernel_rfl, by (intro w hSw; (try dsimp only at hSw); go_simp)⟩) hHeld ?_
        try simp only [Act.put, List.getElem_toArray, List.getElem_cons_succ, List.getElem_cons_zero, List.setIfInBounds_toArray, List.set_cons_zero, List.set_cons_succ]
        refine wpAnyH_take (i := 2) (v := .bool true) rfl (by kernel_rfl) (by kernel_rfl) (by kernel_rfl) (fun _ _ _ h => h) (Or.inl ⟨by kernel_rfl, by (intro w hSw; (try dsimp only at hSw); go_simp)⟩) hHeld ?_
        try simp only [Act.put, List.getElem_toArray, List.getElem_cons_succ, List.getElem_cons_zero, List.setIfInBounds_toArray, List.set_cons_zero, List.set_cons_succ]
        refine wpAnyH_take (i := 3) (v := .agg #[.bool s1, .slice A1 m1 c1, .slice B1 n1 d1]) rfl (by kernel_rfl) (by kernel_rfl) (by kernel_rfl) (fun _ _ _ h => h) (Or.inl ⟨by kernel_rfl, by (intro w hSw; (try dsimp only at hSw); go_simp)⟩) hHeld ?_
        try simp only [Act.put, List.getElem_toArray, List.getElem_cons_succ, List.getElem_cons_zero, List.setIfInBounds_toArray, List.set_cons_zero, List.set_cons_succ]
        refine wpAnyH_take (i := 4) (v := .agg #[.bool sa, .slice Aa na ca, .slice Ba ma ea]) rfl (by kernel_rfl) (by kernel_rfl) (by kernel_rfl) (fun _ _ _ h => h) (Or.inl ⟨by kernel_rfl, by (intro w hSw; (try dsimp only at hSw); go_simp)⟩) hHeld ?_
        try simp only [Act.put, List.getElem_toArray, List.getElem_cons_succ, List.getElem_cons_zero, List.setIfInBounds_toArray, List.set_cons_zero, List.set_cons_succ]
        refine wpAnyH_take (i := 5) (v := .int .i64 (k : Int)) rfl (by kernel_rfl) (by kernel_rfl) (by kernel_rfl) (fun _ _ _ h => h) (Or.inl ⟨by kernel_rfl, by (intro w hSw; (try dsimp only at hSw); go_simp)⟩) hHeld ?_
        try simp only [Act.put, List.getElem_toArray, List.getElem_cons_succ, List.getElem_cons_zero, List.setIfInBounds_toArray, List.set_cons_zero, List.set_cons_succ]
        refine wpAnyH_ready (rs := [6]) (by kernel_rfl) (by simp) ?_
        refine AllReadyH.cons rfl (fun K hK => ?_) AllReadyH.nil
        go_simp
        refine (refPowB _ qa k 4 _ ha (by have := hkb.out; omega)).mono ?_
        rintro e v3 ⟨_, rfl, q3, hc3⟩
        have q3 := q3.le (show _ ≤ 120 by decide)
        obtain ⟨s3, A3, m3, c3, B3, n3, d3, rfl⟩ := q3.form
        have hB := hB.trans (hc3.mono hB.size)
        have ha := ha.below hc3
        have q1 := q1.below hc3
        go_wp2_with fail
        refine hK.out _ _ ?_ (fun hHeld => ?_)
        · exact hKeep.out _ hB
        clear hK K
        try simp only [Act.put, List.getElem_toArray, List.getElem_cons_succ, List.getElem_cons_zero, List.setIfInBounds_toArray, List.set_cons_zero, List.set_cons_succ]
        refine wpAnyH_ready (rs := [7]) (by kernel_rfl) (by simp) ?_
        refine AllReadyH.cons rfl (fun K hK => ?_) AllReadyH.nil
        go_simp
        refine (sameT _ _ _ _ _ _ _ q1 q3 (rfl)).mono ?_
        rintro e v4 ⟨rfl, hc4⟩
        have hB := hB.trans (hc4.mono hB.size)
        have ha := ha.below hc4
        have q1 := q1.below hc4
        have q3 := q3.below hc4
        go_wp2_with fail
        refine hK.out _ _ ?_ (fun hHeld => ?_)
        · exact hKeep.out _ hB
        clear hK K
        try simp only [Act.put, List.getElem_toArray, List.getElem_cons_succ, List.getElem_cons_zero, List.setIfInBounds_toArray, List.set_cons_zero, List.set_cons_succ]
        refine wpAnyH_take (i := 8) (v := .bool true) rfl (by kernel_rfl) (by kernel_rfl) (by kernel_rfl) (fun _ _ _ h => h) (Or.inl ⟨by kernel_rfl, by (intro w hSw; (try dsimp only at hSw); go_simp)⟩) hHeld ?_
        try simp only [Act.put, List.getElem_toArray, List.getElem_cons_succ, List.getElem_cons_zero, List.setIfInBounds_toArray, List.set_cons_zero, List.set_cons_succ]
        refine wpAnyH_take (i := 9) (v := .bool true) rfl (by kernel_rfl) (by kernel_rfl) (by kernel_rfl) (fun _ _ _ h => h) (Or.inl ⟨by kernel_rfl, by (intro w hSw; (try dsimp only at hSw); go_simp)⟩) hHeld ?_
        try simp only [Act.put, List.getElem_toArray, List.getElem_cons_succ, List.getElem_cons_zero, List.setIfInBounds_toArray, List.set_cons_zero, List.set_cons_succ]
        refine wpAnyH_ready (rs := [10]) (by kernel_rfl) (by simp) ?_
        refine AllReadyH.cons rfl (fun K hK => ?_) AllReadyH.nil
        go_simp
        refine (known_true _ (hG.out.below (hw.trans (hB.mono hw.size)))).mono ?_
        rintro e v5 ⟨rfl, hc5⟩
        have hB := hB.trans (hc5.mono hB.size)
        have ha := ha.below hc5
        have q1 := q1.below hc5
        have q3 := q3.below hc5
        go_wp2_with fail
        refine hK.out _ _ ?_ (fun hHeld => ?_)
        · exact hKeep.out _ hB
        clear hK K
        try simp only [Act.put, List.getElem_toArray, List.getElem_cons_succ, List.getElem_cons_zero, List.setIfInBounds_toArray, List.set_cons_zero, List.set_cons_succ]
        refine wpAnyH_take (i := 11) (v := .bool true) rfl (by kernel_rfl) (by kernel_rfl) (by kernel_rfl) (fun _ _ _ h => h) (Or.inl ⟨by kernel_rfl, by (intro w hSw; (try dsimp only at hSw); go_simp)⟩) hHeld ?_
        try simp only [Act.put, List.getElem_toArray, List.getElem_cons_succ, List.getElem_cons_zero, List.setIfInBounds_toArray, List.set_cons_zero, List.set_cons_succ]
        refine wpAnyH_take (i := 12) (v := .bool true) rfl (by kernel_rfl) (by kernel_rfl) (by kernel_rfl) (fun _ _ _ h => h) (Or.inl ⟨by kernel_rfl, by (intro w hSw; (try dsimp only at hSw); go_simp)⟩) hHeld ?_
        try simp only [Act.put, List.getElem_toArray, List.getElem_cons_succ, List.getElem_cons_zero, List.setIfInBounds_toArray, List.set_cons_zero, List.set_cons_succ]
        refine wpAnyH_done (by kernel_rfl) ?_ _
        have hw := hw.trans (hB.mono hw.size)
        have Xa := Xa.below hB
        have Xd := Xd.below hB
        go_wp2
        go_ret
        exact ⟨rfl, hw⟩
end Go.Proofs.YtanaljnclajkdaaGreatDoor.Fr
