/- What is written: numbers, digits, fractions, times. -/
import Derived.Test.YtpdfjlbfhnapkaaGreatDoorSL
namespace Go.Proofs.YtpdfjlbfhnapkaaGreatDoor
open Go.RowKit
set_option linter.unusedSimpArgs false

/-- the world behind the box of a receiver that has no fields -/
theorem PW.box {w : World} {g : Nat} {ws : List Str} (h : PW w g ws) (t : TypeId) : PW (w.alloc (.cells #[] t)) g ws := h.alloc _
def wNum (ws : List Str) : Str × List Str :=
  let s := signF ws
  let a := wholeF s.2
  if a.1.2 && !(decide (s.1 ≠ []) && decide (a.1.1 = 0)) then (s.1 ++ numS a.1.1, a.2) else ([], a.2)
theorem wholeF_le (ws : List Str) : (wholeF ws).1.1 ≤ 3000000000000 := by
  have h2 := countF_le ws
  unfold wholeF
  obtain ⟨q, rs, hr⟩ := pair_eta (countF ws)
  rw [hr] at h2 ⊢
  split
  · exact Nat.zero_le _
  · exact h2
theorem sign_len (ws : List Str) : (signF ws).1.length ≤ 1 := by
  unfold signF; split <;> simp
theorem digF_len (ws : List Str) : (digF ws).1.length ≤ ws.length := by
  induction ws with
  | nil => exact Nat.le_refl _
  | cons y ys ih =>
    rcases digF_step (y :: ys) with ⟨_, _, h⟩ | ⟨n, hn, _, _, _, _, h⟩
    · rw [h]; exact Nat.zero_le _
    · rw [h, List.length_append, dec_one hn]
      simp only [List.tail_cons, List.length_cons]
      omega

set_option maxRecDepth 100000 in
set_option maxHeartbeats 4000000 in
theorem wNum_any (g : Nat) (ws : List Str) (w : World) (h : PW w g ws) :
    Calls Tryz.prog 207 #[.agg #[], .pointer (some ⟨g, 0, none⟩)] w (RetSP g (wNum ws) w) := by
  have hP1 := h.box 72
  have hU1 := (Upto.refl g w).alloc (.cells #[] 72)
  have hsl := sign_len ws
  have hs := Lib.hid (fun (w9 : World) (h9 : PW w9 g ws) => sign_any g ws w9 h9)
  obtain ⟨s, vs, hr⟩ := pair_eta (signF ws)
  have hle := wholeF_le vs
  have ha := Lib.hid (fun (w9 : World) (h9 : PW w9 g vs) => whole_any g vs w9 h9)
  obtain ⟨⟨n, ok⟩, us, hr2⟩ := pair_eta (wholeF vs)
  have hw := Lib.hid (show wNum ws = if ok && !(decide (s ≠ []) && decide (n = 0)) then (s ++ numS n, us) else ([], us) by
    simp only [wNum, hr, hr2])
  rw [hr] at hs hsl
  rw [hr2] at ha hle
  simp only at hsl hle
  clear hr hr2
  have hi := Lib.hid (fun (w9 : World) (h9 : WT w9) => itoa_any n (by omega) w9 h9)
  have hnl := numS_len n
  generalize numS n = D at *
  cases ok with
  | false =>
    have hw2 := Lib.hid (show wNum ws = ([], us) from hw.out)
    go_enter Tryz.func207, Tryz.ntmps207
    go_wp2_with fail
    refine (hs.out _ hP1).mono ?_
    rintro e w2 ⟨rfl, hP2, hU2⟩
    have hU3 := hU1.trans hU2
    go_wp2_with fail
    refine (ha.out _ hP2).mono ?_
    rintro e w4 ⟨rfl, hP4, hU4⟩
    have hU5 := hU3.trans hU4
    go_wp2
    go_ret
    exact ⟨by rw [hw2.out]; rfl, by rw [hw2.out]; exact hP4, hU5⟩
  | true =>
    cases s with
    | nil =>
      have hw2 := Lib.hid (show wNum ws = ([] ++ D, us) by rw [hw.out]; rfl)
      go_enter Tryz.func207, Tryz.ntmps207
      go_wp2_with fail
      refine (hs.out _ hP1).mono ?_
      rintro e w2 ⟨rfl, hP2, hU2⟩
      have hU3 := hU1.trans hU2
      go_wp2_with fail
      refine (ha.out _ hP2).mono ?_
      rintro e w4 ⟨rfl, hP4, hU4⟩
      have hU5 := hU3.trans hU4
      go_wp2_with fail
      refine (hi.out _ hP4.2.1).mono ?_
      rintro e w6 ⟨rfl, hb6⟩
      have hP6 := hP4.below hb6
      have hU6 := hU5.bel hb6
      go_wp2
      go_ret
      exact ⟨ret_bs (by rw [hw2.out]; simp), by rw [hw2.out]; exact hP6, hU6⟩
      all_goals omega
    | cons a b =>
      have hbl : b.length ≤ 0 := by simpa using hsl
      by_cases hn : n = 0
      · subst hn
        have hw2 := Lib.hid (show wNum ws = ([], us) by rw [hw.out]; simp)
        have hnil : (a :: b == ([] : Str)) = false := rfl
        go_enter Tryz.func207, Tryz.ntmps207
        go_wp2_with fail
        refine (hs.out _ hP1).mono ?_
        rintro e w2 ⟨rfl, hP2, hU2⟩
        have hU3 := hU1.trans hU2
        go_wp2_with fail
        refine (ha.out _ hP2).mono ?_
        rintro e w4 ⟨rfl, hP4, hU4⟩
        have hU5 := hU3.trans hU4
        go_wp2
        go_ret
        exact ⟨by rw [hw2.out]; rfl, by rw [hw2.out]; exact hP4, hU5⟩
      · have hn1 : ((n : Int) == 0) = false := by rw [beq_eq_false_iff_ne]; omega
        have hw2 := Lib.hid (show wNum ws = (a :: b ++ D, us) by rw [hw.out]; simp [hn])
        have hnil : (a :: b == ([] : Str)) = false := rfl
        go_enter Tryz.func207, Tryz.ntmps207
        go_wp2_with fail
        refine (hs.out _ hP1).mono ?_
        rintro e w2 ⟨rfl, hP2, hU2⟩
        have hU3 := hU1.trans hU2
        go_wp2_with fail
        refine (ha.out _ hP2).mono ?_
        rintro e w4 ⟨rfl, hP4, hU4⟩
        have hU5 := hU3.trans hU4
        go_wp2_with fail
        refine (hi.out _ hP4.2.1).mono ?_
        rintro e w6 ⟨rfl, hb6⟩
        have hP6 := hP4.below hb6
        have hU6 := hU5.bel hb6
        go_wp2
        go_ret
        exact ⟨ret_bs (by rw [hw2.out]; simp), by rw [hw2.out]; exact hP6, hU6⟩
        all_goals omega

def wDig (ws : List Str) : Str × List Str :=
  if tkB [100, 105, 103, 105, 116, 115] ws then (if digsB (digF (tkR [100, 105, 103, 105, 116, 115] ws)).1 then digF (tkR [100, 105, 103, 105, 116, 115] ws) else ([], (digF (tkR [100, 105, 103, 105, 116, 115] ws)).2)) else ([], ws)
set_option maxRecDepth 100000 in
set_option maxHeartbeats 4000000 in
theorem wDig_any (g : Nat) (ws : List Str) (w : World) (h : PW w g ws) (hl : ws.length ≤ 1000000) :
    Calls Tryz.prog 233 #[.agg #[], .pointer (some ⟨g, 0, none⟩)] w (RetSP g (wDig ws) w) := by
  have hP1 := h.box 116
  have hU1 := (Upto.refl g w).alloc (.cells #[] 116)
  go_enter Tryz.func233, Tryz.ntmps233
  go_wp2_with fail
  refine (takeW g [100, 105, 103, 105, 116, 115] ws _ hP1).mono ?_
  rintro e w2 ⟨rfl, hP2, hU2⟩
  have hU3 := hU1.trans hU2
  cases htk : tkB [100, 105, 103, 105, 116, 115] ws with
  | false =>
    have hr := Lib.hid (show tkR [100, 105, 103, 105, 116, 115] ws = ws by unfold tkR; rw [htk]; rfl)
    rw [hr.out] at hP2
    have hw2 := Lib.hid (show wDig ws = ([], ws) by unfold wDig; rw [htk]; rfl)
    clear htk
    go_wp2
    go_ret
    exact ⟨by rw [hw2.out]; rfl, by rw [hw2.out]; exact hP2, hU3⟩
  | true =>
    have hw := Lib.hid (show wDig ws = if digsB (digF (tkR [100, 105, 103, 105, 116, 115] ws)).1 then digF (tkR [100, 105, 103, 105, 116, 115] ws) else ([], (digF (tkR [100, 105, 103, 105, 116, 115] ws)).2) by unfold wDig; rw [htk]; rfl)
    have htl : (tkR [100, 105, 103, 105, 116, 115] ws).length ≤ 1000000 := by
      unfold tkR
      by_cases h9 : tkB [100, 105, 103, 105, 116, 115] ws = true
      · rw [if_pos h9, List.length_tail]; omega
      · rw [if_neg h9]; exact hl
    clear htk
    generalize tkR [100, 105, 103, 105, 116, 115] ws = vs at *
    have hd := Lib.hid (fun (w9 : World) (h9 : PW w9 g vs) => digits_any g vs w9 h9 htl)
    obtain ⟨D, us, hr⟩ := pair_eta (digF vs)
    rw [hr] at hd hw
    clear hr
    go_wp2_with fail
    refine (hd.out _ hP2).mono ?_
    rintro e w4 ⟨rfl, hP4, hU4⟩
    have hU5 := hU3.trans hU4
    go_wp2_with fail
    refine (areDigits_any D w4).mono ?_
    rintro e w' ⟨rfl, rfl⟩
    cases hdg : digsB D with
    | true =>
      have hw2 := Lib.hid (show wDig ws = (D, us) by rw [hw.out]; simp only [hdg]; rfl)
      clear hdg
      go_wp2
      go_ret
      exact ⟨ret_str (by rw [hw2.out]), by rw [hw2.out]; exact hP4, hU5⟩
    | false =>
      have hw2 := Lib.hid (show wDig ws = ([], us) by rw [hw.out]; simp only [hdg]; rfl)
      clear hdg
      go_wp2
      go_ret
      exact ⟨by rw [hw2.out]; rfl, by rw [hw2.out]; exact hP4, hU5⟩

def wClk (ws : List Str) : Str × List Str :=
  let a := wholeF ws
  if a.1.2 && !decide (23 < a.1.1) then
    (if tkB [104, 111, 117, 114, 115] a.2 then (twoN a.1.1 ++ [58, 48, 48], tkR [104, 111, 117, 114, 115] a.2)
     else if wiB (pairF a.2).1 1 59 then (twoN a.1.1 ++ [58] ++ twoN (pairF a.2).1, (pairF a.2).2) else ([], (pairF a.2).2))
  else ([], a.2)
theorem twoN_len (n : Nat) : (twoN n).length ≤ 32 := by
  unfold twoN
  rw [List.length_append]
  have := numS_len (n / 10)
  have := numS_len (n % 10)
  omega
set_option maxRecDepth 100000 in
set_option maxHeartbeats 4000000 in
theorem wClk_any (g : Nat) (ws : List Str) (w : World) (h : PW w g ws) :
    Calls Tryz.prog 243 #[.agg #[], .pointer (some ⟨g, 0, none⟩)] w (RetSP g (wClk ws) w) := by
  have hP1 := h.box 118
  have hU1 := (Upto.refl g w).alloc (.cells #[] 118)
  have ha := Lib.hid (fun (w9 : World) (h9 : PW w9 g ws) => whole_any g ws w9 h9)
  obtain ⟨⟨n, ok⟩, us, hr2⟩ := pair_eta (wholeF ws)
  have hw := Lib.hid (show wClk ws = if ok && !decide (23 < n) then
    (if tkB [104, 111, 117, 114, 115] us then (twoN n ++ [58, 48, 48], tkR [104, 111, 117, 114, 115] us)
     else if wiB (pairF us).1 1 59 then (twoN n ++ [58] ++ twoN (pairF us).1, (pairF us).2) else ([], (pairF us).2))
  else ([], us) by simp only [wClk, hr2])
  rw [hr2] at ha
  clear hr2
  cases ok with
  | false =>
    have hw2 := Lib.hid (show wClk ws = ([], us) from hw.out)
    go_enter Tryz.func243, Tryz.ntmps243
    go_wp2_with fail
    refine (ha.out _ hP1).mono ?_
    rintro e w4 ⟨rfl, hP4, hU4⟩
    have hU5 := hU1.trans hU4
    go_wp2
    go_ret
    exact ⟨by rw [hw2.out]; rfl, by rw [hw2.out]; exact hP4, hU5⟩
  | true =>
    by_cases hn : 23 < n
    · have hn1 : (23 : Int) < (n : Int) := by omega
      have hw2 := Lib.hid (show wClk ws = ([], us) by rw [hw.out, decide_eq_true hn]; rfl)
      go_enter Tryz.func243, Tryz.ntmps243
      go_wp2_with fail
      refine (ha.out _ hP1).mono ?_
      rintro e w4 ⟨rfl, hP4, hU4⟩
      have hU5 := hU1.trans hU4
      go_wp2
      go_ret
      exact ⟨by rw [hw2.out]; rfl, by rw [hw2.out]; exact hP4, hU5⟩
    · have hn1 : ¬ (23 : Int) < (n : Int) := by omega
      have hn2 : decide ((23 : Int) < (n : Int)) = false := decide_eq_false hn1
      have hw2 := Lib.hid (show wClk ws = if tkB [104, 111, 117, 114, 115] us then (twoN n ++ [58, 48, 48], tkR [104, 111, 117, 114, 115] us)
     else if wiB (pairF us).1 1 59 then (twoN n ++ [58] ++ twoN (pairF us).1, (pairF us).2) else ([], (pairF us).2) by rw [hw.out, decide_eq_false hn]; rfl)
      have h2n := Lib.hid (fun w9 => twoDigits_any n (by omega) w9)
      have hDl := twoN_len n
      generalize twoN n = D at *
      go_enter Tryz.func243, Tryz.ntmps243
      go_wp2_with fail
      refine (ha.out _ hP1).mono ?_
      rintro e w4 ⟨rfl, hP4, hU4⟩
      have hU5 := hU1.trans hU4
      go_wp2_with fail
      refine (takeW g [104, 111, 117, 114, 115] us _ hP4).mono ?_
      rintro e w6 ⟨rfl, hP6, hU6⟩
      have hU7 := hU5.trans hU6
      cases htk : tkB [104, 111, 117, 114, 115] us with
      | true =>
        have hw3 := Lib.hid (show wClk ws = (D ++ [58, 48, 48], tkR [104, 111, 117, 114, 115] us) by rw [hw2.out, htk]; rfl)
        clear htk
        go_wp2_with fail
        refine (h2n.out _).mono ?_
        rintro e w' ⟨rfl, rfl⟩
        go_wp2
        go_ret
        exact ⟨ret_bs (by rw [hw3.out]; simp), by rw [hw3.out]; exact hP6, hU7⟩
        all_goals omega
      | false =>
        have hr := Lib.hid (show tkR [104, 111, 117, 114, 115] us = us by unfold tkR; rw [htk]; rfl)
        rw [hr.out] at hP6
        have hw3 := Lib.hid (show wClk ws = if wiB (pairF us).1 1 59 then (D ++ [58] ++ twoN (pairF us).1, (pairF us).2) else ([], (pairF us).2) by rw [hw2.out, htk]; rfl)
        clear htk
        have hpl := pairF_le us
        have hp := Lib.hid (readPair_any g us _ hP6)
        obtain ⟨m, ts, hrp⟩ := pair_eta (pairF us)
        rw [hrp] at hp hpl hw3
        simp only at hpl
        clear hrp
        have hwi := Lib.hid (fun w9 => show Calls Tryz.prog 60 #[.int .i64 (m : Int), .int .i64 1, .int .i64 59] w9 fun e w' => e = .returned (.bool (wiB m 1 59)) ∧ w9 = w' from within_nat m 1 59 w9)
        go_wp2_with fail
        refine hp.out.mono ?_
        rintro e w8 ⟨rfl, hP8, hU8⟩
        have hU9 := hU7.trans hU8
        go_wp2_with fail
        refine (hwi.out _).mono ?_
        rintro e w' ⟨rfl, rfl⟩
        cases hwb : wiB m 1 59 with
        | true =>
          have hw4 := Lib.hid (show wClk ws = (D ++ [58] ++ twoN m, ts) by rw [hw3.out]; simp only [hwb]; rfl)
          clear hwb
          have h2m := Lib.hid (fun w9 => twoDigits_any m (by omega) w9)
          have hEl := twoN_len m
          generalize twoN m = E at *
          go_wp2_with fail
          refine (h2n.out _).mono ?_
          rintro e w' ⟨rfl, rfl⟩
          go_wp2_with fail
          refine (h2m.out _).mono ?_
          rintro e w' ⟨rfl, rfl⟩
          go_wp2
          go_ret
          exact ⟨ret_bs (by rw [hw4.out]; simp), by rw [hw4.out]; exact hP8, hU9⟩
          all_goals (first | omega | (simp; omega))
        | false =>
          have hw4 := Lib.hid (show wClk ws = ([], ts) by rw [hw3.out]; simp only [hwb]; rfl)
          clear hwb
          go_wp2
          go_ret
          exact ⟨by rw [hw4.out]; rfl, by rw [hw4.out]; exact hP8, hU9⟩
end Go.Proofs.YtpdfjlbfhnapkaaGreatDoor

/- What is written: ordinals, fractions, dates, sums of money. -/
namespace Go.Proofs.YtpdfjlbfhnapkaaGreatDoor
open Go.RowKit
set_option linter.unusedSimpArgs false

def endN (n : Nat) : Str := if wiB (n % 100) 11 13 then [116, 104] else if n % 10 = 1 then [115, 116] else if n % 10 = 2 then [110, 100] else if n % 10 = 3 then [114, 100] else [116, 104]
theorem ending_any (n : Nat) (w : World) : Calls Tryz.prog 102 #[.int .i64 (n : Int)] w fun e w' => e = .returned (.string ⟨(endN n).toArray⟩) ∧ w = w' := by
  obtain ⟨a, ha⟩ : ∃ a, n % 100 = a := ⟨_, rfl⟩
  obtain ⟨b, hb⟩ : ∃ b, n % 10 = b := ⟨_, rfl⟩
  have hbl : b < 10 := by omega
  have d1 : (n : Int).tmod 100 = (a : Int) := by rw [Int.tmod_eq_emod_of_nonneg (by omega)]; omega
  have d2 : (n : Int) % 100 = (a : Int) := by omega
  have d3 : (n : Int).tmod 10 = (b : Int) := by rw [Int.tmod_eq_emod_of_nonneg (by omega)]; omega
  have d4 : (n : Int) % 10 = (b : Int) := by omega
  have hw := Lib.hid (show endN n = if wiB a 11 13 then [116, 104] else if b = 1 then [115, 116] else if b = 2 then [110, 100] else if b = 3 then [114, 100] else [116, 104] by unfold endN; rw [ha, hb])
  have hwi := Lib.hid (fun w9 => show Calls Tryz.prog 60 #[.int .i64 (a : Int), .int .i64 11, .int .i64 13] w9 fun e w' => e = .returned (.bool (wiB a 11 13)) ∧ w9 = w' from within_nat a 11 13 w9)
  clear ha hb
  cases hc : wiB a 11 13 with
  | true =>
    rw [hc] at hw hwi
    have hw2 := Lib.hid (show endN n = [116, 104] from hw.out)
    clear hc
    go_enter Tryz.func102, Tryz.ntmps102
    go_wp2_with fail
    refine (hwi.out _).mono ?_
    rintro e w' ⟨rfl, rfl⟩
    go_wp2
    go_ret
    exact ⟨by rw [hw2.out]; rfl, rfl⟩
  | false =>
    rw [hc] at hw hwi
    have hw2 := Lib.hid (show endN n = if b = 1 then [115, 116] else if b = 2 then [110, 100] else if b = 3 then [114, 100] else [116, 104] from hw.out)
    clear hc
    rcases (show b = 0 ∨ b = 1 ∨ b = 2 ∨ b = 3 ∨ b = 4 ∨ b = 5 ∨ b = 6 ∨ b = 7 ∨ b = 8 ∨ b = 9 by omega) with rfl | rfl | rfl | rfl | rfl | rfl | rfl | rfl | rfl | rfl <;>
      (go_enter Tryz.func102, Tryz.ntmps102
       go_wp2_with fail
       refine (hwi.out _).mono ?_
       rintro e w' ⟨rfl, rfl⟩
       go_wp2
       go_ret
       exact ⟨by rw [hw2.out]; rfl, rfl⟩)
theorem end_len (n : Nat) : (endN n).length ≤ 2 := by
  unfold endN
  split
  · decide
  · split
    · decide
    · split
      · decide
      · split <;> decide
def wrO (n : Nat) : Str := numS n ++ endN n
theorem wrO_any (n : Nat) (hn : n ≤ 1000000000000000) (w : World) (hT : WT w) : Calls Tryz.prog 62 #[.int .i64 (n : Int)] w fun e w' => e = .returned (.string ⟨(wrO n).toArray⟩) ∧ Below w.heap.size w w' := by
  have hw := Lib.hid (show wrO n = numS n ++ endN n from rfl)
  have hi := Lib.hid (fun (w9 : World) (h9 : WT w9) => itoa_any n hn w9 h9)
  have he := Lib.hid (fun w9 => ending_any n w9)
  have l1 := numS_len n
  have l2 := end_len n
  generalize numS n = D at *
  generalize endN n = E at *
  go_enter Tryz.func62, Tryz.ntmps62
  go_wp2_with fail
  refine (hi.out _ hT).mono ?_
  rintro e w2 ⟨rfl, hb2⟩
  go_wp2_with fail
  refine (he.out _).mono ?_
  rintro e w' ⟨rfl, rfl⟩
  go_wp2
  go_ret
  exact ⟨ret_bs (by rw [hw.out]; simp), hb2⟩
  all_goals omega
theorem ordGo_le (pre rest : List Str) : (ordGo pre rest).1 ≤ 3000000000000 := by
  induction rest generalizing pre with
  | nil => exact Nat.zero_le _
  | cons y ys ih =>
    have h2 := countF_le (pre ++ [cardW y])
    unfold ordGo
    obtain ⟨q, rs, hr⟩ := pair_eta (countF (pre ++ [cardW y]))
    rw [hr] at h2 ⊢
    split
    · exact ih _
    · split
      · exact h2
      · exact Nat.zero_le _
theorem ordF_le (ws : List Str) : (ordF ws).1 ≤ 3000000000000 := ordGo_le [] ws
def wOrd (ws : List Str) : Str × List Str := if (ordF ws).1 = 0 then ([], (ordF ws).2) else (wrO (ordF ws).1, (ordF ws).2)
/-- words that are not too long -/
def Shw (ws : List Str) : Prop := ws.length ≤ 100000 ∧ ∀ x ∈ ws, x.length ≤ 10000
theorem Shw.tkR {ws : List Str} (h : Shw ws) (x : Str) : Shw (tkR x ws) := by
  unfold Go.Proofs.YtpdfjlbfhnapkaaGreatDoor.tkR
  split
  · exact ⟨by rw [List.length_tail]; have := h.1; omega, fun y hy => h.2 y (List.mem_of_mem_tail hy)⟩
  · exact h
set_option maxRecDepth 100000 in
set_option maxHeartbeats 4000000 in
theorem wOrd_any (g : Nat) (ws : List Str) (w : World) (h : PW w g ws) (hl : Shw ws) :
    Calls Tryz.prog 226 #[.agg #[], .pointer (some ⟨g, 0, none⟩)] w (RetSP g (wOrd ws) w) := by
  have hP1 := h.box 115
  have hU1 := (Upto.refl g w).alloc (.cells #[] 115)
  have ho := Lib.hid (fun (w9 : World) (h9 : PW w9 g ws) => ordinal_any g ws w9 h9 hl.1 hl.2)
  have hle := ordF_le ws
  have hw := Lib.hid (show wOrd ws = if (ordF ws).1 = 0 then ([], (ordF ws).2) else (wrO (ordF ws).1, (ordF ws).2) from rfl)
  obtain ⟨n, us, hr⟩ := pair_eta (ordF ws)
  rw [hr] at ho hle hw
  simp only at hle
  clear hr
  go_enter Tryz.func226, Tryz.ntmps226
  go_wp2_with fail
  refine (ho.out _ hP1).mono ?_
  rintro e w4 ⟨rfl, hP4, hU4⟩
  have hU5 := hU1.trans hU4
  by_cases hn : n = 0
  · subst hn
    have hw2 := Lib.hid (show wOrd ws = ([], us) by rw [hw.out]; rfl)
    go_wp2
    go_ret
    exact ⟨by rw [hw2.out]; rfl, by rw [hw2.out]; exact hP4, hU5⟩
  · have hn1 : ((n : Int) == 0) = false := by rw [beq_eq_false_iff_ne]; omega
    have hw2 := Lib.hid (show wOrd ws = (wrO n, us) by rw [hw.out]; exact if_neg hn)
    go_wp2_with fail
    refine (wrO_any n (by omega) _ hP4.2.1).mono ?_
    rintro e w6 ⟨rfl, hb6⟩
    have hP6 := hP4.below hb6
    have hU6 := hU5.bel hb6
    go_wp2
    go_ret
    exact ⟨ret_str (by rw [hw2.out]), by rw [hw2.out]; exact hP6, hU6⟩

def wDec (ws : List Str) : Str × List Str :=
  let s := signF ws
  let a := wholeF s.2
  if a.1.2 && tkB [112, 111, 105, 110, 116] a.2 then
    (if placesB (digF (tkR [112, 111, 105, 110, 116] a.2)).1 then (s.1 ++ numS a.1.1 ++ [46] ++ (digF (tkR [112, 111, 105, 110, 116] a.2)).1, (digF (tkR [112, 111, 105, 110, 116] a.2)).2) else ([], (digF (tkR [112, 111, 105, 110, 116] a.2)).2))
  else ([], a.2)
theorem oneF_short {nm : Nat → Str} {n k m : Nat} {ws : List Str} (h : ws.length ≤ m) : (oneF nm n k ws).2.length ≤ m := by
  rcases oneF_cases nm n k ws with h1 | ⟨y, ys, q, h1, h2, _⟩
  · rw [h1]; exact h
  · rw [h2]; rw [h1, List.length_cons] at h; show ys.length ≤ m; omega
set_option maxRecDepth 100000 in
set_option maxHeartbeats 4000000 in
theorem wDec_any (g : Nat) (ws : List Str) (w : World) (h : PW w g ws) (hl : (wholeF (signF ws).2).2.length ≤ 1000000) :
    Calls Tryz.prog 239 #[.agg #[], .pointer (some ⟨g, 0, none⟩)] w (RetSP g (wDec ws) w) := by
  have hP1 := h.box 117
  have hU1 := (Upto.refl g w).alloc (.cells #[] 117)
  have hsl := sign_len ws
  have hs := Lib.hid (fun (w9 : World) (h9 : PW w9 g ws) => sign_any g ws w9 h9)
  obtain ⟨s, vs, hr⟩ := pair_eta (signF ws)
  rw [hr] at hl
  simp only at hl
  have hle := wholeF_le vs
  have ha := Lib.hid (fun (w9 : World) (h9 : PW w9 g vs) => whole_any g vs w9 h9)
  obtain ⟨⟨n, ok⟩, us, hr2⟩ := pair_eta (wholeF vs)
  have hw := Lib.hid (show wDec ws = if ok && tkB [112, 111, 105, 110, 116] us then (if placesB (digF (tkR [112, 111, 105, 110, 116] us)).1 then (s ++ numS n ++ [46] ++ (digF (tkR [112, 111, 105, 110, 116] us)).1, (digF (tkR [112, 111, 105, 110, 116] us)).2) else ([], (digF (tkR [112, 111, 105, 110, 116] us)).2)) else ([], us) by
    simp only [wDec, hr, hr2])
  rw [hr] at hs hsl
  rw [hr2] at ha hle hl
  simp only at hsl hle hl
  clear hr hr2
  have hi := Lib.hid (fun (w9 : World) (h9 : WT w9) => itoa_any n (by omega) w9 h9)
  have hnl := numS_len n
  generalize numS n = D at *
  cases ok with
  | false =>
    have hw2 := Lib.hid (show wDec ws = ([], us) from hw.out)
    go_enter Tryz.func239, Tryz.ntmps239
    go_wp2_with fail
    refine (hs.out _ hP1).mono ?_
    rintro e w2 ⟨rfl, hP2, hU2⟩
    have hU3 := hU1.trans hU2
    go_wp2_with fail
    refine (ha.out _ hP2).mono ?_
    rintro e w4 ⟨rfl, hP4, hU4⟩
    have hU5 := hU3.trans hU4
    go_wp2
    go_ret
    exact ⟨by rw [hw2.out]; rfl, by rw [hw2.out]; exact hP4, hU5⟩
  | true =>
    go_enter Tryz.func239, Tryz.ntmps239
    go_wp2_with fail
    refine (hs.out _ hP1).mono ?_
    rintro e w2 ⟨rfl, hP2, hU2⟩
    have hU3 := hU1.trans hU2
    go_wp2_with fail
    refine (ha.out _ hP2).mono ?_
    rintro e w4 ⟨rfl, hP4, hU4⟩
    have hU5 := hU3.trans hU4
    go_wp2_with fail
    refine (takeW g [112, 111, 105, 110, 116] us _ hP4).mono ?_
    rintro e w6 ⟨rfl, hP6, hU6⟩
    have hU7 := hU5.trans hU6
    cases htk : tkB [112, 111, 105, 110, 116] us with
    | false =>
      have hr := Lib.hid (show tkR [112, 111, 105, 110, 116] us = us by unfold tkR; rw [htk]; rfl)
      rw [hr.out] at hP6
      have hw2 := Lib.hid (show wDec ws = ([], us) by rw [hw.out, htk]; rfl)
      clear htk
      go_wp2
      go_ret
      exact ⟨by rw [hw2.out]; rfl, by rw [hw2.out]; exact hP6, hU7⟩
    | true =>
      have hw2 := Lib.hid (show wDec ws = if placesB (digF (tkR [112, 111, 105, 110, 116] us)).1 then (s ++ D ++ [46] ++ (digF (tkR [112, 111, 105, 110, 116] us)).1, (digF (tkR [112, 111, 105, 110, 116] us)).2) else ([], (digF (tkR [112, 111, 105, 110, 116] us)).2) by rw [hw.out, htk]; rfl)
      have htl : (tkR [112, 111, 105, 110, 116] us).length ≤ 1000000 := by
        unfold tkR
        rw [if_pos htk, List.length_tail]; omega
      clear htk
      generalize tkR [112, 111, 105, 110, 116] us = ts at *
      have hdl := digF_len ts
      have hd := Lib.hid (fun (w9 : World) (h9 : PW w9 g ts) => digits_any g ts w9 h9 htl)
      obtain ⟨E, rs, hr⟩ := pair_eta (digF ts)
      rw [hr] at hd hw2 hdl
      simp only at hdl
      clear hr
      go_wp2_with fail
      refine (hd.out _ hP6).mono ?_
      rintro e w8 ⟨rfl, hP8, hU8⟩
      have hU9 := hU7.trans hU8
      go_wp2_with fail
      refine (arePlaces_any E w8).mono ?_
      rintro e w' ⟨rfl, rfl⟩
      cases hpl : placesB E with
      | false =>
        have hw3 := Lib.hid (show wDec ws = ([], rs) by rw [hw2.out]; simp only [hpl]; rfl)
        clear hpl
        go_wp2
        go_ret
        exact ⟨by rw [hw3.out]; rfl, by rw [hw3.out]; exact hP8, hU9⟩
      | true =>
        have hw3 := Lib.hid (show wDec ws = (s ++ D ++ [46] ++ E, rs) by rw [hw2.out]; simp only [hpl]; rfl)
        clear hpl
        go_wp2_with fail
        refine (hi.out _ hP8.2.1).mono ?_
        rintro e w10 ⟨rfl, hb10⟩
        have hP10 := hP8.below hb10
        have hU10 := hU9.bel hb10
        go_wp2
        go_ret
        exact ⟨ret_bs (by rw [hw3.out]; simp), by rw [hw3.out]; exact hP10, hU10⟩
        all_goals (first | omega | (simp; omega))
end Go.Proofs.YtpdfjlbfhnapkaaGreatDoor

/- Readers leave the end of a list; dates and sums of money are written. -/
namespace Go.Proofs.YtpdfjlbfhnapkaaGreatDoor
open Go.RowKit
set_option linter.unusedSimpArgs false

/-- a reader leaves the end of the list -/
def Suf (F : List Str → Nat × List Str) : Prop := ∀ ws, (F ws).2 <:+ ws
theorem tkR_suf (x : Str) (ws : List Str) : tkR x ws <:+ ws := by
  unfold tkR; split
  · exact List.tail_suffix ws
  · exact List.suffix_refl ws
theorem oneF_suf (nm : Nat → Str) (n k : Nat) : Suf (oneF nm n k) := fun ws => by
  rcases oneF_cases nm n k ws with h | ⟨y, ys, q, h, h2, _⟩
  · rw [h]; exact List.suffix_refl ws
  · rw [h2, h]; exact List.suffix_cons y ys
theorem unitF_suf : Suf unitF := oneF_suf smallN 1 9
theorem monthF_suf : Suf monthF := oneF_suf monthN 1 12
theorem belowF_suf : Suf belowF := fun ws => by
  unfold belowF
  split
  · exact (oneF_suf smallN 1 19 _).trans (oneF_suf tensN 2 8 ws)
  · exact (unitF_suf _).trans (oneF_suf tensN 2 8 ws)
theorem attF_suf {F : List Str → Nat × List Str} (h : Suf F) : Suf (attF F) := fun ws => by
  unfold attF; split
  · exact List.suffix_refl ws
  · exact h ws
theorem befF_suf {F : List Str → Nat × List Str} (h : Suf F) (x : Str) : Suf (befF x F) := fun ws => by
  unfold befF; split
  · exact (tkR_suf x _).trans (h ws)
  · exact h ws
theorem aftF_suf {F : List Str → Nat × List Str} (h : Suf F) (x : Str) : Suf (aftF x F) := fun ws => by
  unfold aftF; split
  · exact (h _).trans (tkR_suf x ws)
  · exact List.suffix_refl ws
theorem beforeF_suf {F : List Str → Nat × List Str} (h : Suf F) (x : Str) : Suf (beforeF x F) := attF_suf (befF_suf h x)
theorem afterF_suf {F : List Str → Nat × List Str} (h : Suf F) (x : Str) : Suf (afterF x F) := attF_suf (aftF_suf h x)
theorem lastF_suf (n : Nat) : Suf (lastF n) := fun ws => by
  unfold lastF
  split
  · exact (belowF_suf _).trans (beforeF_suf unitF_suf _ ws)
  · exact (afterF_suf belowF_suf _ _).trans (beforeF_suf unitF_suf _ ws)
theorem groupF_suf : Suf groupF := lastF_suf 0
theorem powF_suf (ps : List (Nat × Str)) (n : Nat) : Suf (powF ps n) := by
  induction ps generalizing n with
  | nil => exact fun ws => List.suffix_refl ws
  | cons p ps ih => exact fun ws => (ih _ _).trans (beforeF_suf groupF_suf p.2 ws)
theorem countF_suf : Suf countF := fun ws => (lastF_suf _ _).trans (powF_suf powL 0 ws)
theorem wholeF_suf (ws : List Str) : (wholeF ws).2 <:+ ws := by
  have h := countF_suf ws
  unfold wholeF
  obtain ⟨q, rs, hr⟩ := pair_eta (countF ws)
  rw [hr] at h ⊢
  split
  · exact tkR_suf _ ws
  · exact h
theorem signF_suf (ws : List Str) : (signF ws).2 <:+ ws := by
  unfold signF; split
  · exact tkR_suf _ ws
  · exact List.suffix_refl ws
theorem pairF_suf : Suf pairF := fun ws => by
  have h1 := afterF_suf unitF_suf [111, 104] ws
  have h2 := belowF_suf (afterF [111, 104] unitF ws).2
  unfold pairF
  obtain ⟨q, rs, hr⟩ := pair_eta (afterF [111, 104] unitF ws)
  rw [hr] at h1 h2 ⊢
  obtain ⟨u, us, hr2⟩ := pair_eta (belowF rs)
  simp only at h1 h2 ⊢
  rw [hr2] at h2 ⊢
  split
  · exact h1
  · split
    · exact h2.trans h1
    · exact h2.trans h1
theorem centsF_suf : Suf centsF := fun ws => by
  have h := belowF_suf ws
  unfold centsF
  obtain ⟨q, rs, hr⟩ := pair_eta (belowF ws)
  rw [hr] at h ⊢
  split
  · exact (tkR_suf _ rs).trans h
  · exact h
theorem centsF_le (ws : List Str) : (centsF ws).1 ≤ 99 := by
  have h := belowF_le ws
  unfold centsF
  obtain ⟨q, rs, hr⟩ := pair_eta (belowF ws)
  rw [hr] at h ⊢
  split
  · exact h
  · exact Nat.zero_le _
theorem ordGo_suf (pre rest : List Str) : (ordGo pre rest).2 <:+ pre ++ rest := by
  induction rest generalizing pre with
  | nil => rw [List.append_nil]; exact List.suffix_refl pre
  | cons y ys ih =>
    unfold ordGo
    obtain ⟨q, rs, hr⟩ := pair_eta (countF (pre ++ [cardW y]))
    rw [hr]
    split
    · have := ih (pre ++ [y])
      rw [List.append_assoc] at this
      exact this
    · split
      · exact (List.suffix_cons y ys).trans (List.suffix_append pre (y :: ys))
      · exact List.suffix_refl _
theorem ordF_suf : Suf ordF := fun ws => ordGo_suf [] ws
theorem Shw.suf {ws vs : List Str} (h : Shw ws) (hs : vs <:+ ws) : Shw vs := ⟨Nat.le_trans hs.length_le h.1, fun x hx => h.2 x (hs.subset hx)⟩

theorem lastD_le (y m : Int) : lastD y m ≤ 31 := by
  unfold lastD
  split
  · decide
  · split
    · split <;> decide
    · decide
def wDat3 (d m : Nat) (r : Nat × List Str) : Str × List Str := if dayB r.1 m d then (numS r.1 ++ [45] ++ twoN m ++ [45] ++ twoN d, r.2) else ([], r.2)
def wDat2 (d : Nat) (r : Nat × List Str) : Str × List Str := wDat3 d r.1 (yearF r.2)
def wDat1 (r : Nat × List Str) : Str × List Str := if tkB [111, 102] r.2 then wDat2 r.1 (monthF (tkR [111, 102] r.2)) else ([], r.2)
def wDat (ws : List Str) : Str × List Str := wDat1 (afterF [116, 104, 101] ordF ws)
set_option maxRecDepth 100000 in
set_option maxHeartbeats 4000000 in
theorem wDat_any (g : Nat) (ws : List Str) (w : World) (h : PW w g ws) (hl : Shw ws) :
    Calls Tryz.prog 250 #[.agg #[], .pointer (some ⟨g, 0, none⟩)] w (RetSP g (wDat ws) w) := by
  have hmf : ∀ (fn : Fn) (first cap : Array Value) (w : World), (Instr.makeFunc fn first cap).run Tryz.prog w = .ok (.func fn first cap) w := fun _ _ _ _ => rfl
  have hP1 := h.box 119
  have hU1 := (Upto.refl g w).alloc (.cells #[] 119)
  have ho := Lib.hid (fun (w9 : World) (h9 : PW w9 g ws) => after_at 228 ordF (fun _ _ => rfl) [116, 104, 101] g ws (fun w8 h8 => ordinal_any g _ w8 h8 (hl.tkR [116, 104, 101]).1 (hl.tkR [116, 104, 101]).2) w9 h9)
  have hw := Lib.hid (show wDat ws = wDat1 (afterF [116, 104, 101] ordF ws) from rfl)
  obtain ⟨d, us, hr⟩ := pair_eta (afterF [116, 104, 101] ordF ws)
  rw [hr] at ho hw
  clear hr
  go_enter Tryz.func250, Tryz.ntmps250
  go_wp2_with fail
  refine (ho.out _ hP1).mono ?_
  rintro e w4 ⟨rfl, hP4, hU4⟩
  have hU5 := hU1.trans hU4
  go_wp2_with fail
  refine (takeW g [111, 102] us _ hP4).mono ?_
  rintro e w6 ⟨rfl, hP6, hU6⟩
  have hU7 := hU5.trans hU6
  cases htk : tkB [111, 102] us with
  | false =>
    have hr := Lib.hid (show tkR [111, 102] us = us by unfold tkR; rw [htk]; rfl)
    rw [hr.out] at hP6
    have hw2 := Lib.hid (show wDat ws = ([], us) by
      rw [hw.out]
      unfold wDat1
      rw [if_neg (show ¬ tkB [111, 102] us = true by rw [htk]; exact Bool.false_ne_true)])
    clear htk
    go_wp2
    go_ret
    exact ⟨by rw [hw2.out]; rfl, by rw [hw2.out]; exact hP6, hU7⟩
  | true =>
    have hw1 := Lib.hid (show wDat ws = wDat2 d (monthF (tkR [111, 102] us)) by
      rw [hw.out]
      unfold wDat1
      rw [if_pos htk])
    clear htk
    generalize tkR [111, 102] us = ts at *
    have hm := Lib.hid (fun (w9 : World) (h9 : PW w9 g ts) => month_read g ts w9 h9)
    obtain ⟨m, rs, hr⟩ := pair_eta (monthF ts)
    rw [hr] at hm hw1
    have hw1 := Lib.hid (show wDat ws = wDat3 d m (yearF rs) by rw [hw1.out]; unfold wDat2; with_reducible rfl)
    clear hr
    have hy := Lib.hid (fun (w9 : World) (h9 : PW w9 g rs) => year_any g rs w9 h9)
    obtain ⟨y, qs, hr⟩ := pair_eta (yearF rs)
    rw [hr] at hy hw1
    clear hr
    go_wp2_with fail
    refine (hm.out _ hP6).mono ?_
    rintro e w8 ⟨rfl, hP8, hU8⟩
    have hU9 := hU7.trans hU8
    go_wp2_with fail
    refine (hy.out _ hP8).mono ?_
    rintro e w10 ⟨rfl, hP10, hU10⟩
    have hU11 := hU9.trans hU10
    go_wp2_with fail
    refine (day_any y m d w10).mono ?_
    rintro e w' ⟨rfl, rfl⟩
    cases hdb : dayB y m d with
    | false =>
      have hw2 := Lib.hid (show wDat ws = ([], qs) by
        rw [hw1.out]
        unfold wDat3
        simp only [hdb, if_true, Bool.false_eq_true, if_false])
      clear hdb
      go_wp2
      go_ret
      exact ⟨by rw [hw2.out]; rfl, by rw [hw2.out]; exact hP10, hU11⟩
    | true =>
      have hw2 := Lib.hid (show wDat ws = (numS y ++ [45] ++ twoN m ++ [45] ++ twoN d, qs) by
        rw [hw1.out]
        unfold wDat3
        simp only [hdb, if_true, Bool.false_eq_true, if_false])
      unfold dayB wiI at hdb
      simp only [Bool.and_eq_true, decide_eq_true_eq] at hdb
      have hld := lastD_le (y : Int) (m : Int)
      have by1 : y ≤ 2999 := by omega
      have bm1 : m < 100 := by omega
      have bd1 : d < 100 := by omega
      clear hdb hld
      have hi := Lib.hid (fun (w9 : World) (h9 : WT w9) => itoa_any y (by omega) w9 h9)
      have h2m := Lib.hid (fun w9 => twoDigits_any m bm1 w9)
      have h2d := Lib.hid (fun w9 => twoDigits_any d bd1 w9)
      have l1 := numS_len y
      have l2 := twoN_len m
      have l3 := twoN_len d
      generalize numS y = Y at *
      generalize twoN m = M at *
      generalize twoN d = D at *
      go_wp2_with fail
      refine (hi.out _ hP10.2.1).mono ?_
      rintro e w12 ⟨rfl, hb12⟩
      have hP12 := hP10.below hb12
      have hU12 := hU11.bel hb12
      go_wp2_with fail
      refine (h2m.out _).mono ?_
      rintro e w' ⟨rfl, rfl⟩
      go_wp2_with fail
      refine (h2d.out _).mono ?_
      rintro e w' ⟨rfl, rfl⟩
      go_wp2
      go_ret
      exact ⟨ret_bs (by rw [hw2.out]; simp), by rw [hw2.out]; exact hP12, hU12⟩
      all_goals (first | omega | (simp; omega))

def wMon4 (n : Nat) (r : Nat × List Str) : Str × List Str := if 0 < r.1 then ([36] ++ numS n ++ ([46] ++ twoN r.1), r.2) else ([36] ++ numS n, r.2)
def wMon3 (n : Nat) (ws : List Str) : Str × List Str := if n = 0 then ([36] ++ numS n, ws) else wMon4 n (afterF [97, 110, 100] centsF ws)
def wMon2 (a : (Nat × Bool) × List Str) : Str × List Str := if a.1.2 && tkB (countedN a.1.1 [100, 111, 108, 108, 97, 114]) a.2 then wMon3 a.1.1 (tkR (countedN a.1.1 [100, 111, 108, 108, 97, 114]) a.2) else ([], a.2)
def wMon1 (r : Nat × List Str) : Str × List Str := if 0 < r.1 then ([36, 48, 46] ++ twoN r.1, r.2) else wMon2 (wholeF r.2)
def wMon (ws : List Str) : Str × List Str := wMon1 (attF centsF ws)
theorem counted_len (n : Nat) (x : Str) : (countedN n x).length ≤ x.length + 1 := by
  unfold countedN; split
  · omega
  · simp
set_option maxRecDepth 100000 in
set_option maxHeartbeats 8000000 in
theorem wMon_any (g : Nat) (ws : List Str) (w : World) (h : PW w g ws) :
    Calls Tryz.prog 257 #[.agg #[], .pointer (some ⟨g, 0, none⟩)] w (RetSP g (wMon ws) w) := by
  have hmf : ∀ (fn : Fn) (first cap : Array Value) (w : World), (Instr.makeFunc fn first cap).run Tryz.prog w = .ok (.func fn first cap) w := fun _ _ _ _ => rfl
  have hP1 := h.box 120
  have hU1 := (Upto.refl g w).alloc (.cells #[] 120)
  have hc := Lib.hid (fun (w9 : World) (h9 : PW w9 g ws) => attempt_m 259 centsF (fun _ _ => rfl) g ws w9 h9 (cents_any g ws w9 h9))
  have hcl := attF_le (F := centsF) (m := 99) (ws := ws) (centsF_le ws)
  have hw := Lib.hid (show wMon ws = wMon1 (attF centsF ws) from rfl)
  obtain ⟨c, vs, hr⟩ := pair_eta (attF centsF ws)
  rw [hr] at hc hcl hw
  simp only at hcl
  clear hr
  go_enter Tryz.func257, Tryz.ntmps257
  go_wp2_with fail
  refine (hc.out _ hP1).mono ?_
  rintro e w4 ⟨rfl, hP4, hU4⟩
  have hU5 := hU1.trans hU4
  by_cases hc0 : 0 < c
  · have h1 : (0 : Int) < (c : Int) := by omega
    have hw2 := Lib.hid (show wMon ws = ([36, 48, 46] ++ twoN c, vs) by rw [hw.out]; unfold wMon1; rw [if_pos hc0])
    have h2c := Lib.hid (fun w9 => twoDigits_any c (by omega) w9)
    have l1 := twoN_len c
    generalize twoN c = D at *
    go_wp2_with fail
    refine (h2c.out _).mono ?_
    rintro e w' ⟨rfl, rfl⟩
    go_wp2
    go_ret
    exact ⟨ret_bs (by rw [hw2.out]; simp), by rw [hw2.out]; exact hP4, hU5⟩
    all_goals (first | omega | (simp; omega))
  · have h1 : ¬ (0 : Int) < (c : Int) := by omega
    have h2 : decide ((0 : Int) < (c : Int)) = false := decide_eq_false h1
    have hw1 := Lib.hid (show wMon ws = wMon2 (wholeF vs) by rw [hw.out]; unfold wMon1; rw [if_neg hc0])
    have hle := wholeF_le vs
    have ha := Lib.hid (fun (w9 : World) (h9 : PW w9 g vs) => whole_any g vs w9 h9)
    obtain ⟨⟨n, ok⟩, us, hr2⟩ := pair_eta (wholeF vs)
    rw [hr2] at ha hle hw1
    simp only at hle
    clear hr2
    go_wp2_with fail
    refine (ha.out _ hP4).mono ?_
    rintro e w6 ⟨rfl, hP6, hU6⟩
    have hU7 := hU5.trans hU6
    cases ok with
    | false =>
      have hw2 := Lib.hid (show wMon ws = ([], us) by rw [hw1.out]; unfold wMon2; simp only [Bool.false_and, Bool.false_eq_true, if_false])
      go_wp2
      go_ret
      exact ⟨by rw [hw2.out]; rfl, by rw [hw2.out]; exact hP6, hU7⟩
    | true =>
      have hw2 := Lib.hid (show wMon ws = if tkB (countedN n [100, 111, 108, 108, 97, 114]) us then wMon3 n (tkR (countedN n [100, 111, 108, 108, 97, 114]) us) else ([], us) by rw [hw1.out]; unfold wMon2; simp only [Bool.true_and])
      have hcn := Lib.hid (fun w9 => counted_any n [100, 111, 108, 108, 97, 114] w9 (by decide))
      generalize countedN n [100, 111, 108, 108, 97, 114] = X at *
      go_wp2_with fail
      refine (hcn.out _).mono ?_
      rintro e w' ⟨rfl, rfl⟩
      go_wp2_with fail
      refine (takeW g X us _ hP6).mono ?_
      rintro e w8 ⟨rfl, hP8, hU8⟩
      have hU9 := hU7.trans hU8
      cases htk : tkB X us with
      | false =>
        have hr := Lib.hid (show tkR X us = us by unfold tkR; rw [htk]; rfl)
        rw [hr.out] at hP8
        have hw3 := Lib.hid (show wMon ws = ([], us) by rw [hw2.out, if_neg (show ¬ tkB X us = true by rw [htk]; exact Bool.false_ne_true)])
        clear htk
        go_wp2
        go_ret
        exact ⟨by rw [hw3.out]; rfl, by rw [hw3.out]; exact hP8, hU9⟩
      | true =>
        have hw3 := Lib.hid (show wMon ws = wMon3 n (tkR X us) by rw [hw2.out, if_pos htk])
        clear htk
        generalize tkR X us = ts at *
        have hi := Lib.hid (fun (w9 : World) (h9 : WT w9) => itoa_any n (by omega) w9 h9)
        have hnl := numS_len n
        by_cases hn : n = 0
        · have hn1 : ((n : Int) == 0) = true := by rw [hn]; rfl
          have hw4 := Lib.hid (show wMon ws = ([36] ++ numS n, ts) by rw [hw3.out]; unfold wMon3; rw [if_pos hn])
          clear hn
          generalize numS n = D at *
          go_wp2_with fail
          refine (hi.out _ hP8.2.1).mono ?_
          rintro e w10 ⟨rfl, hb10⟩
          have hP10 := hP8.below hb10
          have hU10 := hU9.bel hb10
          go_wp2
          go_ret
          exact ⟨ret_bs (by rw [hw4.out]; simp), by rw [hw4.out]; exact hP10, hU10⟩
          all_goals (first | omega | (simp; omega))
        · have hn1 : ((n : Int) == 0) = false := by rw [beq_eq_false_iff_ne]; omega
          have hw4 := Lib.hid (show wMon ws = wMon4 n (afterF [97, 110, 100] centsF ts) by rw [hw3.out]; unfold wMon3; rw [if_neg hn])
          have hq := Lib.hid (fun (w9 : World) (h9 : PW w9 g ts) => after_any 259 centsF (fun g ws w h => cents_any g ws w h) (fun _ _ => rfl) [97, 110, 100] g ts w9 h9)
          have hql := aftF_le (F := centsF) (m := 99) (x := [97, 110, 100]) (ws := ts) (centsF_le _)
          obtain ⟨q, rs, hr⟩ := pair_eta (afterF [97, 110, 100] centsF ts)
          rw [hr] at hq hql hw4
          simp only at hql
          clear hr
          have hw5 := Lib.hid (show wMon ws = if 0 < q then ([36] ++ numS n ++ ([46] ++ twoN q), rs) else ([36] ++ numS n, rs) by rw [hw4.out]; unfold wMon4; with_reducible rfl)
          generalize numS n = D at *
          go_wp2_with fail
          refine (hi.out _ hP8.2.1).mono ?_
          rintro e w10 ⟨rfl, hb10⟩
          have hP10 := hP8.below hb10
          have hU10 := hU9.bel hb10
          go_wp2_with fail
          refine (hq.out _ hP10).mono ?_
          rintro e w12 ⟨rfl, hP12, hU12⟩
          have hU13 := hU10.trans hU12
          by_cases hq0 : 0 < q
          · have g1 : (0 : Int) < (q : Int) := by omega
            have hw6 := Lib.hid (show wMon ws = ([36] ++ D ++ ([46] ++ twoN q), rs) by rw [hw5.out]; exact if_pos hq0)
            have h2q := Lib.hid (fun w9 => twoDigits_any q (by omega) w9)
            have l1 := twoN_len q
            generalize twoN q = E at *
            go_wp2_with fail
            refine (h2q.out _).mono ?_
            rintro e w' ⟨rfl, rfl⟩
            go_wp2
            go_ret
            exact ⟨ret_bs (by rw [hw6.out]; simp), by rw [hw6.out]; exact hP12, hU13⟩
            all_goals (first | omega | (simp; omega))
          · have g1 : ¬ (0 : Int) < (q : Int) := by omega
            have g2 : decide ((0 : Int) < (q : Int)) = false := decide_eq_false g1
            have hw6 := Lib.hid (show wMon ws = ([36] ++ D, rs) by rw [hw5.out]; exact if_neg hq0)
            go_wp2
            go_ret
            exact ⟨ret_bs (by rw [hw6.out]; simp), by rw [hw6.out]; exact hP12, hU13⟩
            all_goals (first | omega | (simp; omega))
end Go.Proofs.YtpdfjlbfhnapkaaGreatDoor
