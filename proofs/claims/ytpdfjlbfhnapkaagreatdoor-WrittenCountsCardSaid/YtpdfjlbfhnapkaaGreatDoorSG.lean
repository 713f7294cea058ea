/- Numerals, dates, and what a parser reads as digits and as years. -/
import Derived.Test.YtpdfjlbfhnapkaaGreatDoorSE
namespace Go.Proofs.YtpdfjlbfhnapkaaGreatDoor
open Go.RowKit
set_option linter.unusedSimpArgs false

theorem itoa_nat (n : Nat) : Lib.itoa (n : Int) = Lib.decDigits n := by
  unfold Lib.itoa
  rw [if_neg (by omega)]
  rfl
/-- a number's digits, by at most so many steps -/
def dcN : Nat → Nat → Str
  | 0, _ => []
  | k + 1, u => if u < 10 then [UInt8.ofNat (48 + u)] else dcN k (u / 10) ++ [UInt8.ofNat (48 + u % 10)]
theorem dcN_eq (k : Nat) : ∀ u, u < 10 ^ (k + 1) → Lib.decDigits u = dcN (k + 1) u := by
  induction k with
  | zero =>
    intro u h
    have h : u < 10 := by simpa using h
    rw [Lib.decDigits_one h]
    show _ = if u < 10 then _ else _
    rw [if_pos h]
  | succ k ih =>
    intro u h
    by_cases h1 : u < 10
    · rw [Lib.decDigits_one h1]
      show _ = if u < 10 then _ else _
      rw [if_pos h1]
    · rw [Lib.decDigits, dif_neg h1]
      show _ = if u < 10 then _ else dcN (k + 1) (u / 10) ++ _
      rw [if_neg h1, ih (u / 10) (by rw [Nat.pow_succ] at h; omega)]
theorem dcN_len (k : Nat) : ∀ u, (dcN k u).length ≤ k := by
  induction k with
  | zero => intro u; exact Nat.le_refl _
  | succ k ih =>
    intro u
    unfold dcN
    split
    · simp
    · rw [List.length_append]
      have := ih (u / 10)
      simp
      exact this
/-- a number's digits -/
def numS (n : Nat) : Str := dcN 16 n
theorem numS_eq {n : Nat} (h : n ≤ 1000000000000000) : Lib.decDigits n = numS n := dcN_eq 15 n (by omega)
theorem numS_len (n : Nat) : (numS n).length ≤ 16 := dcN_len 16 n
theorem itoa_any (n : Nat) (hn : n ≤ 1000000000000000) (w : World) (hT : WT w) :
    Calls Tryz.prog 61 #[.int .i64 (n : Int)] w fun e w' => e = .returned (.string ⟨(numS n).toArray⟩) ∧ Below w.heap.size w w' := by
  refine (Tryz.strconv_Itoa (n : Int) (by omega) (by omega) w hT.p10).mono ?_
  rintro e w' ⟨rfl, k, os, rfl⟩
  exact ⟨by rw [itoa_nat, numS_eq hn], Lib.below_grow _ _ (Nat.le_refl _) _ _⟩
theorem itoa_small (n : Nat) (hn : n < 100) (w : World) :
    Calls Tryz.prog 61 #[.int .i64 (n : Int)] w fun e w' => e = .returned (.string ⟨(numS n).toArray⟩) ∧ w = w' :=
  (Tryz.strconv_Itoa_small n hn w).mono fun _ _ ⟨h1, h2⟩ => ⟨by rw [h1, numS_eq (by omega)], h2.symm⟩

/-- a number below 100 with two digits -/
def twoN (n : Nat) : Str := numS (n / 10) ++ numS (n % 10)
theorem twoDigits_any (n : Nat) (hn : n < 100) (w : World) :
    Calls Tryz.prog 246 #[.int .i64 (n : Int)] w fun e w' => e = .returned (.string ⟨(twoN n).toArray⟩) ∧ w = w' := by
  obtain ⟨a, ha⟩ : ∃ a, n / 10 = a := ⟨_, rfl⟩
  obtain ⟨b, hb⟩ : ∃ b, n % 10 = b := ⟨_, rfl⟩
  have d1 : (n : Int).tdiv 10 = (a : Int) := by rw [Int.tdiv_eq_ediv_of_nonneg (by omega)]; omega
  have d2 : (n : Int) / 10 = (a : Int) := by omega
  have d3 : (n : Int).tmod 10 = (b : Int) := by rw [Int.tmod_eq_emod_of_nonneg (by omega)]; omega
  have d4 : (n : Int) % 10 = (b : Int) := by omega
  have ht := Lib.hid (show twoN n = numS a ++ numS b by unfold twoN; rw [ha, hb])
  have l1 := numS_len a
  have l2 := numS_len b
  have h1 := Lib.hid (itoa_small a (by omega))
  have h2 := Lib.hid (itoa_small b (by omega))
  clear ha hb
  generalize numS a = X at *
  generalize numS b = Y at *
  go_enter Tryz.func246, Tryz.ntmps246
  go_wp2_with fail
  refine (h1.out _).mono ?_
  rintro e w' ⟨rfl, rfl⟩
  go_wp2_with fail
  refine (h2.out _).mono ?_
  rintro e w' ⟨rfl, rfl⟩
  go_wp2
  go_ret
  exact ⟨ret_bs (by rw [ht.out]; simp), rfl⟩
  all_goals omega

theorem within_any (x a b : Int) (w : World) : Calls Tryz.prog 60 #[.int .i64 x, .int .i64 a, .int .i64 b] w fun e w' => e = .returned (.bool (decide (a ≤ x) && decide (x ≤ b))) ∧ w = w' := by
  by_cases h1 : a ≤ x
  · by_cases h2 : x ≤ b
    · have q1 : decide (a ≤ x) = true := decide_eq_true h1
      have q2 : decide (x ≤ b) = true := decide_eq_true h2
      go_enter Tryz.func60, Tryz.ntmps60
      go_wp2
      go_ret
      exact ⟨by first | rfl | (rw [q1, q2]; rfl), rfl⟩
    · have q1 : decide (a ≤ x) = true := decide_eq_true h1
      have q2 : decide (x ≤ b) = false := decide_eq_false h2
      go_enter Tryz.func60, Tryz.ntmps60
      go_wp2
      go_ret
      exact ⟨by first | rfl | (rw [q1, q2]; rfl), rfl⟩
  · have q1 : decide (a ≤ x) = false := decide_eq_false h1
    go_enter Tryz.func60, Tryz.ntmps60
    go_wp2
    go_ret
    exact ⟨by first | rfl | (rw [q1]; rfl), rfl⟩
/-- within, as a truth value of numbers that are not negative -/
def wiB (n a b : Nat) : Bool := decide (a ≤ n) && decide (n ≤ b)
theorem within_nat (n a b : Nat) (w : World) : Calls Tryz.prog 60 #[.int .i64 (n : Int), .int .i64 (a : Int), .int .i64 (b : Int)] w fun e w' => e = .returned (.bool (wiB n a b)) ∧ w = w' :=
  (within_any n a b w).mono fun _ _ ⟨h1, h2⟩ => ⟨by rw [h1]; unfold wiB; simp, h2⟩

/-- as many digits as there may be behind a period -/
def placesB (x : Str) : Bool := wiB x.length 1 12
theorem arePlaces_any (x : Str) (w : World) : Calls Tryz.prog 240 #[.string ⟨x.toArray⟩] w fun e w' => e = .returned (.bool (placesB x)) ∧ w = w' := by
  have h := Lib.hid (show Calls Tryz.prog 60 #[.int .i64 (x.length : Int), .int .i64 1, .int .i64 12] w fun e w' => e = .returned (.bool (placesB x)) ∧ w = w' from within_nat x.length 1 12 w)
  go_enter Tryz.func240, Tryz.ntmps240
  go_wp2_with fail
  refine h.out.mono ?_
  rintro e w' ⟨rfl, rfl⟩
  go_wp2
  go_ret
  exact ⟨rfl, rfl⟩
/-- digits that are spoken one by one -/
def digsB (x : Str) : Bool := wiB x.length 2 20 && (decide (x.headD 0 = 48) || decide (12 < x.length))
theorem areDigits_any (x : Str) (w : World) : Calls Tryz.prog 234 #[.string ⟨x.toArray⟩] w fun e w' => e = .returned (.bool (digsB x)) ∧ w = w' := by
  have h := Lib.hid (show Calls Tryz.prog 60 #[.int .i64 (x.length : Int), .int .i64 2, .int .i64 20] w fun e w' => e = .returned (.bool (wiB x.length 2 20)) ∧ w = w' from within_nat x.length 2 20 w)
  have hd := Lib.hid (show digsB x = (wiB x.length 2 20 && (decide (x.headD 0 = 48) || decide (12 < x.length))) from rfl)
  cases hw : wiB x.length 2 20 with
  | false =>
    rw [hw] at h hd
    clear hw
    go_enter Tryz.func234, Tryz.ntmps234
    go_wp2_with fail
    refine h.out.mono ?_
    rintro e w' ⟨rfl, rfl⟩
    go_wp2
    go_ret
    exact ⟨ret_bool hd.out.symm, rfl⟩
  | true =>
    rw [hw] at h hd
    unfold wiB at hw
    rw [Bool.and_eq_true] at hw
    have hx1 := of_decide_eq_true hw.1
    clear hw
    cases x with
    | nil => exact absurd hx1 (by decide)
    | cons c cs =>
      have h : Hid (Calls Tryz.prog 60 #[.int .i64 ((cs.length : Int) + 1), .int .i64 2, .int .i64 20] w fun e w' => e = .returned (.bool true) ∧ w = w') := by
        have h9 := h.out
        rw [show (((c :: cs).length : Nat) : Int) = (cs.length : Int) + 1 by simp] at h9
        exact h9
      have hb : ((⟨(c :: cs).toArray⟩ : ByteArray)[0]'(by show 0 < (c :: cs).toArray.size; simp)).toNat = c.toNat := rfl
      by_cases hc : c = 48
      · have hc1 : ((c.toNat : Int) == 48) = true := by rw [hc]; rfl
        have hd2 := Lib.hid (show digsB (c :: cs) = true by rw [hd.out, hc]; rfl)
        clear hc
        go_enter Tryz.func234, Tryz.ntmps234
        go_wp2_with fail
        refine h.out.mono ?_
        rintro e w' ⟨rfl, rfl⟩
        go_wp2
        go_ret
        exact ⟨ret_bool hd2.out.symm, rfl⟩
      · have hc1 : ((c.toNat : Int) == 48) = false := by
          rw [beq_eq_false_iff_ne]
          intro e
          exact hc (UInt8.toNat_inj.1 (by rw [show (48 : UInt8).toNat = 48 from rfl]; omega))
        have hc2 : decide (c = 48) = false := decide_eq_false hc
        by_cases hl : 12 < cs.length + 1
        · have hl1 : (12 : Int) < (cs.length : Int) + 1 := by omega
          have hd2 := Lib.hid (show digsB (c :: cs) = true by rw [hd.out]; simp; right; omega)
          go_enter Tryz.func234, Tryz.ntmps234
          go_wp2_with fail
          refine h.out.mono ?_
          rintro e w' ⟨rfl, rfl⟩
          go_wp2
          go_ret
          exact ⟨ret_bool hd2.out.symm, rfl⟩
        · have hl1 : ¬ (12 : Int) < (cs.length : Int) + 1 := by omega
          have hl2 : decide ((12 : Int) < (cs.length : Int) + 1) = false := decide_eq_false hl1
          have hd2 := Lib.hid (show digsB (c :: cs) = false by rw [hd.out]; simp [hc]; omega)
          go_enter Tryz.func234, Tryz.ntmps234
          go_wp2_with fail
          refine h.out.mono ?_
          rintro e w' ⟨rfl, rfl⟩
          go_wp2
          go_ret
          exact ⟨ret_bool hd2.out.symm, rfl⟩
end Go.Proofs.YtpdfjlbfhnapkaaGreatDoor

/- Digits and years, as a parser takes them; which dates there are. -/
namespace Go.Proofs.YtpdfjlbfhnapkaaGreatDoor
open Go.RowKit
set_option linter.unusedSimpArgs false

theorem oneF_cases (nm : Nat → Str) (n k : Nat) (ws : List Str) : oneF nm n k ws = (0, ws) ∨ ∃ y ys m, ws = y :: ys ∧ oneF nm n k ws = (m, ys) ∧ n ≤ m ∧ m < n + k := by
  induction k generalizing n with
  | zero => exact .inl rfl
  | succ k ih =>
    unfold oneF
    cases ws with
    | nil =>
      rw [if_neg (show ¬ tkB (nm n) [] = true from Bool.false_ne_true)]
      rcases ih (n := n + 1) with h | ⟨y, ys, m, h, _⟩
      · exact .inl h
      · cases h
    | cons y ys =>
      split
      · exact .inr ⟨y, ys, n, rfl, rfl, Nat.le_refl _, by omega⟩
      · rcases ih (n := n + 1) with h | ⟨y', ys', m, h, h2, h3, h4⟩
        · exact .inl h
        · exact .inr ⟨y', ys', m, h, h2, by omega, by omega⟩
theorem unit_cases (ws : List Str) : unitF ws = (0, ws) ∨ ∃ y ys m, ws = y :: ys ∧ unitF ws = (m, ys) ∧ 1 ≤ m ∧ m < 10 := oneF_cases smallN 1 9 ws
theorem dec_one {n : Nat} (h : n < 10) : (numS n).length = 1 := by
  unfold numS dcN
  rw [if_pos h]; rfl
/-- all words of digits that there are -/
def digF : List Str → Str × List Str
  | [] => ([], [])
  | y :: ys => if (unitF (y :: ys)).1 = 0 then (if y = [122, 101, 114, 111] then (numS 0 ++ (digF ys).1, (digF ys).2) else ([], y :: ys)) else (numS (unitF (y :: ys)).1 ++ (digF ys).1, (digF ys).2)
theorem tkB_eq {x y : Str} {ys : List Str} : tkB x (y :: ys) = true ↔ y = x := by unfold tkB; simp
theorem digF_step (ws : List Str) : ((unitF ws).1 = 0 ∧ tkB [122, 101, 114, 111] ws = false ∧ digF ws = ([], ws)) ∨ (∃ n, n < 10 ∧ (unitF ws).1 = n ∧ 0 < ws.length ∧ (n = 0 → unitF ws = (0, ws) ∧ tkB [122, 101, 114, 111] ws = true) ∧ (n ≠ 0 → unitF ws = (n, ws.tail)) ∧ digF ws = (numS n ++ (digF ws.tail).1, (digF ws.tail).2)) := by
  cases ws with
  | nil => exact .inl ⟨rfl, rfl, rfl⟩
  | cons y ys =>
    rcases unit_cases (y :: ys) with h | ⟨y', ys', m, h, h2, h3, h4⟩
    · by_cases hz : y = [122, 101, 114, 111]
      · refine .inr ⟨0, by omega, by rw [h], by simp, fun _ => ⟨h, tkB_eq.2 hz⟩, fun h0 => absurd rfl h0, ?_⟩
        show (if (unitF (y :: ys)).1 = 0 then _ else _) = _
        rw [h, if_pos rfl, if_pos hz]; rfl
      · refine .inl ⟨by rw [h], ?_, ?_⟩
        · cases hb : tkB [122, 101, 114, 111] (y :: ys) with
          | false => rfl
          | true => exact absurd (tkB_eq.1 hb) hz
        · show (if (unitF (y :: ys)).1 = 0 then _ else _) = _
          rw [h, if_pos rfl, if_neg hz]
    · injection h with h5 h6
      subst h5
      subst h6
      refine .inr ⟨m, h4, by rw [h2], by simp, fun h0 => by omega, fun _ => h2, ?_⟩
      show (if (unitF (y :: ys)).1 = 0 then _ else _) = _
      rw [h2, if_neg (show ¬ m = 0 by omega)]; rfl
/-- how long a string is -/
def sLen (v : Value) : Nat := match v with | .string b => b.size | _ => 0
theorem sLen_str (x : Str) : sLen (.string ⟨x.toArray⟩) = x.length := by show (x.toArray).size = _; simp

set_option maxRecDepth 100000 in
set_option maxHeartbeats 4000000 in
theorem digits_any (g : Nat) (ws : List Str) (w : World) (h : PW w g ws) (hl : ws.length ≤ 1000000) :
    Calls Tryz.prog 236 #[.pointer (some ⟨g, 0, none⟩)] w (RetSP g (digF ws) w) := by
  go_enter Tryz.func236, Tryz.ntmps236
  go_wp2
  go_loopw [3] (fun ov wr' => ∃ (out : Str) (vs : List Str) (wr : World), wr = wr' ∧ ov = .string ⟨out.toArray⟩ ∧ out.length + vs.length ≤ ws.length ∧ Hid (digF ws = (out ++ (digF vs).1, (digF vs).2)) ∧ PW wr g vs ∧ Upto g w wr) (fun ov _ => ws.length - sLen ov)
  case atStart => exact ⟨[], ws, _, rfl, rfl, by simp, rfl, h, Upto.refl _ _⟩
  case round =>
    obtain ⟨out, vs, wr, rfl, rfl, hlen, hq, hP, hU⟩ := hrel
    have hc := Lib.hid (unit_any g vs wr hP)
    rcases digF_step vs with ⟨h1, h2, h3⟩ | ⟨n, h1, h2, h3, h4, h5, h6⟩
    · have hu : unitF vs = (0, vs) := by
        rcases unit_cases vs with h9 | ⟨y, ys, m, _, h9, h10, _⟩
        · exact h9
        · rw [h9] at h1; simp only at h1; omega
      rw [hu] at hc
      have hq2 := Lib.hid (show digF ws = (out, vs) by rw [hq.out, h3]; simp)
      have hr := Lib.hid (show tkR [122, 101, 114, 111] vs = vs by unfold tkR; rw [h2]; rfl)
      have h2 := Lib.hid h2
      clear hu h1 h3
      go_wp2_with fail
      refine hc.out.mono ?_
      rintro e w2 ⟨rfl, hP2, hU2⟩
      go_wp2_with fail
      refine (takeW g [122, 101, 114, 111] vs w2 hP2).mono ?_
      rintro e w3 ⟨rfl, hP3, hU3⟩
      rw [h2.out]
      rw [hr.out] at hP3
      have hU5 := (hU.trans hU2).trans hU3
      go_wp2
      go_ret
      exact ⟨ret_str (by rw [hq2.out]), by rw [hq2.out]; exact hP3, hU5⟩
    · have hq2 := Lib.hid (show digF ws = ((out ++ numS n) ++ (digF vs.tail).1, (digF vs.tail).2) by rw [hq.out, h6, List.append_assoc])
      have hdl := dec_one h1
      have hit := Lib.hid (itoa_small n (by omega))
      have htl : vs.tail.length + 1 = vs.length := by rw [List.length_tail]; omega
      clear h6
      obtain ⟨D, hD⟩ : ∃ D, numS n = D := ⟨_, rfl⟩
      rw [hD] at hq2 hdl hit
      clear hD
      have hrel2 := Lib.hid (fun (wz : World) (hPz : PW wz g vs.tail) (hUz : Upto g w wz) => (⟨out ++ D, vs.tail, wz, rfl, rfl, by rw [List.length_append]; omega, hq2.out, hPz, hUz⟩ : ∃ (o2 : Str) (v2 : List Str) (wr : World), wr = wz ∧ Value.string ⟨(out ++ D).toArray⟩ = .string ⟨o2.toArray⟩ ∧ o2.length + v2.length ≤ ws.length ∧ Hid (digF ws = (o2 ++ (digF v2).1, (digF v2).2)) ∧ PW wr g v2 ∧ Upto g w wr))
      have hap : ((⟨out.toArray⟩ : ByteArray) ++ ⟨D.toArray⟩) = ⟨(out ++ D).toArray⟩ := bytes_ext (by simp)
      by_cases hn : n = 0
      · subst hn
        obtain ⟨h7, h8⟩ := h4 rfl
        rw [h7] at hc
        have hr := Lib.hid (show tkR [122, 101, 114, 111] vs = vs.tail by unfold tkR; rw [if_pos h8])
        have h8 := Lib.hid h8
        have hap := Lib.hid hap
        clear h7 h2 h5
        go_wp2_with fail
        refine hc.out.mono ?_
        rintro e w2 ⟨rfl, hP2, hU2⟩
        go_wp2_with fail
        refine (takeW g [122, 101, 114, 111] vs w2 hP2).mono ?_
        rintro e w3 ⟨rfl, hP3, hU3⟩
        rw [h8.out]
        rw [hr.out] at hP3
        have hU5 := (hU.trans hU2).trans hU3
        go_wp2_with fail
        refine (hit.out w3).mono ?_
        rintro e w' ⟨rfl, rfl⟩
        go_wp2
        exact ⟨hrel2.out _ hP3 hU5, by rw [sLen_str, sLen_str, List.length_append]; omega⟩
      · have h7 := h5 hn
        rw [h7] at hc
        have hn1 : ((n : Int) == 0) = false := by rw [beq_eq_false_iff_ne]; omega
        clear h7 h4 h5 h2
        go_wp2_with fail
        refine hc.out.mono ?_
        rintro e w2 ⟨rfl, hP2, hU2⟩
        have hU5 := hU.trans hU2
        go_wp2_with fail
        refine (hit.out w2).mono ?_
        rintro e w' ⟨rfl, rfl⟩
        go_wp2
        exact ⟨hrel2.out _ hP2 hU5, by rw [sLen_str, sLen_str, List.length_append]; omega⟩

theorem pair_eta {α β : Type} (p : α × β) : ∃ a b, p = (a, b) := by cases p; exact ⟨_, _, rfl⟩
/-- a year -/
def yearF (ws : List Str) : Nat × List Str :=
  let a := attF roundYearF ws
  if 0 < a.1 then a else
    let c := belowF a.2
    if tkB [104, 117, 110, 100, 114, 101, 100] c.2 then (if (100 * c.1) % 1000 < 10 then 0 else 100 * c.1, tkR [104, 117, 110, 100, 114, 101, 100] c.2)
    else
      let p := pairF c.2
      if p.1 = 0 then (0, p.2) else (if (100 * c.1 + p.1) % 1000 < 10 then 0 else 100 * c.1 + p.1, p.2)
set_option maxRecDepth 100000 in
set_option maxHeartbeats 4000000 in
theorem year_any (g : Nat) (ws : List Str) (w : World) (h : PW w g ws) :
    Calls Tryz.prog 252 #[.pointer (some ⟨g, 0, none⟩)] w (RetP g (yearF ws) w) := by
  have hmf : ∀ (fn : Fn) (first cap : Array Value) (w : World), (Instr.makeFunc fn first cap).run Tryz.prog w = .ok (.func fn first cap) w := fun _ _ _ _ => rfl
  have hc := Lib.hid (attempt_m 254 roundYearF (fun _ _ => rfl) g ws w h (roundYear_any g ws w h))
  obtain ⟨y, vs, hr⟩ := pair_eta (attF roundYearF ws)
  have hY0 : yearF ws = if 0 < y then (y, vs) else if tkB [104, 117, 110, 100, 114, 101, 100] (belowF vs).2 then (if (100 * (belowF vs).1) % 1000 < 10 then 0 else 100 * (belowF vs).1, tkR [104, 117, 110, 100, 114, 101, 100] (belowF vs).2) else if (pairF (belowF vs).2).1 = 0 then (0, (pairF (belowF vs).2).2) else (if (100 * (belowF vs).1 + (pairF (belowF vs).2).1) % 1000 < 10 then 0 else 100 * (belowF vs).1 + (pairF (belowF vs).2).1, (pairF (belowF vs).2).2) := by
    simp only [yearF, hr]
  rw [hr] at hc
  have hY := Lib.hid hY0
  clear hr hY0
  go_enter Tryz.func252, Tryz.ntmps252
  go_wp2_with fail
  refine hc.out.mono ?_
  rintro e w2 ⟨rfl, hP, hU⟩
  by_cases hy : 0 < y
  · have h1 : (0 : Int) < (y : Int) := by omega
    have hY2 := Lib.hid (show yearF ws = (y, vs) by rw [hY.out, if_pos hy])
    go_wp2
    go_ret
    exact ⟨ret_nat (by rw [hY2.out]), by rw [hY2.out]; exact hP, hU⟩
  · have h1 : ¬ (0 : Int) < (y : Int) := by omega
    have h2 : decide ((0 : Int) < (y : Int)) = false := decide_eq_false h1
    have hb := Lib.hid (below_any g vs w2 hP)
    have hble := belowF_le vs
    obtain ⟨c, us, hcu⟩ := pair_eta (belowF vs)
    have hY2 := Lib.hid (show yearF ws = if tkB [104, 117, 110, 100, 114, 101, 100] us then (if (100 * c) % 1000 < 10 then 0 else 100 * c, tkR [104, 117, 110, 100, 114, 101, 100] us) else if (pairF us).1 = 0 then (0, (pairF us).2) else (if (100 * c + (pairF us).1) % 1000 < 10 then 0 else 100 * c + (pairF us).1, (pairF us).2) by rw [hY.out, if_neg hy, hcu])
    rw [hcu] at hb hble
    simp only at hble
    clear hcu
    have w1 : IntKind.i64.wrap (100 * (c : Int)) = 100 * (c : Int) := IntWalk.i64_in _ (by omega)
    go_wp2_with fail
    refine hb.out.mono ?_
    rintro e w3 ⟨rfl, hP3, hU3⟩
    go_wp2_with fail
    refine (takeW g [104, 117, 110, 100, 114, 101, 100] us w3 hP3).mono ?_
    rintro e w4 ⟨rfl, hP4, hU4⟩
    have hU5 := (hU.trans hU3).trans hU4
    have fin := Lib.hid (fun (q : Nat) (w9 : World) => isRound_any q w9)
    cases htk : tkB [104, 117, 110, 100, 114, 101, 100] us with
    | true =>
      have hY3 := Lib.hid (show yearF ws = (if (100 * c) % 1000 < 10 then 0 else 100 * c, tkR [104, 117, 110, 100, 114, 101, 100] us) by rw [hY2.out, htk]; rfl)
      have w2 : IntKind.i64.wrap (100 * (c : Int) + 0) = ((100 * c : Nat) : Int) := by rw [IntWalk.i64_in _ (by omega)]; omega
      have w3 : IntKind.i64.wrap (100 * (c : Int)) = ((100 * c : Nat) : Int) := by rw [IntWalk.i64_in _ (by omega)]; omega
      clear htk w1
      obtain ⟨q, hq⟩ : ∃ q, 100 * c = q := ⟨_, rfl⟩
      rw [hq] at w2 w3 hY3
      have hqb : q ≤ 9900 := by omega
      have w5 : IntKind.i64.wrap (q : Int) = (q : Int) := IntWalk.i64_in _ (by omega)
      clear hq
      by_cases hq : q % 1000 < 10
      · have q1 : decide (q % 1000 < 10) = true := decide_eq_true hq
        have hY4 := Lib.hid (show yearF ws = (0, tkR [104, 117, 110, 100, 114, 101, 100] us) by rw [hY3.out, if_pos hq])
        have fq := Lib.hid (fun w9 => fin.out q w9)
        rw [q1] at fq
        clear q1 hq
        go_wp2_with fail
        refine (fq.out w4).mono ?_
        rintro e w' ⟨rfl, rfl⟩
        go_wp2
        go_ret
        exact ⟨ret_int (by rw [hY4.out]; rfl), by rw [hY4.out]; exact hP4, hU5⟩
      · have q1 : decide (q % 1000 < 10) = false := decide_eq_false hq
        have hY4 := Lib.hid (show yearF ws = (q, tkR [104, 117, 110, 100, 114, 101, 100] us) by rw [hY3.out, if_neg hq])
        have fq := Lib.hid (fun w9 => fin.out q w9)
        rw [q1] at fq
        clear q1 hq
        go_wp2_with fail
        refine (fq.out w4).mono ?_
        rintro e w' ⟨rfl, rfl⟩
        go_wp2
        go_ret
        exact ⟨ret_nat (by rw [hY4.out]), by rw [hY4.out]; exact hP4, hU5⟩
    | false =>
      have hr := Lib.hid (show tkR [104, 117, 110, 100, 114, 101, 100] us = us by unfold tkR; rw [htk]; rfl)
      rw [hr.out] at hP4
      have hp := Lib.hid (readPair_any g us w4 hP4)
      have hple := pairF_le us
      obtain ⟨p, ts, hpt⟩ := pair_eta (pairF us)
      have hY3 := Lib.hid (show yearF ws = if p = 0 then (0, ts) else (if (100 * c + p) % 1000 < 10 then 0 else 100 * c + p, ts) by rw [hY2.out, htk, hpt]; rfl)
      rw [hpt] at hp hple
      simp only at hple
      clear hpt htk
      go_wp2_with fail
      refine hp.out.mono ?_
      rintro e w5 ⟨rfl, hP5, hU6⟩
      have hU7 := hU5.trans hU6
      by_cases hp0 : p = 0
      · subst hp0
        have hY4 := Lib.hid (show yearF ws = (0, ts) by rw [hY3.out, if_pos rfl])
        go_wp2
        go_ret
        exact ⟨ret_int (by rw [hY4.out]; rfl), by rw [hY4.out]; exact hP5, hU7⟩
      · have p1 : ((p : Int) == 0) = false := by rw [beq_eq_false_iff_ne]; omega
        have w2 : IntKind.i64.wrap (100 * (c : Int) + (p : Int)) = ((100 * c + p : Nat) : Int) := by rw [IntWalk.i64_in _ (by omega)]; omega
        have hY3 := Lib.hid (show yearF ws = (if (100 * c + p) % 1000 < 10 then 0 else 100 * c + p, ts) by rw [hY3.out, if_neg hp0])
        obtain ⟨q, hq⟩ : ∃ q, 100 * c + p = q := ⟨_, rfl⟩
        rw [hq] at w2 hY3
        clear hq
        by_cases hq : q % 1000 < 10
        · have q1 : decide (q % 1000 < 10) = true := decide_eq_true hq
          have hY4 := Lib.hid (show yearF ws = (0, ts) by rw [hY3.out, if_pos hq])
          have fq := Lib.hid (fun w9 => fin.out q w9)
          rw [q1] at fq
          clear q1 hq
          go_wp2_with fail
          refine (fq.out w5).mono ?_
          rintro e w' ⟨rfl, rfl⟩
          go_wp2
          go_ret
          exact ⟨ret_int (by rw [hY4.out]; rfl), by rw [hY4.out]; exact hP5, hU7⟩
        · have q1 : decide (q % 1000 < 10) = false := decide_eq_false hq
          have hY4 := Lib.hid (show yearF ws = (q, ts) by rw [hY3.out, if_neg hq])
          have fq := Lib.hid (fun w9 => fin.out q w9)
          rw [q1] at fq
          clear q1 hq
          go_wp2_with fail
          refine (fq.out w5).mono ?_
          rintro e w' ⟨rfl, rfl⟩
          go_wp2
          go_ret
          exact ⟨ret_nat (by rw [hY4.out]), by rw [hY4.out]; exact hP5, hU7⟩
end Go.Proofs.YtpdfjlbfhnapkaaGreatDoor

/- Which dates there are. -/
namespace Go.Proofs.YtpdfjlbfhnapkaaGreatDoor
open Go.RowKit
set_option linter.unusedSimpArgs false

def leapB (y : Int) : Bool := decide (y.tmod 4 = 0) && (!decide (y.tmod 100 = 0) || decide (y.tmod 400 = 0))
theorem leap_any (y : Int) (w : World) : Calls Tryz.prog 32 #[.int .i64 y] w fun e w' => e = .returned (.bool (leapB y)) ∧ w = w' := by
  obtain ⟨a, ha⟩ : ∃ a, y.tmod 4 = a := ⟨_, rfl⟩
  obtain ⟨b, hb⟩ : ∃ b, y.tmod 100 = b := ⟨_, rfl⟩
  obtain ⟨c, hc⟩ : ∃ c, y.tmod 400 = c := ⟨_, rfl⟩
  have hl := Lib.hid (show leapB y = (decide (a = 0) && (!decide (b = 0) || decide (c = 0))) by unfold leapB; rw [ha, hb, hc])
  by_cases h1 : a = 0
  · subst h1
    by_cases h2 : b = 0
    · subst h2
      by_cases h3 : c = 0
      · subst h3
        have hq := Lib.hid (show leapB y = true by rw [hl.out]; rfl)
        go_enter Tryz.func32, Tryz.ntmps32
        go_wp2
        go_ret
        exact ⟨by first | exact ret_bool hq.out.symm | (rw [hq.out]; rfl) | (simp [hq.out]), rfl⟩
      · have e3 : (c == 0) = false := by rw [beq_eq_false_iff_ne]; exact h3
        have d3 : decide (c = 0) = false := decide_eq_false h3
        have hq := Lib.hid (show leapB y = false by rw [hl.out, d3]; rfl)
        go_enter Tryz.func32, Tryz.ntmps32
        go_wp2
        go_ret
        exact ⟨by first | exact ret_bool hq.out.symm | (rw [hq.out]; rfl) | (simp [hq.out]), rfl⟩
    · have e2 : (b == 0) = false := by rw [beq_eq_false_iff_ne]; exact h2
      have d2 : decide (b = 0) = false := decide_eq_false h2
      have hq := Lib.hid (show leapB y = true by rw [hl.out, d2]; rfl)
      go_enter Tryz.func32, Tryz.ntmps32
      go_wp2
      go_ret
      exact ⟨by first | exact ret_bool hq.out.symm | (rw [hq.out]; rfl) | (simp [hq.out]), rfl⟩
  · have e1 : (a == 0) = false := by rw [beq_eq_false_iff_ne]; exact h1
    have d1 : decide (a = 0) = false := decide_eq_false h1
    have hq := Lib.hid (show leapB y = false by rw [hl.out, d1]; rfl)
    go_enter Tryz.func32, Tryz.ntmps32
    go_wp2
    go_ret
    exact ⟨by first | exact ret_bool hq.out.symm | (rw [hq.out]; rfl) | (simp [hq.out]), rfl⟩
def lastD (y m : Int) : Int := if m = 4 ∨ m = 6 ∨ m = 9 ∨ m = 11 then 30 else if m = 2 then (if leapB y then 29 else 28) else 31
theorem lastDay_any (y m : Int) (w : World) : Calls Tryz.prog 67 #[.int .i64 y, .int .i64 m] w fun e w' => e = .returned (.int .i64 (lastD y m)) ∧ w = w' := by
  by_cases h : m = 4 ∨ m = 6 ∨ m = 9 ∨ m = 11
  · have hq := Lib.hid (show lastD y m = 30 from if_pos h)
    rcases h with rfl | rfl | rfl | rfl <;>
      (go_enter Tryz.func67, Tryz.ntmps67
       go_wp2
       go_ret
       exact ⟨ret_int hq.out.symm, rfl⟩)
  · have e1 : (m == 4) = false := by rw [beq_eq_false_iff_ne]; omega
    have e2 : (m == 6) = false := by rw [beq_eq_false_iff_ne]; omega
    have e3 : (m == 9) = false := by rw [beq_eq_false_iff_ne]; omega
    have e4 : (m == 11) = false := by rw [beq_eq_false_iff_ne]; omega
    by_cases h2 : m = 2
    · subst h2
      cases hlp : leapB y with
      | true =>
        have hq := Lib.hid (show lastD y 2 = 29 by unfold lastD; rw [if_neg h, if_pos rfl, hlp]; rfl)
        have hlp := Lib.hid hlp
        clear h e1 e2 e3 e4
        go_enter Tryz.func67, Tryz.ntmps67
        go_wp2_with fail
        refine (leap_any y w).mono ?_
        rintro e w' ⟨rfl, rfl⟩
        rw [hlp.out]
        go_wp2
        go_ret
        exact ⟨ret_int hq.out.symm, rfl⟩
      | false =>
        have hq := Lib.hid (show lastD y 2 = 28 by unfold lastD; rw [if_neg h, if_pos rfl, hlp]; rfl)
        have hlp := Lib.hid hlp
        clear h e1 e2 e3 e4
        go_enter Tryz.func67, Tryz.ntmps67
        go_wp2_with fail
        refine (leap_any y w).mono ?_
        rintro e w' ⟨rfl, rfl⟩
        rw [hlp.out]
        go_wp2
        go_ret
        exact ⟨ret_int hq.out.symm, rfl⟩
    · have e5 : (m == 2) = false := by rw [beq_eq_false_iff_ne]; omega
      have hq := Lib.hid (show lastD y m = 31 by unfold lastD; rw [if_neg h, if_neg h2])
      clear h h2
      go_enter Tryz.func67, Tryz.ntmps67
      go_wp2
      go_ret
      exact ⟨ret_int hq.out.symm, rfl⟩
def wiI (x a b : Int) : Bool := decide (a ≤ x) && decide (x ≤ b)
def dayB (y m d : Int) : Bool := wiI y 1000 2999 && (wiI m 1 12 && wiI d 1 (lastD y m))
theorem day_any (y m d : Int) (w : World) : Calls Tryz.prog 30 #[.int .i64 y, .int .i64 m, .int .i64 d] w fun e w' => e = .returned (.bool (dayB y m d)) ∧ w = w' := by
  have h1 := Lib.hid (show Calls Tryz.prog 60 #[.int .i64 y, .int .i64 1000, .int .i64 2999] w fun e w' => e = .returned (.bool (wiI y 1000 2999)) ∧ w = w' from within_any y 1000 2999 w)
  have h2 := Lib.hid (show Calls Tryz.prog 60 #[.int .i64 m, .int .i64 1, .int .i64 12] w fun e w' => e = .returned (.bool (wiI m 1 12)) ∧ w = w' from within_any m 1 12 w)
  have h3 := Lib.hid (show Calls Tryz.prog 60 #[.int .i64 d, .int .i64 1, .int .i64 (lastD y m)] w fun e w' => e = .returned (.bool (wiI d 1 (lastD y m))) ∧ w = w' from within_any d 1 (lastD y m) w)
  have h4 := Lib.hid (lastDay_any y m w)
  have hd := Lib.hid (show dayB y m d = (wiI y 1000 2999 && (wiI m 1 12 && wiI d 1 (lastD y m))) from rfl)
  generalize lastD y m = L at *
  generalize wiI y 1000 2999 = b1 at *
  generalize wiI m 1 12 = b2 at *
  generalize wiI d 1 L = b3 at *
  cases b1 with
  | false =>
    go_enter Tryz.func30, Tryz.ntmps30
    go_wp2_with fail
    refine h1.out.mono ?_
    rintro e w' ⟨rfl, rfl⟩
    go_wp2
    go_ret
    exact ⟨ret_bool hd.out.symm, rfl⟩
  | true =>
    cases b2 with
    | false =>
      go_enter Tryz.func30, Tryz.ntmps30
      go_wp2_with fail
      refine h1.out.mono ?_
      rintro e w' ⟨rfl, rfl⟩
      go_wp2_with fail
      refine h2.out.mono ?_
      rintro e w' ⟨rfl, rfl⟩
      go_wp2
      go_ret
      exact ⟨ret_bool hd.out.symm, rfl⟩
    | true =>
      have hd2 := Lib.hid (show dayB y m d = b3 from hd.out)
      go_enter Tryz.func30, Tryz.ntmps30
      go_wp2_with fail
      refine h1.out.mono ?_
      rintro e w' ⟨rfl, rfl⟩
      go_wp2_with fail
      refine h2.out.mono ?_
      rintro e w' ⟨rfl, rfl⟩
      go_wp2_with fail
      refine h4.out.mono ?_
      rintro e w' ⟨rfl, rfl⟩
      go_wp2_with fail
      refine h3.out.mono ?_
      rintro e w' ⟨rfl, rfl⟩
      go_wp2
      go_ret
      exact ⟨ret_bool hd2.out.symm, rfl⟩
end Go.Proofs.YtpdfjlbfhnapkaaGreatDoor
