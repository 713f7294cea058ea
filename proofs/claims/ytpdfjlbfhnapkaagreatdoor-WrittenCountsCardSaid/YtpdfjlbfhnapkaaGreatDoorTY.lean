/- Numbers as digits and their words; Cardinal and Ordinal. -/
import Derived.Test.YtpdfjlbfhnapkaaGreatDoorTW
namespace Go.Proofs.YtpdfjlbfhnapkaaGreatDoor
open Go.RowKit
set_option linter.unusedSimpArgs false
set_option linter.unusedVariables false
set_option maxRecDepth 100000

theorem dig_nat {d : Nat} (h : d < 10) : (UInt8.ofNat (48 + d)).toNat = 48 + d := by
  rw [UInt8.toNat_ofNat']
  omega
theorem dcN_all : ∀ (k u : Nat), AllD (dcN k u) := by
  intro k
  induction k with
  | zero => intro u b hb; cases hb
  | succ k ih =>
    intro u b hb
    unfold dcN at hb
    split at hb
    · rename_i h
      rw [List.mem_singleton] at hb
      subst hb
      rw [dig_nat h]; omega
    · rcases List.mem_append.1 hb with h9 | h9
      · exact ih _ b h9
      · rw [List.mem_singleton] at h9
        subst h9
        rw [dig_nat (Nat.mod_lt _ (by decide))]; omega
theorem valD_snoc (x : Str) (b : UInt8) : valD (x ++ [b]) = valD x * 10 + (b.toNat - 48) := by
  unfold valD
  rw [List.foldl_append]
  rfl
theorem dcN_val : ∀ (k u : Nat), u < 10 ^ k → valD (dcN k u) = u := by
  intro k
  induction k with
  | zero => intro u h; have : u = 0 := by simpa using h
            subst this; rfl
  | succ k ih =>
    intro u h
    unfold dcN
    split
    · rename_i h1
      show 0 * 10 + ((UInt8.ofNat (48 + u)).toNat - 48) = u
      rw [dig_nat h1]; omega
    · rw [valD_snoc, ih (u / 10) (by rw [Nat.pow_succ] at h; omega), dig_nat (Nat.mod_lt _ (by decide))]
      omega
theorem dcN_ne {k u : Nat} (h : 0 < k) : dcN k u ≠ [] := by
  cases k with
  | zero => omega
  | succ k => unfold dcN; split <;> simp
theorem dcN_head : ∀ (k u : Nat), 0 < u → u < 10 ^ k → (dcN k u).headD 0 ≠ 48 := by
  intro k
  induction k with
  | zero => intro u h0 h; have : u = 0 := by simpa using h
            omega
  | succ k ih =>
    intro u h0 h
    unfold dcN
    split
    · rename_i h1
      show UInt8.ofNat (48 + u) ≠ 48
      intro e
      have := congrArg UInt8.toNat e
      rw [dig_nat h1] at this
      simp at this
      omega
    · rename_i h1
      have h2 := ih (u / 10) (by omega) (by rw [Nat.pow_succ] at h; omega)
      cases hd : dcN k (u / 10) with
      | nil =>
        cases k with
        | zero => have : u = 0 := by (simp at h; omega)
                  omega
        | succ k => exact absurd hd (dcN_ne (by omega))
      | cons a r => rw [hd] at h2; exact h2
theorem dcN_short : ∀ (k u m : Nat), 0 < m → u < 10 ^ m → (dcN k u).length ≤ m := by
  intro k
  induction k with
  | zero => intro u m _ _; exact Nat.zero_le _
  | succ k ih =>
    intro u m hm h
    unfold dcN
    split
    · simp; omega
    · rename_i h1
      obtain ⟨m2, rfl⟩ : ∃ m2, m = m2 + 1 := ⟨m - 1, by omega⟩
      have hm2 : 0 < m2 := by
        rcases Nat.eq_zero_or_pos m2 with e | e
        · subst e; simp at h; omega
        · exact e
      rw [List.length_append]
      have := ih (u / 10) m2 hm2 (by rw [Nat.pow_succ] at h; omega)
      simp; exact this
theorem numS_all (n : Nat) : AllD (numS n) := dcN_all 16 n
theorem numS_ne (n : Nat) : numS n ≠ [] := dcN_ne (by decide)
theorem numS_val {n : Nat} (h : n < 1000000000000) : valD (numS n) = n := dcN_val 16 n (by omega)
theorem numS_card {n : Nat} (h : n < 1000000000000) : isCard (numS n) = true := by
  unfold isCard
  rw [Bool.and_eq_true, decide_eq_true_eq, Bool.or_eq_true, decide_eq_true_eq, decide_eq_true_eq]
  refine ⟨dcN_short 16 n 12 (by decide) (by omega), ?_⟩
  rcases Nat.eq_zero_or_pos n with e | e
  · subst e; right; rfl
  · left; exact dcN_head 16 n e (by omega)
theorem numS_say {n : Nat} (h : n < 1000000000000) : sayN (numS n) = cntW n := by
  unfold sayN
  rw [if_pos (numS_card h), numS_val h]
theorem allD_asc {x : Str} (h : AllD x) : x.all ascB = true := by
  rw [List.all_eq_true]
  intro b hb
  have := h b hb
  exact decide_eq_true (by omega)
theorem allD_isDg {x : Str} (h : AllD x) : ∀ b ∈ x, isDg b = true := fun b hb => isDg_iff.2 (h b hb)
theorem fold_digs : ∀ (r : Str), (∀ b ∈ r, isDg b = true) → ∀ (sh : Str) (ns : List Str) (y : Str), r.foldl stepC (sh, ns ++ [y], true) = (sh, ns ++ [y ++ r], true) := by
  intro r
  induction r with
  | nil => intro _ sh ns y; rw [List.append_nil]; rfl
  | cons b r ih =>
    intro h sh ns y
    rw [List.foldl_cons, stepC_dig1 (h b List.mem_cons_self) rfl]
    have e1 : (ns ++ [y]).dropLast = ns := by simp
    have e2 : (ns ++ [y]).getLastD [] = y := by simp
    show List.foldl stepC (sh, (ns ++ [y]).dropLast ++ [(ns ++ [y]).getLastD [] ++ [b]], true) r = _
    rw [e1, e2, ih (fun c hc => h c (List.mem_cons_of_mem _ hc))]
    simp
theorem fold_new {x : Str} (h : ∀ b ∈ x, isDg b = true) (hne : x ≠ []) (sh : Str) (ns : List Str) : x.foldl stepC (sh, ns, false) = (sh ++ [48], ns ++ [x], true) := by
  cases x with
  | nil => exact absurd rfl hne
  | cons b r =>
    rw [List.foldl_cons, stepC_dig2 (h b List.mem_cons_self) rfl]
    show List.foldl stepC (sh ++ [48], ns ++ [[b]], true) r = _
    rw [fold_digs r (fun c hc => h c (List.mem_cons_of_mem _ hc))]
    rfl
theorem fold_oth : ∀ (r : Str), (∀ b ∈ r, isDg b = false) → r ≠ [] → ∀ (sh : Str) (ns : List Str) (q : Bool), r.foldl stepC (sh, ns, q) = (sh ++ r, ns, false) := by
  intro r
  induction r with
  | nil => intro _ h; exact absurd rfl h
  | cons b r ih =>
    intro h _ sh ns q
    rw [List.foldl_cons, stepC_oth (h b List.mem_cons_self)]
    show List.foldl stepC (sh ++ [b], ns, false) r = _
    cases r with
    | nil => rfl
    | cons c r2 =>
      rw [ih (fun c hc => h c (List.mem_cons_of_mem _ hc)) (by simp)]
      simp
theorem cut_digs {x : Str} (h : AllD x) (hne : x ≠ []) : cutS x = ([48], [x], true) := by
  unfold cutS
  rw [fold_new (allD_isDg h) hne]; rfl
theorem cut_minus {x : Str} (h : AllD x) (hne : x ≠ []) : cutS (45 :: x) = ([45, 48], [x], true) := by
  unfold cutS
  rw [List.foldl_cons, stepC_oth (by decide)]
  show List.foldl stepC ([] ++ [45], [], false) x = _
  rw [fold_new (allD_isDg h) hne]; rfl
theorem end_oth (n : Nat) : (∀ b ∈ endN n, isDg b = false) ∧ endN n ≠ [] := by
  unfold endN
  split
  · decide
  · split
    · decide
    · split
      · decide
      · split <;> decide
theorem cut_end {x : Str} (h : AllD x) (hne : x ≠ []) (n : Nat) : cutS (x ++ endN n) = (48 :: endN n, [x], false) := by
  unfold cutS
  rw [List.foldl_append, fold_new (allD_isDg h) hne, fold_oth _ (end_oth n).1 (end_oth n).2]
  rfl
theorem end_asc (n : Nat) : (endN n).all ascB = true := by
  unfold endN
  split
  · decide
  · split
    · decide
    · split
      · decide
      · split <;> decide
theorem spc_ok {s : Str} {k : List Str} (h : s.length ≤ 2000) (hk : k ≠ []) : spC s k = (joinW k, 0) := by
  unfold spC
  rw [if_neg (by omega), if_neg hk]
theorem spk_nat {n : Nat} (h : n < 1000000000000) : spkF (numS n) = (joinW (cntW n), 0) := by
  unfold spkF
  rw [cut_digs (numS_all n) (numS_ne n)]
  have e : (speakF [48] [numS n]).1 = cntW n := by
    unfold speakF sayL firstW
    have e1 : kNum [48] [numS n] = cntW n := (show kNum [48] [numS n] = sayN (numS n) from if_pos rfl).trans (numS_say h)
    rw [e1, if_neg (cntW_ne n)]
  show spC (numS n) (speakF [48] [numS n]).1 = _
  rw [e]
  exact spc_ok (by have := numS_len n; omega) (cntW_ne n)
theorem spk_neg {n : Nat} (h0 : 0 < n) (h : n < 1000000000000) : spkF (45 :: numS n) = (joinW (negW (cntW n)), 0) := by
  unfold spkF
  rw [cut_minus (numS_all n) (numS_ne n)]
  have hz : numS n ≠ [48] := fun e => by
    have := numS_val h
    rw [e] at this
    have h9 : valD [48] = 0 := rfl
    omega
  have hne : negW (cntW n) ≠ [] := by unfold negW; rw [if_neg (cntW_ne n)]; simp
  have e : (speakF [45, 48] [numS n]).1 = negW (cntW n) := by
    unfold speakF sayL firstW
    have e1 : kNum [45, 48] [numS n] = negW (cntW n) := by
      unfold kNum
      rw [if_neg (by decide), if_pos rfl]
      show (if numS n = [48] then [] else negW (sayN (numS n))) = _
      rw [if_neg hz, numS_say h]
    rw [e1, if_neg hne]
  show spC (45 :: numS n) (speakF [45, 48] [numS n]).1 = _
  rw [e]
  exact spc_ok (by have := numS_len n; simp; omega) hne
theorem sordW_ne (n : Nat) : sordW n ≠ [] := by
  intro e
  have := congrArg List.length e
  unfold sordW at this
  rw [List.length_set] at this
  exact cntW_ne n (List.length_eq_zero_iff.1 this)
theorem spk_ord {n : Nat} (h0 : 0 < n) (h : n < 1000000000000) : spkF (wrO n) = (joinW (sordW n), 0) := by
  unfold spkF wrO
  rw [cut_end (numS_all n) (numS_ne n)]
  have hl := end_len n
  have hle : endN n ≠ [] := (end_oth n).2
  have e : (speakF (48 :: endN n) [numS n]).1 = sordW n := by
    unfold speakF sayL firstW
    have e1 : kNum (48 :: endN n) [numS n] = [] := by
      unfold kNum
      rw [if_neg (by intro e; injection e with _ e; exact hle e), if_neg (by intro e; injection e with e; exact absurd e (by decide))]
    have e2 : kOrd (48 :: endN n) [numS n] = sordW n := by
      have e3 : kOrd (48 :: endN n) [numS n] = ordI (cardI (numS n)) (48 :: endN n) := if_pos rfl
      rw [e3]
      unfold cardI
      rw [if_pos (numS_card h), numS_val h]
      unfold ordI
      rw [if_neg (by omega), Int.toNat_natCast, if_pos rfl]
    rw [e1, if_pos rfl, e2]
    unfold firstW
    rw [if_neg (sordW_ne n)]
  show spC (numS n ++ endN n) (speakF (48 :: endN n) [numS n]).1 = _
  rw [e]
  exact spc_ok (by have := numS_len n; rw [List.length_append]; omega) (sordW_ne n)
/-- what Cardinal answers -/
def crdF (n : Int) : Str × Int := if -999999999999 ≤ n ∧ n ≤ 999999999999 then (joinW (if n < 0 then negW (cntW n.natAbs) else cntW n.toNat), 0) else ([], 2)
def odlF (n : Int) : Str × Int := if 1 ≤ n ∧ n ≤ 999999999999 then (joinW (sordW n.toNat), 0) else ([], 2)
theorem Cardinal_any (n : Int) (w : World) (hT : WT w) :
    Calls Tryz.prog 25 #[.int .i64 n] w fun e w' => e = .returned (.tuple #[.string ⟨(crdF n).1.toArray⟩, .int .i64 (crdF n).2]) ∧ Below w.heap.size w w' := by
  have hwi := Lib.hid (fun w9 => within_any n (-999999999999) 999999999999 w9)
  by_cases h : -999999999999 ≤ n ∧ n ≤ 999999999999
  · rw [decide_eq_true h.1, decide_eq_true h.2] at hwi
    have hc := Lib.hid (show crdF n = (joinW (if n < 0 then negW (cntW n.natAbs) else cntW n.toNat), 0) from if_pos h)
    obtain ⟨S, hS, ha, hsp⟩ : ∃ S : Str, Lib.itoa n = S ∧ S.all ascB = true ∧ spkF S = crdF n := by
      by_cases hn : n < 0
      · refine ⟨45 :: numS n.natAbs, ?_, ?_, ?_⟩
        · unfold Lib.itoa; rw [if_pos hn, numS_eq (by omega)]
        · rw [List.all_cons, allD_asc (numS_all _)]; rfl
        · rw [hc.out, if_pos hn, spk_neg (by omega) (by omega)]
      · refine ⟨numS n.toNat, ?_, allD_asc (numS_all _), ?_⟩
        · unfold Lib.itoa; rw [if_neg hn, numS_eq (by omega)]
        · rw [hc.out, if_neg hn, spk_nat (by omega)]
    have hit := Lib.hid (Tryz.strconv_Itoa n (by omega) (by omega) w hT.p10)
    rw [hS] at hit
    have hspk := Lib.hid (fun (w9 : World) (h9 : WT w9) => SpeakA_any S ha w9 h9)
    rw [hsp] at hspk
    clear h hc hS ha hsp
    generalize crdF n = C at *
    go_enter Tryz.func25, Tryz.ntmps25
    go_wp2_with fail
    refine (hwi.out _).mono ?_
    rintro e w' ⟨rfl, rfl⟩
    go_wp2_with fail
    refine hit.out.mono ?_
    rintro e w2 ⟨rfl, k, os, rfl⟩
    have hb2 := Lib.below_grow w.heap.size w (Nat.le_refl _) k os
    generalize Go.Sort.grow (w.drewN k) os = w3 at *
    go_wp2_with fail
    refine (hspk.out _ (hT.below hb2)).mono ?_
    rintro e w4 ⟨rfl, hb4⟩
    go_wp2
    go_ret2
    exact ⟨rfl, hb2.trans (hb4.mono hb2.size)⟩
  · have hc := Lib.hid (show crdF n = ([], 2) from if_neg h)
    have hb0 : (decide (-999999999999 ≤ n) && decide (n ≤ 999999999999)) = false := by
      rw [Bool.and_eq_false_iff, decide_eq_false_iff_not, decide_eq_false_iff_not]; omega
    rw [hb0] at hwi
    rw [hc.out]
    clear h hb0
    go_enter Tryz.func25, Tryz.ntmps25
    go_wp2_with fail
    refine (hwi.out _).mono ?_
    rintro e w' ⟨rfl, rfl⟩
    go_wp2
    go_ret2
    exact ⟨rfl, Below.refl _ _⟩
theorem Ordinal_any (n : Int) (w : World) (hT : WT w) :
    Calls Tryz.prog 26 #[.int .i64 n] w fun e w' => e = .returned (.tuple #[.string ⟨(odlF n).1.toArray⟩, .int .i64 (odlF n).2]) ∧ Below w.heap.size w w' := by
  have hwi := Lib.hid (fun w9 => within_any n 1 999999999999 w9)
  by_cases h : 1 ≤ n ∧ n ≤ 999999999999
  · rw [decide_eq_true h.1, decide_eq_true h.2] at hwi
    obtain ⟨m, rfl⟩ : ∃ m : Nat, n = (m : Int) := ⟨n.toNat, by omega⟩
    have hc : odlF (m : Int) = (joinW (sordW m), 0) := (if_pos h).trans (by rw [Int.toNat_natCast])
    have ha : (wrO m).all ascB = true := by unfold wrO; rw [List.all_append, allD_asc (numS_all _), end_asc]; rfl
    have hsp := spk_ord (n := m) (by omega) (by omega)
    have hit := Lib.hid (wrO_any m (by omega) w hT)
    have hspk := Lib.hid (fun (w9 : World) (h9 : WT w9) => SpeakA_any (wrO m) ha w9 h9)
    rw [hsp, ← hc] at hspk
    clear hc ha hsp h
    generalize odlF (m : Int) = C at *
    generalize wrO m = S at *
    go_enter Tryz.func26, Tryz.ntmps26
    go_wp2_with fail
    refine (hwi.out _).mono ?_
    rintro e w' ⟨rfl, rfl⟩
    go_wp2_with fail
    refine hit.out.mono ?_
    rintro e w2 ⟨rfl, hb2⟩
    go_wp2_with fail
    refine (hspk.out _ (hT.below hb2)).mono ?_
    rintro e w4 ⟨rfl, hb4⟩
    go_wp2
    go_ret2
    exact ⟨rfl, hb2.trans (hb4.mono hb2.size)⟩
  · have hc := Lib.hid (show odlF n = ([], 2) from if_neg h)
    have hb0 : (decide (1 ≤ n) && decide (n ≤ 999999999999)) = false := by
      rw [Bool.and_eq_false_iff, decide_eq_false_iff_not, decide_eq_false_iff_not]; omega
    rw [hb0] at hwi
    rw [hc.out]
    clear h hb0
    go_enter Tryz.func26, Tryz.ntmps26
    go_wp2_with fail
    refine (hwi.out _).mono ?_
    rintro e w' ⟨rfl, rfl⟩
    go_wp2
    go_ret2
    exact ⟨rfl, Below.refl _ _⟩
end Go.Proofs.YtpdfjlbfhnapkaaGreatDoor
