/- A string cut at its first period or slash: the document's way to read a number, and the program's. -/
import Derived.Test.YtbgihlfblmilmaaGreatDoorJG
import Derived.Test.YtbgihlfblmilmaaGreatDoorLA
namespace Go.Proofs.YtbgihlfblmilmaaGreatDoor.Fr
open Go.RowKit Num

def sep (b : UInt8) : Bool := b == 46 || b == 47
/-- where the first period or slash stands, from i on; the length if there is none -/
def fsp (l : List UInt8) (i : Nat) : Nat := i + (l.drop i).findIdx sep
theorem fsp_end (l : List UInt8) : fsp l l.length = l.length := by unfold fsp; rw [List.drop_length]; rfl
theorem fsp_step {l : List UInt8} {i : Nat} (h : i < l.length) : fsp l i = if sep (l[i]'h) then i else fsp l (i + 1) := by
  unfold fsp
  rw [List.drop_eq_getElem_cons h, List.findIdx_cons]
  cases sep (l[i]'h) <;> simp <;> omega
theorem fsp_le (l : List UInt8) : fsp l 0 ≤ l.length := by
  unfold fsp; rw [List.drop_zero, Nat.zero_add]; exact List.findIdx_le_length
theorem fsp_le_at {l : List UInt8} {i : Nat} (h : i ≤ l.length) : fsp l i ≤ l.length := by
  unfold fsp
  have := List.findIdx_le_length (xs := l.drop i) (p := sep)
  rw [List.length_drop] at this
  omega
theorem fsp_not {l : List UInt8} {j : Nat} (h : j < fsp l 0) (hj : j < l.length) : sep (l[j]'hj) = false := by
  unfold fsp at h
  rw [List.drop_zero, Nat.zero_add] at h
  have := List.not_of_lt_findIdx h
  simpa using this
theorem fsp_is {l : List UInt8} (h : fsp l 0 < l.length) : sep (l[fsp l 0]'h) = true := by
  unfold fsp at h ⊢
  simp only [List.drop_zero, Nat.zero_add] at h ⊢
  exact List.findIdx_getElem
/-- what a string without a sign says: numerator, denominator, and whether it is a number -/
def psr (l : List UInt8) : Nat × Nat × Bool :=
  if fsp l 0 = l.length then (dv l, 1, okd l)
  else if l.getD (fsp l 0) 0 = 47 then (dv (l.take (fsp l 0)), dv (l.drop (fsp l 0 + 1)), okd (l.take (fsp l 0)) && okd (l.drop (fsp l 0 + 1)))
  else (dv (l.take (fsp l 0)) * 10 ^ (l.length - fsp l 0 - 1) + dv (l.drop (fsp l 0 + 1)), 10 ^ (l.length - fsp l 0 - 1), okd (l.take (fsp l 0)) && okd (l.drop (fsp l 0 + 1)))

theorem pre_one (c : UInt8) (m : List UInt8) : [c].isPrefixOf m = true ↔ m[0]? = some c := by
  cases m with
  | nil => simp [List.isPrefixOf]
  | cons a m =>
    show (c == a && true) = true ↔ some a = some c
    rw [Bool.and_true, beq_iff_eq]
    exact ⟨fun h => by rw [h], fun h => by injection h with h; exact h.symm⟩
theorem occ_one {l : List UInt8} {c : UInt8} {j : Nat} : Lib.occAt l [c] j = true ↔ l[j]? = some c := by
  have h : Lib.occAt l [c] j = [c].isPrefixOf (l.drop j) := rfl
  rw [h, pre_one, List.getElem?_drop, Nat.add_zero]
theorem cut_at {l : List UInt8} {c : UInt8} {j : Nat} (h : l[j]? = some c) (hn : ∀ i : Nat, i < j → l[i]? ≠ some c) : Lib.cut l [c] = (l.take j, l.drop (j + 1), true) := by
  have hj : j < l.length := by
    rcases Nat.lt_or_ge j l.length with h1 | h1
    · exact h1
    · rw [List.getElem?_eq_none h1] at h; cases h
  unfold Lib.cut
  rcases Lib.index_spec l [c] with ⟨_, h2⟩ | ⟨i, h1, h2, h3, h4⟩
  · have := h2 j (by omega)
    rw [(occ_one).2 h] at this
    cases this
  · have h5 := occ_one.1 h3
    have hij : i = j := by
      rcases Nat.lt_trichotomy i j with h6 | h6 | h6
      · exact absurd h5 (hn i h6)
      · exact h6
      · have h7 := h4 j h6
        rw [(occ_one).2 h] at h7
        cases h7
    subst hij
    rw [h1, if_pos (by omega), Int.toNat_natCast]
    rfl
theorem cut_none {l : List UInt8} {c : UInt8} (h : ∀ i : Nat, l[i]? ≠ some c) : Lib.cut l [c] = (l, [], false) := by
  unfold Lib.cut
  rcases Lib.index_spec l [c] with ⟨h1, _⟩ | ⟨i, h1, h2, h3, h4⟩
  · rw [h1, if_neg (by decide)]
  · exact absurd (occ_one.1 h3) (h i)
theorem okd_iff {l : List UInt8} : okd l = true ↔ l.all dgt = true ∧ 0 < l.length := by
  unfold okd; rw [Bool.and_eq_true, decide_eq_true_eq]
theorem not_okd {l : List UInt8} {j : Nat} {b : UInt8} (h : l[j]? = some b) (hb : dgt b = false) : okd l = false := by
  cases h2 : okd l with
  | false => rfl
  | true =>
    have h3 := List.all_eq_true.1 (okd_iff.1 h2).1 b (List.mem_of_getElem? h)
    rw [hb] at h3
    cases h3
theorem dv_app {l m : List UInt8} (h1 : l.all dgt = true) (h2 : m.all dgt = true) : dv (l ++ m) = dv l * 10 ^ m.length + dv m := by
  unfold dv
  rw [List.all_append, h1, h2, Bool.and_self, if_pos rfl, if_pos rfl, if_pos rfl, dval_app]

theorem psz_psr (l : List UInt8) : (psz l).2.2 = (psr l).2.2 ∧ ((psr l).2.2 = true → psz l = psr l) := by
  have hle := fsp_le l
  by_cases h0 : fsp l 0 = l.length
  · have hno : ∀ (c : UInt8), sep c = true → ∀ i : Nat, l[i]? ≠ some c := by
      intro c hc i hi
      have hil : i < l.length := by
        rcases Nat.lt_or_ge i l.length with h | h
        · exact h
        · rw [List.getElem?_eq_none h] at hi; cases hi
      have h1 := fsp_not (by omega : i < fsp l 0) hil
      rw [List.getElem?_eq_getElem hil] at hi
      injection hi with hi
      rw [hi, hc] at h1
      cases h1
    have e1 := cut_none (hno 47 rfl)
    have e2 := cut_none (hno 46 rfl)
    have e : psz l = psr l := by
      unfold psz psr
      rw [e1, e2, if_pos h0]
      simp
    exact ⟨by rw [e], fun _ => e⟩
  · have hlt : fsp l 0 < l.length := by omega
    have his := fsp_is hlt
    have hget : l[fsp l 0]? = some (l[fsp l 0]'hlt) := List.getElem?_eq_getElem hlt
    have hgd : l.getD (fsp l 0) 0 = l[fsp l 0]'hlt := by rw [List.getD_eq_getElem?_getD, hget]; rfl
    have hbef : ∀ (c : UInt8), sep c = true → ∀ i : Nat, i < fsp l 0 → l[i]? ≠ some c := by
      intro c hc i hi he
      have h1 := fsp_not hi (by omega : i < l.length)
      rw [List.getElem?_eq_getElem (by omega)] at he
      injection he with he
      rw [he, hc] at h1
      cases h1
    by_cases h47 : l[fsp l 0]'hlt = 47
    · have e1 := cut_at (c := 47) (by rw [hget, h47]) (hbef 47 rfl)
      have e : psz l = psr l := by
        unfold psz psr
        rw [e1, if_neg h0, hgd, if_pos h47]
        simp
      exact ⟨by rw [e], fun _ => e⟩
    · have h46 : l[fsp l 0]'hlt = 46 := by
        unfold sep at his
        simp only [Bool.or_eq_true, beq_iff_eq] at his
        rcases his with h | h
        · exact h
        · exact absurd h h47
      have e2 := cut_at (c := 46) (by rw [hget, h46]) (hbef 46 rfl)
      have hr : psr l = (dv (l.take (fsp l 0)) * 10 ^ (l.length - fsp l 0 - 1) + dv (l.drop (fsp l 0 + 1)), 10 ^ (l.length - fsp l 0 - 1), okd (l.take (fsp l 0)) && okd (l.drop (fsp l 0 + 1))) := by
        unfold psr; rw [if_neg h0, hgd, if_neg h47]
      by_cases hs : ∃ i : Nat, l[i]? = some 47
      · -- a slash behind the period: no number for either
        have hmin : ∃ j : Nat, l[j]? = some 47 ∧ ∀ i : Nat, i < j → l[i]? ≠ some 47 := by
          obtain ⟨i, hi⟩ := hs
          induction i using Nat.strongRecOn with
          | ind i ih =>
            by_cases h : ∃ k : Nat, k < i ∧ l[k]? = some 47
            · obtain ⟨k, hk, hk2⟩ := h
              exact ih k hk hk2
            · exact ⟨i, hi, fun k hk he => h ⟨k, hk, he⟩⟩
        obtain ⟨j, hj, hjm⟩ := hmin
        have hjl : fsp l 0 < j := by
          rcases Nat.lt_trichotomy j (fsp l 0) with h | h | h
          · exact absurd hj (hbef 47 rfl j h)
          · rw [h, hget, h46] at hj; exact absurd hj (by decide)
          · exact h
        have e1 := cut_at hj hjm
        have b1 : okd (l.take j) = false := by
          refine not_okd (j := fsp l 0) (b := 46) ?_ rfl
          rw [List.getElem?_take, if_pos hjl, hget, h46]
        have b2 : okd (l.drop (fsp l 0 + 1)) = false := by
          refine not_okd (j := j - (fsp l 0 + 1)) (b := 47) ?_ rfl
          rw [List.getElem?_drop, show fsp l 0 + 1 + (j - (fsp l 0 + 1)) = j by omega, hj]
        have z1 : (psz l).2.2 = false := by
          unfold psz; rw [e1]; simp [b1]
        have z2 : (psr l).2.2 = false := by rw [hr]; simp [b2]
        exact ⟨by rw [z1, z2], fun h => by rw [z2] at h; cases h⟩
      · have e1 := cut_none (l := l) (c := 47) (fun i hi => hs ⟨i, hi⟩)
        have hz : psz l = (dv (l.take (fsp l 0) ++ l.drop (fsp l 0 + 1)), 10 ^ (l.drop (fsp l 0 + 1)).length, okd (l.take (fsp l 0) ++ l.drop (fsp l 0 + 1)) && decide (0 < (l.take (fsp l 0)).length) && decide (0 < (l.drop (fsp l 0 + 1)).length)) := by
          unfold psz; rw [e1, e2]; simp
        have hlen : (l.drop (fsp l 0 + 1)).length = l.length - fsp l 0 - 1 := by rw [List.length_drop]; omega
        rw [hz, hr]
        generalize l.take (fsp l 0) = a at *
        generalize l.drop (fsp l 0 + 1) = b at *
        have hb : (okd (a ++ b) && decide (0 < a.length) && decide (0 < b.length)) = (okd a && okd b) := by
          unfold okd
          rw [List.all_append, List.length_append]
          cases a.all dgt <;> cases b.all dgt <;> cases a <;> cases b <;> simp <;> omega
        refine ⟨hb, fun h => ?_⟩
        have h1 : okd a = true ∧ okd b = true := by
          have : (okd a && okd b) = true := h
          rwa [Bool.and_eq_true] at this
        rw [hb, hlen, dv_app (okd_iff.1 h1.1).1 (okd_iff.1 h1.2).1, hlen]
end Go.Proofs.YtbgihlfblmilmaaGreatDoor.Fr

/- A number's string is read back as the number. -/
namespace Go.Proofs.YtbgihlfblmilmaaGreatDoor.Fr
open Go.RowKit Num

theorem dgt_of {k : Nat} (h : k < 10) : dgt (UInt8.ofNat (48 + k)) = true := by
  unfold dgt
  rw [UInt8.toNat_ofNat', Nat.mod_eq_of_lt (by omega)]
  simp; omega
theorem dgt_nat {k : Nat} (h : k < 10) : (UInt8.ofNat (48 + k)).toNat - 48 = k := by
  rw [UInt8.toNat_ofNat', Nat.mod_eq_of_lt (by omega)]; omega
theorem dec_read : ∀ (k u : Nat), u < 10 ^ k → (Lib.decDigits u).all dgt = true ∧ dval (Lib.decDigits u) = u ∧ 0 < (Lib.decDigits u).length
  | 0, u, h => by
    obtain rfl : u = 0 := by simpa using h
    rw [Lib.decDigits_one (by decide)]
    decide
  | k + 1, u, h => by
    rw [Lib.decDigits]
    by_cases h10 : u < 10
    · rw [dif_pos h10]
      refine ⟨by rw [List.all_cons, dgt_of h10]; rfl, ?_, by simp⟩
      show 10 * 0 + ((UInt8.ofNat (48 + u)).toNat - 48) = u
      rw [dgt_nat h10]; omega
    · rw [dif_neg h10]
      obtain ⟨h1, h2, h3⟩ := dec_read k (u / 10) (by rw [Nat.pow_succ] at h; omega)
      refine ⟨by rw [List.all_append, h1, List.all_cons, dgt_of (by omega)]; rfl, ?_, by rw [List.length_append]; omega⟩
      rw [dval_snoc, h2, dgt_nat (by omega)]; omega
theorem lt_ten_pow (u : Nat) : u < 10 ^ u := Nat.lt_pow_self (by decide)
theorem dec_all (u : Nat) : (Lib.decDigits u).all dgt = true := (dec_read u u (lt_ten_pow u)).1
theorem dec_val (u : Nat) : dval (Lib.decDigits u) = u := (dec_read u u (lt_ten_pow u)).2.1
theorem dec_pos (u : Nat) : 0 < (Lib.decDigits u).length := (dec_read u u (lt_ten_pow u)).2.2
theorem dv_dec (u : Nat) : dv (Lib.decDigits u) = u := by unfold dv; rw [if_pos (dec_all u), dec_val]
theorem okd_dec (u : Nat) : okd (Lib.decDigits u) = true := okd_iff.2 ⟨dec_all u, dec_pos u⟩
/-- digits hold no other byte -/
theorem all_ne {l : List UInt8} (h : l.all dgt = true) {c : UInt8} (hc : dgt c = false) (i : Nat) : l[i]? ≠ some c := by
  intro he
  have := List.all_eq_true.1 h c (List.mem_of_getElem? he)
  rw [hc] at this
  cases this
theorem has_pre (b : UInt8) (l : List UInt8) : Lib.hasPrefix l [b] = decide (l[0]? = some b) := by
  unfold Lib.hasPrefix
  cases h : [b].isPrefixOf l with
  | true => rw [decide_eq_true ((pre_one b l).1 h)]
  | false => rw [decide_eq_false (fun h2 => by rw [(pre_one b l).2 h2] at h; cases h)]
theorem trim_not {l : List UInt8} (h : l[0]? ≠ some 45) : Lib.hasPrefix l [45] = false ∧ Lib.trimPrefix l [45] = l := by
  have h1 : Lib.hasPrefix l [45] = false := by rw [has_pre]; exact decide_eq_false h
  refine ⟨h1, ?_⟩
  unfold Lib.trimPrefix
  rw [h1]; rfl
theorem trim_is (l : List UInt8) : Lib.hasPrefix (45 :: l) [45] = true ∧ Lib.trimPrefix (45 :: l) [45] = l := by
  have h1 : Lib.hasPrefix (45 :: l) [45] = true := by rw [has_pre]; exact decide_eq_true rfl
  refine ⟨h1, ?_⟩
  unfold Lib.trimPrefix
  rw [h1]; rfl
/-- a sign ahead of a string that begins with no sign -/
theorem signed_trim (s : Bool) (m : List UInt8) (h : m[0]? ≠ some 45) : Lib.hasPrefix ((if s then [45] else []) ++ m) [45] = s ∧ Lib.trimPrefix ((if s then [45] else []) ++ m) [45] = m := by
  cases s with
  | true => exact trim_is m
  | false => exact trim_not h

theorem psz_text (n d : Nat) : psz (Lib.decDigits n ++ (if d = 1 then [] else 47 :: Lib.decDigits d)) = (n, d, true) := by
  by_cases h1 : d = 1
  · subst h1
    rw [if_pos rfl, List.append_nil]
    unfold psz
    rw [cut_none (all_ne (dec_all n) (by decide)), cut_none (all_ne (dec_all n) (by decide)), dv_dec, okd_dec]
    rfl
  · rw [if_neg h1]
    have e := cut_at (l := Lib.decDigits n ++ 47 :: Lib.decDigits d) (c := 47) (j := (Lib.decDigits n).length) (by rw [List.getElem?_append_right (Nat.le_refl _), Nat.sub_self]; rfl) (fun i hi => by
      rw [List.getElem?_append_left hi]; exact all_ne (dec_all n) (by decide) i)
    have e1 : (Lib.decDigits n ++ 47 :: Lib.decDigits d).take (Lib.decDigits n).length = Lib.decDigits n := by rw [List.take_append_of_le_length (Nat.le_refl _), List.take_length]
    have e2 : (Lib.decDigits n ++ 47 :: Lib.decDigits d).drop ((Lib.decDigits n).length + 1) = Lib.decDigits d := by
      rw [List.drop_append, List.drop_eq_nil_of_le (by omega), show (Lib.decDigits n).length + 1 - (Lib.decDigits n).length = 1 by omega]; rfl
    rw [e1, e2] at e
    unfold psz
    rw [e]
    simp only [if_true, dv_dec, okd_dec, Bool.and_self]
theorem txt_read (q : Rat) (hl : (txt q).length ≤ 10000) : pre (txt q) = 0 ∧ prq (txt q) = q := by
  have h0 : (Lib.decDigits q.num.natAbs ++ (if q.den = 1 then [] else 47 :: Lib.decDigits q.den))[0]? ≠ some 45 := by
    rw [List.getElem?_append_left (dec_pos _)]
    exact all_ne (dec_all _) (by decide) 0
  have ht : txt q = (if decide (q.num < 0) = true then [45] else []) ++ (Lib.decDigits q.num.natAbs ++ (if q.den = 1 then [] else 47 :: Lib.decDigits q.den)) := by
    unfold txt; rw [List.append_assoc]; simp
  obtain ⟨h1, h2⟩ := signed_trim (decide (q.num < 0)) _ h0
  rw [← ht] at h1 h2
  have h3 := psz_text q.num.natAbs q.den
  have hp : pre (txt q) = 0 := by
    unfold pre
    rw [if_neg (by omega), h2, h3, if_neg (by simp), if_neg (show ¬ q.den = 0 from q.den_nz)]
  refine ⟨hp, ?_⟩
  unfold prq
  rw [if_pos hp, h1, h2, h3]
  exact fq_self q
theorem ParseTextQ (q : Rat) (w : World) (hl : (txt q).length ≤ 10000) (hG : Gl w) :
    Calls Tryz.prog 64 #[.string ⟨(txt q).toArray⟩] w (RetFE w q 40002 0) := by
  have h := ParseQ (txt q) w (by omega) hG
  rw [(txt_read q hl).1, (txt_read q hl).2] at h
  exact h
theorem AF.small {w : World} {v : Value} {q : Rat} {L : Nat} (h : AF w v q L) : q.num.natAbs < bs .u32 ^ (L + 1) ∧ q.den < bs .u32 ^ (L + 1) := by
  obtain ⟨s, A, n, c, A', n', c', xs, ys, rfl, d1, d2, h1, h2, h3⟩ := h
  rw [← h3.out, fq_abs (dn_pos' _), fq_den (dn_pos' _)]
  have k1 := vl_lt d1.ok
  have k2 := vl_lt d2.ok
  rw [d1.len] at k1
  rw [d2.len] at k2
  have m1 : bs .u32 ^ n ≤ bs .u32 ^ (L + 1) := Nat.pow_le_pow_right (by decide) (by omega)
  have m2 : dn (vl (bs .u32) ys) < bs .u32 ^ (L + 1) := dn_lt32 (bs .u32) (by decide) k2 (by omega)
  exact ⟨Nat.lt_of_le_of_lt (Nat.div_le_self _ _) (Nat.lt_of_lt_of_le k1 m1), Nat.lt_of_le_of_lt (Nat.div_le_self _ _) m2⟩
theorem txt_len {w : World} {v : Value} {q : Rat} {L : Nat} (h : AF w v q L) : (txt q).length ≤ 20 * L + 22 := by
  have h1 := dec_len32 h.small.1
  have h2 := dec_len32 h.small.2
  unfold txt
  rw [List.length_append, List.length_append]
  have h3 : (if q.num < 0 then [45] else [] : List UInt8).length ≤ 1 := by split <;> simp
  have h4 : (if q.den = 1 then [] else 47 :: Lib.decDigits q.den).length ≤ 10 * L + 11 := by
    split
    · simp
    · rw [List.length_cons]; omega
  omega
end Go.Proofs.YtbgihlfblmilmaaGreatDoor.Fr
