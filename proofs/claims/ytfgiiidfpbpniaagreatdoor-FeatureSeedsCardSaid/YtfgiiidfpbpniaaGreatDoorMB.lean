/- Codebooks that are improved again and again: what they are; lists of vectors compared. -/
import Derived.Test.YtfgiiidfpbpniaaGreatDoorMA
namespace Go.Proofs.YtfgiiidfpbpniaaGreatDoor
open Go.RowKit

theorem rnd_mid {S N M : Int} (hN : 1 ≤ N) (h1 : -(N * M) ≤ S) (h2 : S ≤ N * M) : -M ≤ rnd S N ∧ rnd S N ≤ M := by
  have h := rnd_close (a := S) hN
  generalize rnd S N = r at *
  constructor
  · rcases Int.lt_or_le r (-M) with h3 | h3
    · have : N * r ≤ N * (-M - 1) := Int.mul_le_mul_of_nonneg_left (by omega) (by omega)
      rw [Int.mul_sub, Int.mul_neg] at this
      omega
    · exact h3
  · rcases Int.lt_or_le M r with h3 | h3
    · have : N * (M + 1) ≤ N * r := Int.mul_le_mul_of_nonneg_left (by omega) (by omega)
      rw [Int.mul_add] at this
      omega
    · exact h3
theorem allB_mk {lo hi : Int} {xs : List Int} (h : ∀ i, i < xs.length → lo ≤ xs.getD i 0 ∧ xs.getD i 0 ≤ hi) : allB lo hi xs = true := by
  unfold allB
  rw [List.all_eq_true]
  intro x hx
  obtain ⟨j, hj, rfl⟩ := List.getElem_of_mem hx
  have := h j hj
  rw [getD_in hj] at this
  simp [okB_iff]
  omega
theorem imp_vec {m : Nat} {vs us : List (List Int)} (hv : VecS m vs) (hu : VecS m us) : VecS m (impL m vs us) := by
  intro x hx
  unfold impL at hx
  obtain ⟨k, hk, rfl⟩ := List.mem_map.1 hx
  have hk := List.mem_range.1 hk
  unfold impK
  by_cases h0 : grpL us k vs = []
  · rw [if_pos h0]
    exact hu _ (mem_getD hk)
  · rw [if_neg h0]
    have hN : 1 ≤ (grpL us k vs).length := by
      rcases Nat.eq_zero_or_pos (grpL us k vs).length with e | e
      · exact absurd (List.eq_nil_of_length_eq_zero e) h0
      · exact e
    refine ⟨tab_len _ _, allB_mk fun i hi => ?_⟩
    have hi : i < m := by unfold meanL at hi; rw [tab_len] at hi; exact hi
    unfold meanL
    rw [tab_getD hi]
    have h1 := colS_bd (vs := grpL us k vs) (M := 1048576) (by decide) (fun x hx => (hv x (grpL_sub hx)).2) i (grpL us k vs).length
    exact rnd_mid (by omega) h1.1 h1.2
theorem codC_of {vs us : List (List Int)} {m : Nat} (h1 : vs.length ≤ 10000) (h2 : 1 ≤ us.length) (h3 : us.length ≤ 256) (h4 : 1 ≤ m) (h5 : m ≤ 64) (hv : VecS m vs) (hu : VecS m us) : codC vs us = 0 := by
  have hrow : ∀ x ∈ vs ++ us, x.length = m ∧ allB (-1048576) 1048576 x = true := fun x hx => by
    rcases List.mem_append.1 hx with h | h
    · exact hv x h
    · exact hu x h
  have hhead : ((vs ++ us).headD []).length = m := by
    have hne : (vs ++ us).headD [] ∈ vs ++ us := by
      cases h : vs ++ us with
      | nil =>
        rw [List.append_eq_nil_iff] at h
        rw [h.2] at h2
        exact absurd h2 (by decide)
      | cons y ys => simp
    exact (hrow _ hne).1
  have hvec : vecsB (vs ++ us) = true := by
    unfold vecsB
    rw [List.all_eq_true]
    intro x hx
    have := hrow x hx
    unfold rowOk vecB
    rw [hhead, this.2, this.1]
    simp [okB_iff]
    omega
  have hc : chk2 vs us = 0 := by
    unfold chk2
    rw [if_neg (by omega), if_pos hvec]
  unfold codC
  rw [if_pos hc, if_pos (by rw [okB_iff]; omega)]
/-- the codebook, improved k times -/
def itr (m : Nat) (vs us : List (List Int)) : Nat → List (List Int)
  | 0 => us
  | k + 1 => impL m vs (itr m vs us k)
theorem itr_len (m : Nat) (vs us : List (List Int)) : ∀ k, (itr m vs us k).length = us.length := by
  intro k
  induction k with
  | zero => rfl
  | succ k ih => show (impL m vs (itr m vs us k)).length = _; rw [imp_len, ih]
theorem itr_vec {m : Nat} {vs us : List (List Int)} (hv : VecS m vs) (hu : VecS m us) : ∀ k, VecS m (itr m vs us k) := by
  intro k
  induction k with
  | zero => exact hu
  | succ k ih => exact imp_vec hv ih
theorem itr_falls {m : Nat} {vs us : List (List Int)} (hm : m ≤ 64) (hv : VecS m vs) (hu : VecS m us) (hn : 1 ≤ us.length) (k : Nat) : cst vs (itr m vs us (k + 1)) ≤ cst vs (itr m vs us k) :=
  cst_falls hm hv (itr_vec hv hu k) (by rw [itr_len]; exact hn)
theorem itr_mono {m : Nat} {vs us : List (List Int)} (hm : m ≤ 64) (hv : VecS m vs) (hu : VecS m us) (hn : 1 ≤ us.length) {a b : Nat} (h : a ≤ b) : cst vs (itr m vs us b) ≤ cst vs (itr m vs us a) := by
  induction b with
  | zero =>
    obtain rfl : a = 0 := by omega
    exact Int.le_refl _
  | succ b ih =>
    rcases Nat.lt_or_ge b a with h1 | h1
    · obtain rfl : a = b + 1 := by omega
      exact Int.le_refl _
    · have := itr_falls hm hv hu hn b
      have := ih h1
      omega
/-- training ends after k rounds -/
def Stop (m : Nat) (vs us : List (List Int)) (r k : Nat) : Prop := k ≤ r ∧ (∀ j, j < k → itr m vs us (j + 1) ≠ itr m vs us j) ∧ (k < r → itr m vs us (k + 1) = itr m vs us k)

theorem Equal_any (A A' : Option Addr) (n c n' c' : Nat) (xs ys : List Int) (w : World) (h : Sl .i64 w A n c xs) (h' : Sl .i64 w A' n' c' ys) :
    Calls Tryz.prog 36 #[.slice A n c, .slice A' n' c'] w fun e w' => ∃ k, e = .returned (.bool (sameB xs ys)) ∧ w' = w.drewN k := by
  have hl := Lib.hid h.len
  have hl' := Lib.hid h'.len
  have hcap := h.cap
  have htop := h.top
  have hcap' := h'.cap
  by_cases hn : n = n'
  · subst hn
    go_enter Tryz.func36, Tryz.ntmps36
    go_wp2
    go_loopw [13] (fun iv wr => ∃ k r : Nat, iv = .int .i64 k ∧ k ≤ n ∧ Hid (xs.take k = ys.take k) ∧ wr = w.drewN r) (fun iv _ => n - (intOf iv).toNat)
    case atStart => exact ⟨0, 0, rfl, Nat.zero_le _, rfl, rfl⟩
    case round =>
      obtain ⟨k, r, rfl, hk, he, rfl⟩ := hrel
      have hr := h.drewN r
      have hr' := h'.drewN r
      generalize hw : w.drewN r = w1 at *
      have hw := Lib.hid hw
      rcases Nat.lt_or_ge k n with hlt | hge
      · obtain ⟨ad, x, rfl, hc, hx⟩ := hr.at_ hlt
        obtain ⟨ad', y, rfl, hc', hy⟩ := hr'.at_ hlt
        have i0 : (0 : Int) ≤ (k : Int) := by omega
        have i1 : (k : Int) < (n : Int) := by omega
        by_cases hxy : x = y
        · subst hxy
          have hs := Lib.hid (show xs.take (k + 1) = ys.take (k + 1) by rw [take_snocD (by rw [hl.out]; exact hlt) hx.out, take_snocD (by rw [hl'.out]; exact hlt) hy.out, he.out])
          go_wp2
          go_quiet (fail)
          go_wp2
          go_roundw
          case rel => exact ⟨k + 1, r + nq, by go_num, hlt, hs.out, by rw [← hw.out]; exact dr_add w r nq⟩
          case measure => simp [intOf]; omega
        · have hs := Lib.hid (sameB_no (xs := xs) (ys := ys) (fun e => hxy (by rw [← hx.out, ← hy.out, e])))
          have hb : (x == y) = false := by simpa using hxy
          have hb' : (x != y) = true := by simpa using hxy
          go_wp2
          go_quiet (fail)
          go_wp2
          go_ret
          exact ⟨r + nq, ret_bool hs.out.symm, by rw [← hw.out]; exact dr_add w r nq⟩
      · have hkn : k = n := by omega
        subst hkn
        have hs := Lib.hid (sameB_yes (xs := xs) (ys := ys) (by have := he.out; rw [List.take_of_length_le (by rw [hl.out]; exact Nat.le_refl _), List.take_of_length_le (by rw [hl'.out]; exact Nat.le_refl _)] at this; exact this))
        go_wp2
        go_ret
        exact ⟨r, ret_bool hs.out.symm, hw.out.symm⟩
  · have hs := Lib.hid (sameB_no (xs := xs) (ys := ys) (fun e => hn (by rw [← hl.out, ← hl'.out, e])))
    have hb : ((n : Int) != (n' : Int)) = true := by simp; omega
    have hb2 : decide (n = n') = false := by simpa using hn
    go_enter Tryz.func36, Tryz.ntmps36
    go_wp2
    go_ret
    exact ⟨0, ret_bool hs.out.symm, rfl⟩

theorem take_snocL {vs : List (List Int)} {k : Nat} {x : List Int} (h : vs[k]? = some x) : vs.take (k + 1) = vs.take k ++ [x] := by
  have hk := lt_of_some h
  rw [take_snoc hk]
  rw [List.getElem?_eq_getElem hk] at h
  injection h with h
  rw [h]

set_option maxHeartbeats 1600000 in
theorem EqualFunc_any (A A' : Option Addr) (n c n' c' : Nat) (vs us : List (List Int)) (w : World) (h : Rr w A n c vs) (h' : Rr w A' n' c' us) :
    Calls Tryz.prog 35 #[.slice A n c, .slice A' n' c', .func (.func 36) #[] #[]] w fun e w' => ∃ b r, e = .returned (.bool b) ∧ (b = true ↔ vs = us) ∧ w' = w.drewN r := by
  have hl := Lib.hid h.len
  have hl' := Lib.hid h'.len
  have hcap := h.cap
  have htop := h.top
  have hcap' := h'.cap
  by_cases hn : n = n'
  · subst hn
    go_enter Tryz.func35, Tryz.ntmps35
    go_wp2
    go_loopw [17] (fun iv wr' => ∃ (k r : Nat) (wr : World), wr = wr' ∧ iv = .int .i64 k ∧ k ≤ n ∧ Hid (vs.take k = us.take k) ∧ Hid (wr = w.drewN r) ∧ Below w.heap.size w wr) (fun iv _ => n - (intOf iv).toNat)
    case atStart => exact ⟨0, 0, _, rfl, rfl, Nat.zero_le _, rfl, rfl, Below.refl _ _⟩
    case round =>
      obtain ⟨k, r, wr, rfl, rfl, hk, he, hw, hbr⟩ := hrel
      have hr := h.below hbr
      have hr' := h'.below hbr
      rcases Nat.lt_or_ge k n with hlt | hge
      · obtain ⟨ad, B, L, C, x, rfl, hc, hx, hS, _⟩ := hr.at_ hlt
        obtain ⟨ad', B', L', C', y, rfl, hc', hy, hS', _⟩ := hr'.at_ hlt
        have i0 : (0 : Int) ≤ (k : Int) := by omega
        have i1 : (k : Int) < (n : Int) := by omega
        have hE := Equal_any B B' L C L' C' x y wr hS hS'
        by_cases hxy : x = y
        · rw [sameB_yes hxy] at hE
          have hE := Lib.hid hE
          have hs := Lib.hid (show vs.take (k + 1) = us.take (k + 1) by rw [take_snocL hx.out, take_snocL hy.out, he.out, hxy])
          clear hxy
          go_wp2_with fail
          refine hE.out.mono ?_
          rintro e w2 ⟨q, rfl, hw2⟩
          have hb2 : Below w.heap.size w w2 := by rw [hw2]; exact bel_drewN hbr q
          have hw3 := Lib.hid (show w2 = w.drewN (r + q) by rw [hw2, hw.out]; exact dr_add w r q)
          clear hw2
          go_wp2
          go_roundw
          case rel => exact ⟨k + 1, r + q, _, rfl, by go_num, hlt, hs.out, hw3.out, hb2⟩
          case measure => simp [intOf]; omega
        · rw [sameB_no hxy] at hE
          have hE := Lib.hid hE
          have hno := Lib.hid (show vs ≠ us from fun e => hxy (by have a := hx.out; rw [e, hy.out] at a; injection a with a; exact a.symm))
          clear hxy
          go_wp2_with fail
          refine hE.out.mono ?_
          rintro e w2 ⟨q, rfl, hw2⟩
          have hw3 := Lib.hid (show w2 = w.drewN (r + q) by rw [hw2, hw.out]; exact dr_add w r q)
          clear hw2
          go_wp2
          go_ret
          exact ⟨false, r + q, rfl, ⟨(fun e => by cases e), fun e => absurd e hno.out⟩, hw3.out⟩
      · have hkn : n = k := by omega
        subst hkn
        have hs := Lib.hid (show vs = us by have := he.out; rw [List.take_of_length_le (by rw [hl.out]; exact Nat.le_refl _), List.take_of_length_le (by rw [hl'.out]; exact Nat.le_refl _)] at this; exact this)
        go_wp2
        go_ret
        exact ⟨true, r, rfl, ⟨fun _ => hs.out, fun _ => rfl⟩, hw.out⟩
  · have hno := Lib.hid (show vs ≠ us from fun e => hn (by rw [← hl.out, ← hl'.out, e]))
    have hb : ((n : Int) != (n' : Int)) = true := by simp; omega
    have hb2 : decide (n = n') = false := by simpa using hn
    go_enter Tryz.func35, Tryz.ntmps35
    go_wp2
    go_ret
    exact ⟨false, 0, rfl, ⟨(fun e => by cases e), fun e => absurd e hno.out⟩, rfl⟩
end Go.Proofs.YtfgiiidfpbpniaaGreatDoor
