/- Samples at another rate stay between the least and the greatest one; nothing changes at the same rate. -/
import Derived.Test.YtobobbhifajhmaaV7
namespace Go.Proofs.Ytobobbhifajhmaa

theorem rnd_ge {a b lo : Int} (hb : 1 ≤ b) (h : lo * b ≤ a) : lo ≤ rnd a b := by
  have h2 : lo * (2 * b) = 2 * (lo * b) := Int.mul_left_comm lo 2 b
  by_cases h0 : 0 ≤ a
  · rw [rnd_pos h0]
    exact Int.le_ediv_of_mul_le (by omega) (by omega)
  · rw [rnd_neg (by omega)]
    have : (2 * -a + b) / (2 * b) < -lo + 1 := Int.ediv_lt_of_lt_mul (by omega) (by
      have h3 : (-lo + 1) * (2 * b) = -(lo * (2 * b)) + 2 * b := by rw [Int.add_mul, Int.neg_mul, Int.one_mul]
      omega)
    omega
theorem rnd_le {a b hi : Int} (hb : 1 ≤ b) (h : a ≤ hi * b) : rnd a b ≤ hi := by
  have h2 : hi * (2 * b) = 2 * (hi * b) := Int.mul_left_comm hi 2 b
  by_cases h0 : 0 ≤ a
  · rw [rnd_pos h0]
    have : (2 * a + b) / (2 * b) < hi + 1 := Int.ediv_lt_of_lt_mul (by omega) (by
      have h3 : (hi + 1) * (2 * b) = hi * (2 * b) + 2 * b := by rw [Int.add_mul, Int.one_mul]
      omega)
    omega
  · rw [rnd_neg (by omega)]
    have : -hi ≤ (2 * -a + b) / (2 * b) := Int.le_ediv_of_mul_le (by omega) (by rw [Int.neg_mul]; omega)
    omega
theorem rnd_mul {x b : Int} (hb : 1 ≤ b) : rnd (x * b) b = x := by
  have := rnd_ge (lo := x) hb (Int.le_refl (x * b))
  have := rnd_le (hi := x) hb (Int.le_refl (x * b))
  omega

theorem lastAt_in {xs : List Int} {lo hi : Int} (h : ∀ x ∈ xs, lo ≤ x ∧ x ≤ hi) (hn : 0 < xs.length) (i : Nat) : lo ≤ lastAt xs i ∧ lastAt xs i ≤ hi := by
  unfold lastAt
  have hi' : min i (xs.length - 1) < xs.length := by omega
  rw [getD_in hi']
  exact h _ (List.getElem_mem hi')
theorem wsum_in {xs : List Int} {lo hi : Int} (h : ∀ x ∈ xs, lo ≤ x ∧ x ≤ hi) (hn : 0 < xs.length) (i k : Nat) : lo * (k : Int) ≤ wsum xs i k ∧ wsum xs i k ≤ hi * (k : Int) := by
  induction k with
  | zero => show _ ≤ (0 : Int) ∧ (0 : Int) ≤ _; simp
  | succ k ih =>
    have := lastAt_in h hn (i + k)
    show _ ≤ wsum xs i k + _ ∧ wsum xs i k + _ ≤ _
    rw [Int.natCast_succ, Int.mul_add, Int.mul_add]
    omega
theorem smAt_in {xs : List Int} {lo hi : Int} (h : ∀ x ∈ xs, lo ≤ x ∧ x ≤ hi) (hn : 0 < xs.length) {wd : Nat} (hw : 1 ≤ wd) (i : Nat) : lo ≤ smAt xs wd i ∧ smAt xs wd i ≤ hi := by
  have := wsum_in h hn i wd
  exact ⟨rnd_ge (by omega) this.1, rnd_le (by omega) this.2⟩
theorem ipAt_in {xs : List Int} {lo hi : Int} (h : ∀ x ∈ xs, lo ≤ x ∧ x ≤ hi) (hn : 0 < xs.length) {u d : Nat} (hu : 1 ≤ u) (hd : 1 ≤ d) (j : Nat) : lo ≤ ipAt xs u d j ∧ ipAt xs u d j ≤ hi := by
  have hwd : 1 ≤ wdt u d := by
    unfold wdt
    exact (Nat.le_div_iff_mul_le (by omega)).2 (by omega)
  have h1 := smAt_in h hn hwd (j * d / u)
  have h2 := smAt_in h hn hwd (j * d / u + 1)
  have hf : j * d % u < u := Nat.mod_lt _ (by omega)
  unfold ipAt
  generalize smAt xs (wdt u d) (j * d / u) = s at *
  generalize smAt xs (wdt u d) (j * d / u + 1) = t at *
  generalize j * d % u = f at *
  have a1 : lo * ((u : Int) - (f : Int)) ≤ s * ((u : Int) - (f : Int)) := Int.mul_le_mul_of_nonneg_right h1.1 (by omega)
  have a2 : s * ((u : Int) - (f : Int)) ≤ hi * ((u : Int) - (f : Int)) := Int.mul_le_mul_of_nonneg_right h1.2 (by omega)
  have a3 : lo * (f : Int) ≤ t * (f : Int) := Int.mul_le_mul_of_nonneg_right h2.1 (by omega)
  have a4 : t * (f : Int) ≤ hi * (f : Int) := Int.mul_le_mul_of_nonneg_right h2.2 (by omega)
  rw [Int.mul_sub] at a1 a2
  refine ⟨rnd_ge (by omega) ?_, rnd_le (by omega) ?_⟩ <;> rw [Int.mul_sub] at * <;> omega
theorem ip_all {xs : List Int} {lo hi : Int} (h : ∀ x ∈ xs, lo ≤ x ∧ x ≤ hi) (hn : 0 < xs.length) {u d m : Nat} (hu : 1 ≤ u) (hd : 1 ≤ d) : allB lo hi (tab m (ipAt xs u d)) = true := by
  refine List.all_eq_true.2 fun x hx => ?_
  simp only [tab, List.mem_map] at hx
  obtain ⟨j, _, rfl⟩ := hx
  exact okB_iff.2 (ipAt_in h hn hu hd j)

theorem ip_same {xs : List Int} {u : Nat} (hu : 1 ≤ u) : tab xs.length (ipAt xs u u) = xs := by
  rw [tab_congr (g := fun i => xs.getD i 0), tab_self]
  intro i hi
  have hw : wdt u u = 1 := by
    unfold wdt
    have h1 : 1 ≤ (u + u - 1) / u := (Nat.le_div_iff_mul_le (by omega)).2 (by omega)
    have h2 : (u + u - 1) / u < 2 := (Nat.div_lt_iff_lt_mul (by omega)).2 (by omega)
    omega
  unfold ipAt
  rw [hw, Nat.mul_div_cancel _ (by omega), Nat.mul_mod_left, Int.natCast_zero, Int.mul_zero, Int.add_zero, Int.sub_zero, rnd_mul (by omega)]
  unfold smAt
  show rnd (0 + lastAt xs (i + 0)) ((1 : Nat) : Int) = _
  have := rnd_mul (x := lastAt xs i) (b := 1) (by omega)
  rw [Int.mul_one] at this
  rw [Int.zero_add, Nat.add_zero, Int.natCast_one, this]
  unfold lastAt
  rw [show min i (xs.length - 1) = i by omega]
theorem cnt_same {n u : Nat} (hu : 1 ≤ u) : rsCnt n u u = (n : Int) := by
  unfold rsCnt
  have h1 : (n : Int) ≤ ((n : Int) * u + u - 1) / u := Int.le_ediv_of_mul_le (by omega) (by omega)
  have h2 : ((n : Int) * u + u - 1) / u < (n : Int) + 1 := Int.ediv_lt_of_lt_mul (by omega) (by rw [Int.add_mul]; omega)
  omega
theorem cnt_pos {n u d : Nat} (hu : 1 ≤ u) (hd : 1 ≤ d) (hn : 0 < n) : 0 < rsCnt n u d := by
  unfold rsCnt
  have h0 : (1 : Int) * 1 ≤ (n : Int) * u := Int.mul_le_mul (by omega) (by omega) (by omega) (by omega)
  have h1 : (1 : Int) ≤ ((n : Int) * u + d - 1) / d := Int.le_ediv_of_mul_le (by omega) (by omega)
  omega

/-- what a call with no error says -/
theorem rs_ok {rate : Int} {xs : List Int} {u d : Int} (h : rsC rate xs u d = 0) :
    chkR rate xs = 0 ∧ (∃ U D M : Nat, u = (U : Int) ∧ d = (D : Int) ∧ 1 ≤ U ∧ U ≤ 16 ∧ 1 ≤ D ∧ D ≤ 16 ∧ rate * u % d = 0 ∧ rsCnt xs.length u d = (M : Int) ∧ M ≤ 200000 ∧ rsL rate xs u d = tab M (ipAt xs U D)) ∧ rsR rate xs u d = rate * u / d := by
  have hR : rsR rate xs u d = rate * u / d := by unfold rsR; rw [if_pos h]
  have hL : rsL rate xs u d = tab (rsCnt xs.length u d).toNat (ipAt xs u.toNat d.toNat) := by unfold rsL; rw [if_pos h]
  unfold rsC at h
  split at h
  · rename_i hk
    split at h
    · rename_i hud
      rw [Bool.and_eq_true, okB_iff, okB_iff] at hud
      split at h
      · rename_i hm
        split at h
        · split at h
          · rename_i hc
            have h0 : 0 ≤ rsCnt xs.length u d := Int.ediv_nonneg (by have := Int.mul_nonneg (Int.natCast_nonneg xs.length) (show 0 ≤ u by omega); omega) (by omega)
            exact ⟨hk, ⟨u.toNat, d.toNat, (rsCnt xs.length u d).toNat, by omega, by omega, by omega, by omega, by omega, by omega, hm, by omega, by omega, hL⟩, hR⟩
          · cases h
        · cases h
      · cases h
    · cases h
  · rename_i hk
    exact absurd h hk
theorem rs_no {rate : Int} {xs : List Int} {u d : Int} (h : rsC rate xs u d ≠ 0) : rsR rate xs u d = 0 ∧ rsL rate xs u d = [] := by
  unfold rsR rsL
  rw [if_neg h, if_neg h]
  exact ⟨rfl, rfl⟩
end Go.Proofs.Ytobobbhifajhmaa
