/- Bytes: numbers read back. -/
import Derived.Test.YtobobbhifajhmaaB3
namespace Go.Proofs.Ytobobbhifajhmaa
open Go.RowKit

/-- the number of the first k bytes -/
def rd (bs : List Int) : Nat → Int
  | 0 => 0
  | k + 1 => rd bs k + bs.getD k 0 * 256 ^ k
theorem rd_bd {bs : List Int} (hb : byB bs) : ∀ k, k ≤ bs.length → 0 ≤ rd bs k ∧ rd bs k < 256 ^ k
  | 0, _ => ⟨Int.le_refl _, by show (0 : Int) < 1; decide⟩
  | k + 1, h => by
    have ih := rd_bd hb k (by omega)
    have hx := byB_get hb (j := k) (by omega) rfl
    have hp := pow256 k
    show 0 ≤ rd bs k + bs.getD k 0 * 256 ^ k ∧ rd bs k + bs.getD k 0 * 256 ^ k < 256 ^ (k + 1)
    generalize bs.getD k 0 = x at *
    have h1 : 0 ≤ x * 256 ^ k := Int.mul_nonneg hx.1 (by omega)
    have h2 : x * 256 ^ k ≤ 255 * 256 ^ k := Int.mul_le_mul_of_nonneg_right hx.2 (by omega)
    rw [Int.pow_succ]
    omega
/-- the bytes of a number read back -/
theorem byt_rd {bs : List Int} (hb : byB bs) {k i : Nat} (hk : k ≤ bs.length) (hi : i < k) : byt (rd bs k) i = bs.getD i 0 := by
  induction k with
  | zero => omega
  | succ k ih =>
    have hx := byB_get hb (j := k) (by omega) rfl
    have hr := rd_bd hb k (by omega)
    rcases Nat.lt_or_ge i k with h | h
    · rw [← ih (by omega) h]
      unfold byt
      show (rd bs k + bs.getD k 0 * 256 ^ k) / 256 ^ i % 256 = _
      obtain ⟨d, rfl⟩ : ∃ d, k = i + 1 + d := ⟨k - (i + 1), by omega⟩
      have hp := pow256 i
      rw [show (256 : Int) ^ (i + 1 + d) = 256 ^ i * (256 * 256 ^ d) by rw [Int.pow_add, Int.pow_add, Int.mul_assoc]; rfl, ← Int.mul_assoc, Int.mul_comm (bs.getD (i + 1 + d) 0), Int.mul_assoc, Int.add_mul_ediv_left _ _ (by omega)]
      rw [← Int.mul_assoc, Int.mul_comm _ 256, Int.mul_assoc, Int.add_mul_emod_self_left]
    · have : i = k := by omega
      subst this
      unfold byt
      show (rd bs i + bs.getD i 0 * 256 ^ i) / 256 ^ i % 256 = _
      have hp := pow256 i
      rw [Int.add_mul_ediv_right _ _ (by omega), Int.ediv_eq_zero_of_lt hr.1 hr.2, Int.zero_add]
      exact Int.emod_eq_of_lt hx.1 (by omega)
theorem le_rd {bs : List Int} (hb : byB bs) {k : Nat} (hk : k ≤ bs.length) : le (rd bs k) k = bs.take k := by
  apply List.ext_getElem
  · rw [le_len, List.length_take]; omega
  · intro i h1 h2
    rw [le_len] at h1
    have h3 := tab_getD (f := byt (rd bs k)) h1
    rw [getD_in (by rw [tab_len]; exact h1), byt_rd hb hk h1, getD_in (by omega)] at h3
    rw [List.getElem_take]
    exact h3
/-- a number of k bytes is read back from them -/
theorem rd_le {x : Int} {k : Nat} (h0 : 0 ≤ x) (h1 : x < 256 ^ k) {rest : List Int} : rd (le x k ++ rest) k = x := by
  have key : ∀ j, j ≤ k → rd (le x k ++ rest) j = x % 256 ^ j := by
    intro j
    induction j with
    | zero => intro _; show (0 : Int) = x % 1; omega
    | succ j ih =>
      intro hj
      show rd (le x k ++ rest) j + (le x k ++ rest).getD j 0 * 256 ^ j = _
      rw [ih (by omega)]
      have hg : (le x k ++ rest).getD j 0 = byt x j := by
        rw [← tab_getD (f := byt x) (show j < k by omega)]
        simp [List.getD_eq_getElem?_getD, List.getElem?_append, le, tab_len, show j < k by omega]
      rw [hg]
      unfold byt
      have hp := pow256 j
      rw [Int.pow_succ]
      have e1 := Int.mul_ediv_add_emod x (256 ^ j * 256)
      have e2 := Int.mul_ediv_add_emod x (256 ^ j)
      have e3 := Int.mul_ediv_add_emod (x / 256 ^ j) 256
      have e4 : x / 256 ^ j / 256 = x / (256 ^ j * 256) := by rw [← Int.pow_succ]; exact shift256 x j
      rw [e4] at e3
      generalize x / (256 ^ j * 256) = q at *
      generalize x / 256 ^ j = y at *
      generalize y % 256 = z at *
      rw [← e3] at e2
      have e5 : 256 ^ j * (256 * q + z) = 256 ^ j * 256 * q + z * 256 ^ j := by rw [Int.mul_add, ← Int.mul_assoc, Int.mul_comm _ z]
      rw [e5] at e2
      omega
  rw [key k (Nat.le_refl _)]
  exact Int.emod_eq_of_lt h0 h1
end Go.Proofs.Ytobobbhifajhmaa
