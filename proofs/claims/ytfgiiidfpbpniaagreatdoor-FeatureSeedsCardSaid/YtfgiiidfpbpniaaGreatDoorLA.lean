/- Transforms of sums, multiples and turned lists. -/
import Derived.Test.YtfgiiidfpbpniaaGreatDoorKC
namespace Go.Proofs.YtfgiiidfpbpniaaGreatDoor
open Go.RowKit

theorem sm_front (n : Nat) (f : Nat → Int) : sm (n + 1) f = f 0 + sm n fun i => f (i + 1) := by
  induction n with
  | zero => show 0 + f 0 = f 0 + 0; omega
  | succ n ih =>
    show sm (n + 1) f + f (n + 1) = f 0 + (sm n (fun i => f (i + 1)) + f (n + 1))
    rw [ih]; omega
theorem sm_turn (n : Nat) : ∀ f : Nat → Int, sm n (fun i => f (n - 1 - i)) = sm n f := by
  induction n with
  | zero => intro f; rfl
  | succ n ih =>
    intro f
    rw [sm_front]
    show f (n + 1 - 1 - 0) + sm n (fun i => f (n + 1 - 1 - (i + 1))) = sm n f + f n
    have e : sm n (fun i => f (n + 1 - 1 - (i + 1))) = sm n (fun i => f (n - 1 - i)) := sm_eqv fun i hi => by
      rw [show n + 1 - 1 - (i + 1) = n - 1 - i by omega]
    rw [e, ih f]
    show f n + sm n f = _
    omega
theorem cs_mod (j : Nat) : cs j = cs (j % 256) := by
  unfold cs
  rw [Nat.mod_mod]
theorem cs_even : ∀ u, u < 256 → cs ((256 - u) % 256) = cs u := by decide +kernel
theorem cs_half : ∀ u, u < 256 → cs ((384 - u) % 256) = -cs u := by decide +kernel
theorem cs_back (k m : Nat) (h : m ≤ 128 * k) : cs (128 * k - m) = if k % 2 = 0 then cs m else -cs m := by
  have hu : m % 256 < 256 := Nat.mod_lt _ (by decide)
  rw [cs_mod (128 * k - m), cs_mod m]
  by_cases h2 : k % 2 = 0
  · rw [if_pos h2, ← cs_even _ hu, show (128 * k - m) % 256 = (256 - m % 256) % 256 by omega]
  · rw [if_neg h2, ← cs_half _ hu, show (128 * k - m) % 256 = (384 - m % 256) % 256 by omega]
theorem tr_add {xs ys zs : List Int} {n k : Nat} (h : ∀ i, i < n → zs.getD i 0 = xs.getD i 0 + ys.getD i 0) : trA zs n k = trA xs n k + trA ys n k := by
  unfold trA
  rw [← sm_add2]
  refine sm_eqv fun i hi => ?_
  rw [h i hi, Int.add_mul]
theorem tr_mul {xs zs : List Int} {n k : Nat} {by' : Int} (h : ∀ i, i < n → zs.getD i 0 = by' * xs.getD i 0) : trA zs n k = by' * trA xs n k := by
  unfold trA
  rw [← sm_mul]
  refine sm_eqv fun i hi => ?_
  rw [h i hi, Int.mul_assoc]
theorem turn_arg {n i k : Nat} (hn : lenB n = true) (hi : i < n) : (2 * i + 1) * k * (64 / n) = 128 * k - (2 * (n - 1 - i) + 1) * k * (64 / n) ∧ (2 * (n - 1 - i) + 1) * k * (64 / n) ≤ 128 * k := by
  obtain ⟨h1, h2, h3⟩ := lenB_le hn
  have e : n * (64 / n) = 64 := by have := Nat.div_add_mod 64 n; omega
  have e2 : (2 * i + 1) * k * (64 / n) + (2 * (n - 1 - i) + 1) * k * (64 / n) = 128 * k := by
    rw [← Nat.add_mul, ← Nat.add_mul, show 2 * i + 1 + (2 * (n - 1 - i) + 1) = 2 * n by omega, Nat.mul_assoc, Nat.mul_assoc, Nat.mul_left_comm n k, e]
    omega
  omega
theorem tr_turn {xs zs : List Int} {n k : Nat} (hn : lenB n = true) (h : ∀ i, i < n → zs.getD i 0 = xs.getD (n - 1 - i) 0) : trA zs n k = if k % 2 = 0 then trA xs n k else -trA xs n k := by
  obtain ⟨F, hF⟩ : ∃ F : Nat → Int, F = fun j => if k % 2 = 0 then xs.getD j 0 * cs ((2 * j + 1) * k * (64 / n)) else -(xs.getD j 0 * cs ((2 * j + 1) * k * (64 / n))) := ⟨_, rfl⟩
  have e1 : trA zs n k = sm n (fun i => F (n - 1 - i)) := by
    rw [hF]
    unfold trA
    refine sm_eqv fun i hi => ?_
    obtain ⟨a1, a2⟩ := turn_arg (k := k) hn hi
    rw [h i hi, a1, cs_back k _ a2]
    show _ = if k % 2 = 0 then _ else _
    split
    · rfl
    · rw [Int.mul_neg]
  rw [e1, sm_turn, hF]
  by_cases h2 : k % 2 = 0
  · simp only [h2, if_true]; rfl
  · simp only [h2, if_false]
    have : sm n (fun j => -(xs.getD j 0 * cs ((2 * j + 1) * k * (64 / n)))) = sm n (fun j => -1 * (xs.getD j 0 * cs ((2 * j + 1) * k * (64 / n)))) := sm_eqv fun j _ => by omega
    rw [this, sm_mul]
    show -1 * trA xs n k = _
    omega
theorem trOk_of {zs : List Int} {n : Nat} (hl : zs.length = n) (hn : lenB n = true) (h : ∀ i, i < n → -65536 ≤ zs.getD i 0 ∧ zs.getD i 0 ≤ 65536) : trOk zs = true := by
  unfold trOk
  rw [hl, hn]
  simp only [Bool.true_and]
  unfold allB
  rw [List.all_eq_true]
  intro x hx
  obtain ⟨j, hj, rfl⟩ := List.getElem_of_mem hx
  have := h j (by omega)
  rw [getD_in hj] at this
  simp [okB_iff]
  omega
end Go.Proofs.YtfgiiidfpbpniaaGreatDoor
