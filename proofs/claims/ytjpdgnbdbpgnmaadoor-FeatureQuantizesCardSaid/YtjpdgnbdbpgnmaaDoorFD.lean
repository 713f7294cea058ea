/- Cosines and transforms: what they are. -/
import Derived.Test.YtjpdgnbdbpgnmaaDoorFA
namespace Go.Proofs.YtjpdgnbdbpgnmaaDoor
open Go.RowKit

def cosL : List Int := [16384, 16379, 16364, 16340, 16305, 16261, 16207, 16143, 16069, 15986, 15893, 15791, 15679, 15557, 15426, 15286, 15137, 14978, 14811, 14635, 14449, 14256, 14053, 13842, 13623, 13395, 13160, 12916, 12665, 12406, 12140, 11866, 11585, 11297, 11003, 10702, 10394, 10080, 9760, 9434, 9102, 8765, 8423, 8076, 7723, 7366, 7005, 6639, 6270, 5897, 5520, 5139, 4756, 4370, 3981, 3590, 3196, 2801, 2404, 2006, 1606, 1205, 804, 402, 0]
theorem cosL_len : cosL.length = 65 := by decide
def cosT (j : Nat) : Int := cosL.getD j 0
theorem cosT_bd (j : Nat) : 0 ≤ cosT j ∧ cosT j ≤ 16384 := by
  have h : ∀ x ∈ cosL, (0 : Int) ≤ x ∧ x ≤ 16384 := by decide
  unfold cosT
  rcases Nat.lt_or_ge j cosL.length with hj | hj
  · rw [getD_in hj]; exact h _ (List.getElem_mem hj)
  · rw [getD_out hj]; omega
/-- the extended table -/
def cs (j : Nat) : Int := if j % 256 ≤ 64 then cosT (j % 256) else if j % 256 ≤ 128 then -cosT (128 - j % 256) else if j % 256 ≤ 192 then -cosT (j % 256 - 128) else cosT (256 - j % 256)
theorem cs_bd (j : Nat) : -16384 ≤ cs j ∧ cs j ≤ 16384 := by
  unfold cs
  have h1 := cosT_bd (j % 256)
  have h2 := cosT_bd (128 - j % 256)
  have h3 := cosT_bd (j % 256 - 128)
  have h4 := cosT_bd (256 - j % 256)
  split
  · omega
  · split
    · omega
    · split <;> omega
/-- the sum of f 0, .., f (n - 1) -/
def sm : Nat → (Nat → Int) → Int
  | 0, _ => 0
  | n + 1, f => sm n f + f n
theorem sm_bd {f : Nat → Int} {m : Int} {n : Nat} (h : ∀ i, i < n → -m ≤ f i ∧ f i ≤ m) : -(n * m) ≤ sm n f ∧ sm n f ≤ n * m := by
  induction n with
  | zero => simp [sm]
  | succ n ih =>
    have h1 := ih (fun i hi => h i (by omega))
    have h2 := h n (by omega)
    have e : ((n + 1 : Nat) : Int) * m = n * m + m := by rw [Int.natCast_add, Int.add_mul]; simp
    unfold sm
    omega
/-- element k of the transform -/
def trA (xs : List Int) (n k : Nat) : Int := sm n fun i => xs.getD i 0 * cs ((2 * i + 1) * k * (64 / n))
def trL (xs : List Int) : List Int := tab xs.length (trA xs xs.length)
/-- a length of a transform -/
def lenB (n : Nat) : Bool := decide (0 < n) && decide (64 % n = 0)
theorem lenB_le {n : Nat} (h : lenB n = true) : 1 ≤ n ∧ n ≤ 64 ∧ 64 % n = 0 := by
  unfold lenB at h
  simp only [Bool.and_eq_true, decide_eq_true_eq] at h
  refine ⟨h.1, ?_, h.2⟩
  rcases Nat.lt_or_ge 64 n with h2 | h2
  · have := h.2
    rw [Nat.mod_eq_of_lt h2] at this
    omega
  · exact h2
def trOk (xs : List Int) : Bool := lenB xs.length && allB (-65536) 65536 xs
/-- sum of 2^14 products -/
theorem prod_bd {a b m q : Int} (h1 : -m ≤ a) (h2 : a ≤ m) (h3 : -q ≤ b) (h4 : b ≤ q) : -(m * q) ≤ a * b ∧ a * b ≤ m * q := by
  have hq : 0 ≤ q := by omega
  rcases Int.le_total 0 a with ha | ha
  · have e1 : a * b ≤ a * q := Int.mul_le_mul_of_nonneg_left h4 ha
    have e2 : a * q ≤ m * q := Int.mul_le_mul_of_nonneg_right h2 hq
    have e3 : a * -q ≤ a * b := Int.mul_le_mul_of_nonneg_left h3 ha
    rw [Int.mul_neg] at e3
    omega
  · have e1 : a * b ≤ a * -q := Int.mul_le_mul_of_nonpos_left ha h3
    have e2 : -m * q ≤ a * q := Int.mul_le_mul_of_nonneg_right h1 hq
    have e3 : a * q ≤ a * b := Int.mul_le_mul_of_nonpos_left ha h4
    rw [Int.mul_neg] at e1
    rw [Int.neg_mul] at e2
    omega
/-- what is left after i elements of element k -/
theorem trA_bd {xs : List Int} {n k i : Nat} (h : allB (-65536) 65536 xs = true) (hn : xs.length = n) (hn2 : n ≤ 64) (hi : i ≤ n) : -68719476736 ≤ sm i (fun i => xs.getD i 0 * cs ((2 * i + 1) * k * (64 / n))) ∧ sm i (fun i => xs.getD i 0 * cs ((2 * i + 1) * k * (64 / n))) ≤ 68719476736 := by
  have hb := sm_bd (n := i) (m := 1073741824) (f := fun i => xs.getD i 0 * cs ((2 * i + 1) * k * (64 / n))) (fun j hj => by
    have h1 := allB_get h (j := j) (by omega) rfl
    have h2 := cs_bd ((2 * j + 1) * k * (64 / n))
    exact prod_bd (m := 65536) (q := 16384) h1.1 h1.2 h2.1 h2.2)
  omega
end Go.Proofs.YtjpdgnbdbpgnmaaDoor
