/- The theorem of logarithms: the law's walk. -/
import Derived.Test.YtjpdgnbdbpgnmaaDoorGK
namespace Go.Proofs.YtjpdgnbdbpgnmaaDoor
open Go.RowKit

abbrev YesF (w : World) (e : Ending) (w' : World) : Prop := e = .returned (.bool true) ∧ Below w.heap.size w w'

theorem bl_ge {x : Nat} (h : 0 < x) : 2 ^ (Fr.bl x - 1) ≤ x := by
  unfold Fr.bl
  rw [if_neg (by omega)]
  exact Nat.log2_self_le (by omega)
theorem bl_pos {x : Nat} (h : 0 < x) : 1 ≤ Fr.bl x := by
  unfold Fr.bl
  rw [if_neg (by omega)]
  omega
theorem bl_mono {x y : Nat} (h : x ≤ y) : Fr.bl x ≤ Fr.bl y := Fr.bl_le (Nat.lt_of_le_of_lt h (Fr.lt_bl y))
theorem bl_mul {x y : Nat} (hx : 0 < x) (hy : 0 < y) : Fr.bl (x * y) = Fr.bl x + Fr.bl y - 1 ∨ Fr.bl (x * y) = Fr.bl x + Fr.bl y := by
  have h1 : Fr.bl (x * y) ≤ Fr.bl x + Fr.bl y := Fr.bl_le (by rw [Nat.pow_add]; exact Nat.mul_lt_mul'' (Fr.lt_bl x) (Fr.lt_bl y))
  have h2 : Fr.bl x + Fr.bl y - 1 ≤ Fr.bl (x * y) := by
    have a1 := bl_ge hx
    have a2 := bl_ge hy
    have a3 := Nat.mul_le_mul a1 a2
    rw [← Nat.pow_add] at a3
    have p1 := bl_pos hx
    have p2 := bl_pos hy
    rcases Nat.lt_or_ge (Fr.bl (x * y)) (Fr.bl x + Fr.bl y - 1) with h | h
    · have b1 := Fr.lt_bl (x * y)
      have b2 : 2 ^ Fr.bl (x * y) ≤ 2 ^ (Fr.bl x - 1 + (Fr.bl y - 1)) := Nat.pow_le_pow_right (by decide) (by omega)
      omega
    · exact h
  omega
theorem bl_two (k x : Nat) (hx : 0 < x) : Fr.bl (2 ^ k * x) = k + Fr.bl x := by
  have := Fr.bl_shift hx (k := k) (y := 0) (Nat.pow_pos (by decide))
  rwa [Nat.zero_add] at this
theorem pow_pos16 {a : Nat} (h : 0 < a) : 0 < a ^ 16 := Nat.pow_pos h
theorem lg_pos {a : Nat} (h : 0 < a) : lg a = (Fr.bl (a ^ 16) : Nat) - 1 := by unfold lg; rw [if_neg (by omega)]
theorem lg_mono {a b : Nat} (h : 0 < a) (hab : a ≤ b) : lg a ≤ lg b := by
  rw [lg_pos h, lg_pos (by omega)]
  have := bl_mono (Nat.pow_le_pow_left hab 16)
  omega
theorem lg_two {a : Nat} (h : 0 < a) : lg (2 * a) = lg a + 16 := by
  rw [lg_pos h, lg_pos (by omega), Nat.mul_pow, bl_two 16 _ (pow_pos16 h)]
  omega
theorem lg_pow (p : Nat) : lg (2 ^ p) = 16 * p := by
  rw [lg_pos (Nat.pow_pos (by decide)), ← Nat.pow_mul]
  have := bl_two (p * 16) 1 (by decide)
  rw [Nat.mul_one] at this
  rw [this]
  have h1 : Fr.bl 1 = 1 := by decide
  omega
theorem lg_mul {a b : Nat} (h : 0 < a) (h' : 0 < b) : lg (a * b) = lg a + lg b ∨ lg (a * b) = lg a + lg b + 1 := by
  rw [lg_pos h, lg_pos h', lg_pos (Nat.mul_pos h h'), Nat.mul_pow]
  have p1 := bl_pos (pow_pos16 h)
  have p2 := bl_pos (pow_pos16 h')
  rcases bl_mul (pow_pos16 h) (pow_pos16 h') with e | e <;> rw [e] <;> omega
theorem lg_bd {a : Nat} (h : 0 < a) (hb : a ≤ 9223372036854775807) : 0 ≤ lg a ∧ lg a ≤ 2000 := by
  have h1 := lg_mono (a := 1) (b := a) (by decide) h
  have h2 := lg_mono (a := a) (b := 2 ^ 63) h (by omega)
  rw [lg_pow] at h2
  have e : lg 1 = 0 := lg_pow 0
  omega

set_option maxHeartbeats 4000000 in
set_option maxRecDepth 100000 in
theorem grows_law (a b power : Int) (w : World) (hT : Tab w) :
    Calls Tryd.prog 9 #[.int .i64 a, .int .i64 b, .int .i64 power] w (YesF w) := by
  have hcs : a < 1 ∨ (1 ≤ a ∧ 1073741824 < a) ∨ (1 ≤ a ∧ a ≤ 1073741824 ∧ b < 1) ∨ (1 ≤ a ∧ a ≤ 1073741824 ∧ 1 ≤ b ∧ 1073741824 < b) ∨ (1 ≤ a ∧ a ≤ 1073741824 ∧ 1 ≤ b ∧ b ≤ 1073741824 ∧ power < 0) ∨ (1 ≤ a ∧ a ≤ 1073741824 ∧ 1 ≤ b ∧ b ≤ 1073741824 ∧ 0 ≤ power ∧ 62 < power) ∨ (1 ≤ a ∧ a ≤ 1073741824 ∧ 1 ≤ b ∧ b ≤ 1073741824 ∧ 0 ≤ power ∧ power ≤ 62) := by omega
  rcases hcs with a1 | ⟨a1, a2⟩ | ⟨a1, a2, a3⟩ | ⟨a1, a2, a3, a4⟩ | ⟨a1, a2, a3, a4, a5⟩ | ⟨a1, a2, a3, a4, a5, a6⟩ | ⟨a1, a2, a3, a4, a5, a6⟩
  case inr.inr.inr.inr.inr.inr =>
    obtain ⟨A, rfl⟩ : ∃ A : Nat, a = (A : Int) := ⟨a.toNat, by omega⟩
    obtain ⟨B, rfl⟩ : ∃ B : Nat, b = (B : Int) := ⟨b.toNat, by omega⟩
    obtain ⟨p, rfl⟩ : ∃ p : Nat, power = (p : Int) := ⟨power.toNat, by omega⟩
    obtain ⟨M, hM⟩ : ∃ M, A * B = M := ⟨_, rfl⟩
    have hMi : (A : Int) * (B : Int) = (M : Int) := by rw [← hM, Int.natCast_mul]
    have hM1 : 1 ≤ M := by rw [← hM]; exact Nat.mul_pos (by omega) (by omega)
    have hM2 : M ≤ 1152921504606846976 := by rw [← hM]; exact Nat.mul_le_mul (show A ≤ 1073741824 by omega) (show B ≤ 1073741824 by omega)
    obtain ⟨Q, hQ⟩ : ∃ Q, 2 ^ p = Q := ⟨_, rfl⟩
    have hQi : (2 : Int) ^ p = (Q : Int) := by rw [← hQ, Int.natCast_pow]; rfl
    have hQ1 : 1 ≤ Q := by rw [← hQ]; exact Nat.pow_pos (by decide)
    have hQ2 : Q ≤ 4611686018427387904 := by
      rw [← hQ]
      have : 2 ^ p ≤ 2 ^ 62 := Nat.pow_le_pow_right (by decide) (by omega)
      omega
    have r1 : A ≤ B → lg A ≤ lg B := fun h => lg_mono (by omega) h
    have r2 : lg (2 * A) = lg A + 16 := lg_two (by omega)
    have r3 : lg Q = 16 * p := by rw [← hQ]; exact lg_pow p
    have r4 : lg M = lg A + lg B ∨ lg M = lg A + lg B + 1 := by rw [← hM]; exact lg_mul (by omega) (by omega)
    have r5 := lg_bd (a := A) (by omega) (by omega)
    have r6 := lg_bd (a := B) (by omega) (by omega)
    clear hM hQ
    have d1 : decide ((A : Int) < 1) = false := decide_eq_false (by omega)
    have d2 : decide (1073741824 < (A : Int)) = false := decide_eq_false (by omega)
    have d3 : decide ((B : Int) < 1) = false := decide_eq_false (by omega)
    have d4 : decide (1073741824 < (B : Int)) = false := decide_eq_false (by omega)
    have d5 : decide ((p : Int) < 0) = false := decide_eq_false (by omega)
    have d6 : decide (62 < (p : Int)) = false := decide_eq_false (by omega)
    go_enter Tryd.func9, Tryd.ntmps9
    go_wp2_with fail
    refine (Log_any (A : Int) w (by omega)).mono ?_
    rintro e w1 ⟨rfl, hb1⟩
    rw [if_neg (by omega), Int.toNat_natCast]
    go_wp2_with fail
    refine (Log_any (B : Int) w1 (by omega)).mono ?_
    rintro e w2 ⟨rfl, hb2⟩
    rw [if_neg (by omega), Int.toNat_natCast]
    have hb2 := hb1.trans (hb2.mono hb1.size)
    go_wp2_with fail
    refine (Log_any (M : Int) w2 (by omega)).mono ?_
    rintro e w3 ⟨rfl, hb3⟩
    rw [if_neg (by omega), Int.toNat_natCast]
    have hb3 := hb2.trans (hb3.mono hb2.size)
    go_wp2_with fail
    refine (Log_any (2 * (A : Int)) w3 (by omega)).mono ?_
    rintro e w4 ⟨rfl, hb4⟩
    rw [if_neg (by omega), show (2 * (A : Int)).toNat = 2 * A by omega]
    have hb4 := hb3.trans (hb4.mono hb3.size)
    go_wp2_with fail
    refine (Log_any (Q : Int) w4 (by omega)).mono ?_
    rintro e w5 ⟨rfl, hb5⟩
    rw [if_neg (by omega), Int.toNat_natCast]
    try rw [r3]
    have hb5 := hb4.trans (hb5.mono hb4.size)
    have hT5 := hT.below hb5
    clear r2 r3 hb1 hb2 hb3 hb4
    generalize lg A = x at *
    generalize lg B = y at *
    generalize lg M = z at *
    have hxy : (B < A) ∨ (¬ B < A ∧ x ≤ y) := by
      rcases Nat.lt_or_ge B A with h | h
      · exact .inl h
      · exact .inr ⟨by omega, r1 h⟩
    clear r1
    have hzz : (z == x + y) = true ∨ ((z == x + y) = false ∧ (z == x + y + 1) = true) := by
      rcases r4 with h | h
      · exact .inl (by simp [h])
      · exact .inr ⟨by rw [beq_eq_false_iff_ne]; omega, by simp [h]⟩
    clear r4
    rcases hxy with h | ⟨h, hle⟩
    case' inl => have e1 : decide ((B : Int) < (A : Int)) = true := decide_eq_true (by omega)
    case' inr =>
      have e1 : decide ((B : Int) < (A : Int)) = false := decide_eq_false (by omega)
      have e2 : decide (x ≤ y) = true := decide_eq_true hle
    all_goals rcases hzz with h2 | ⟨h2, h3⟩
    all_goals
      go_wp2_with fail
      refine (known_any _ hT5).mono ?_
      rintro e w7 ⟨rfl, hb7⟩
      go_wp2
      go_ret
      exact ⟨rfl, hb5.trans (hb7.mono hb5.size)⟩
  case' inl => have d1 : decide (a < 1) = true := decide_eq_true a1
  case' inr.inl =>
    have d1 : decide (a < 1) = false := decide_eq_false (by omega)
    have d2 : decide (1073741824 < a) = true := decide_eq_true a2
  case' inr.inr.inl =>
    have d1 : decide (a < 1) = false := decide_eq_false (by omega)
    have d2 : decide (1073741824 < a) = false := decide_eq_false (by omega)
    have d3 : decide (b < 1) = true := decide_eq_true a3
  case' inr.inr.inr.inl =>
    have d1 : decide (a < 1) = false := decide_eq_false (by omega)
    have d2 : decide (1073741824 < a) = false := decide_eq_false (by omega)
    have d3 : decide (b < 1) = false := decide_eq_false (by omega)
    have d4 : decide (1073741824 < b) = true := decide_eq_true a4
  case' inr.inr.inr.inr.inl =>
    have d1 : decide (a < 1) = false := decide_eq_false (by omega)
    have d2 : decide (1073741824 < a) = false := decide_eq_false (by omega)
    have d3 : decide (b < 1) = false := decide_eq_false (by omega)
    have d4 : decide (1073741824 < b) = false := decide_eq_false (by omega)
    have d5 : decide (power < 0) = true := decide_eq_true a5
  case' inr.inr.inr.inr.inr.inl =>
    have d1 : decide (a < 1) = false := decide_eq_false (by omega)
    have d2 : decide (1073741824 < a) = false := decide_eq_false (by omega)
    have d3 : decide (b < 1) = false := decide_eq_false (by omega)
    have d4 : decide (1073741824 < b) = false := decide_eq_false (by omega)
    have d5 : decide (power < 0) = false := decide_eq_false (by omega)
    have d6 : decide (62 < power) = true := decide_eq_true a6
  all_goals
    go_enter Tryd.func9, Tryd.ntmps9
    go_wp2_with fail
    refine (known_any _ hT).mono ?_
    rintro e w7 ⟨rfl, hb7⟩
    go_wp2
    go_ret
    exact ⟨rfl, hb7⟩
end Go.Proofs.YtjpdgnbdbpgnmaaDoor
