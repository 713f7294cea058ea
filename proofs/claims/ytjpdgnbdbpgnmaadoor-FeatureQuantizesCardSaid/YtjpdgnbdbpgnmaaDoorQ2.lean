import Derived.Test.YtjpdgnbdbpgnmaaDoorPC
import Derived.Test.YtjpdgnbdbpgnmaaDoorQ0
import Derived.Test.YtjpdgnbdbpgnmaaDoorShelf
import Derived.Laws.Bits64b
namespace Go.Proofs.YtjpdgnbdbpgnmaaDoor.Fr
open Go.RowKit Num

theorem bitLen_pow : ∀ x : Nat, 0 < x → x < 18446744073709551616 → ∃ k, Lib.bitLen x = k + 1 ∧ 2 ^ k ≤ x ∧ x < 2 ^ (k + 1) := by
  intro x
  induction x using Nat.strongRecOn with
  | ind x ih =>
    intro h0 hx
    rcases (show x = 1 ∨ 2 ≤ x by omega) with rfl | h2
    · exact ⟨0, by decide +kernel, by decide, by decide⟩
    · obtain ⟨k, e, h3, h4⟩ := ih (x / 2) (by omega) (by omega) (by omega)
      refine ⟨k + 1, ?_, ?_, ?_⟩
      · rw [Lib.bitLen_half x (by omega) (by omega), e]; omega
      · rw [Nat.pow_succ]; omega
      · rw [Nat.pow_succ]; omega

/-- the divisor and the dividend, shifted till the divisor's first bit is 1 -/
structure Sh (hi lo y s P Y y1 y0 U V u1 u0 : Nat) : Prop where
  s1 : s ≤ 63
  hP : Hid ((P : Int) = 2 ^ s)
  P0 : 0 < P
  eY : Y = y * P
  Yb : Y < 18446744073709551616
  Y2 : Y = y1 * 4294967296 + y0
  y0b : y0 < 4294967296
  y1a : 2147483648 ≤ y1
  y1b : y1 < 4294967296
  UY : U < Y
  u1b : u1 < 4294967296
  u0b : u0 < 4294967296
  eN : U * (4294967296 * 4294967296) + (u1 * 4294967296 + u0) = (hi * 18446744073709551616 + lo) * P
  hs : Hid (64 - (Lib.bitLen y : Int) = (s : Int))
  hY : Hid (IntKind.u64.wrap ((y : Int) * 2 ^ s) = (Y : Int))
  hd1 : Hid ((Y : Int) / 4294967296 = (y1 : Int))
  hd0 : Hid (bits .and .u64 (Y : Int) 4294967295 = (y0 : Int))
  hU : Hid (bits .or .u64 (IntKind.u64.wrap ((hi : Int) * 2 ^ s)) ((lo : Int) / 2 ^ (64 - s)) = (U : Int))
  hV : Hid (IntKind.u64.wrap ((lo : Int) * 2 ^ s) = (V : Int))
  hV1 : Hid ((V : Int) / 4294967296 = (u1 : Int))
  hV0 : Hid (bits .and .u64 (V : Int) 4294967295 = (u0 : Int))

theorem and_mask (a : Nat) (ha : a < 18446744073709551616) : bits .and .u64 (a : Int) 4294967295 = ((a % 4294967296 : Nat) : Int) := by
  have h := bits_and_u64_nat a 4294967295 ha (by omega)
  have e : a &&& 4294967295 = a % 4294967296 := Nat.and_two_pow_sub_one_eq_mod a 32
  rw [e] at h
  exact h

theorem sh_of (hi lo y : Nat) (h : hi < y) (hlo : lo ≤ 18446744073709551615) (hyb : y ≤ 18446744073709551615) :
    ∃ s P Y y1 y0 U V u1 u0, Sh hi lo y s P Y y1 y0 U V u1 u0 := by
  obtain ⟨k, ek, hk1, hk2⟩ := bitLen_pow y (by omega) (by omega)
  have hk : k ≤ 63 := by
    rcases Nat.lt_or_ge 63 k with h1 | h1
    · have := Nat.pow_le_pow_right (n := 2) (by decide) h1
      have e : (2 : Nat) ^ 64 = 18446744073709551616 := by decide
      omega
    · exact h1
  obtain ⟨s, hs⟩ : ∃ s, s = 63 - k := ⟨_, rfl⟩
  have hsk : k + s = 63 := by omega
  have e1 : 2 ^ k * 2 ^ s = 9223372036854775808 := by rw [← Nat.pow_add, hsk]
  have e2 : 2 ^ (k + 1) * 2 ^ s = 18446744073709551616 := by rw [← Nat.pow_add, show k + 1 + s = 64 by omega]
  have e3 : 2 ^ (64 - s) * 2 ^ s = 18446744073709551616 := by rw [← Nat.pow_add, show 64 - s + s = 64 by omega]
  have p0 : 0 < 2 ^ s := Nat.two_pow_pos s
  have pc : ((2 ^ s : Nat) : Int) = 2 ^ s := by rw [Int.natCast_pow]; rfl
  have qc : ((2 ^ (64 - s) : Nat) : Int) = 2 ^ (64 - s) := by rw [Int.natCast_pow]; rfl
  have g1 : 2 ^ k * 2 ^ s ≤ y * 2 ^ s := Nat.mul_le_mul_right _ hk1
  have g2 : y * 2 ^ s < 2 ^ (k + 1) * 2 ^ s := Nat.mul_lt_mul_of_pos_right hk2 p0
  have g3 : (hi + 1) * 2 ^ s ≤ y * 2 ^ s := Nat.mul_le_mul_right _ h
  rw [Nat.add_mul, Nat.one_mul] at g3
  have g4 : lo / 2 ^ (64 - s) < 2 ^ s := by
    rw [Nat.div_lt_iff_lt_mul (Nat.two_pow_pos _), Nat.mul_comm, e3]; omega
  have g5 : lo * 2 ^ s / 18446744073709551616 = lo / 2 ^ (64 - s) := by
    rw [← e3, Nat.mul_div_mul_right _ _ p0]
  have hor : hi * 2 ^ s ||| lo / 2 ^ (64 - s) = hi * 2 ^ s + lo / 2 ^ (64 - s) := by
    rw [Nat.mul_comm, ← Nat.two_pow_add_eq_or_of_lt g4]
  have hU : bits .or .u64 (IntKind.u64.wrap ((hi : Int) * 2 ^ s)) ((lo : Int) / 2 ^ (64 - s)) = ((hi * 2 ^ s + lo / 2 ^ (64 - s) : Nat) : Int) := by
    rw [← pc, ← qc, ← Int.natCast_mul, ← Int.natCast_ediv]
    rw [show IntKind.u64.wrap ((hi * 2 ^ s : Nat) : Int) = ((hi * 2 ^ s : Nat) : Int) from IntWalk.u64_in _ ⟨by omega, by omega⟩]
    rw [bits_or_u64_nat _ _ (by omega) (by omega), hor]
  have hV : IntKind.u64.wrap ((lo : Int) * 2 ^ s) = ((lo * 2 ^ s % 18446744073709551616 : Nat) : Int) := by
    rw [← pc, ← Int.natCast_mul, IntKind.wrap_u64]; omega
  have hY : IntKind.u64.wrap ((y : Int) * 2 ^ s) = ((y * 2 ^ s : Nat) : Int) := by
    rw [← pc, ← Int.natCast_mul]
    exact IntWalk.u64_in _ ⟨by omega, by omega⟩
  have eN : (hi * 2 ^ s + lo / 2 ^ (64 - s)) * 18446744073709551616 + lo * 2 ^ s % 18446744073709551616 = (hi * 18446744073709551616 + lo) * 2 ^ s := by
    rw [← g5, Nat.add_mul, Nat.add_mul, Nat.mul_right_comm]
    generalize hi * 18446744073709551616 * 2 ^ s = a
    omega
  refine ⟨s, 2 ^ s, y * 2 ^ s, y * 2 ^ s / 4294967296, y * 2 ^ s % 4294967296, hi * 2 ^ s + lo / 2 ^ (64 - s), lo * 2 ^ s % 18446744073709551616, lo * 2 ^ s % 18446744073709551616 / 4294967296, lo * 2 ^ s % 18446744073709551616 % 4294967296,
    by omega, Lib.hid pc, p0, rfl, by omega, by omega, by omega, by omega, by omega, ?_, by omega, by omega, ?_, ?_, Lib.hid hY, ?_, ?_, Lib.hid hU, Lib.hid hV, ?_, ?_⟩
  · omega
  · rw [← eN]; omega
  · refine Lib.hid ?_
    rw [ek]; omega
  · refine Lib.hid ?_
    omega
  · refine Lib.hid (and_mask _ (by omega))
  · refine Lib.hid ?_
    omega
  · refine Lib.hid (and_mask _ (by omega))

end Go.Proofs.YtjpdgnbdbpgnmaaDoor.Fr
