import Derived.Test.YtoljffghaklpdaaDoorNum
import Derived.Test.YtoljffghaklpdaaDoorP7
import Derived.Test.YtoljffghaklpdaaDoorShelf
import Derived.Laws.Bits64b

namespace Go.Proofs.YtoljffghaklpdaaDoor.Fr.Num

/-- what holds while the digit q of (u * B + u1) / (y1 * B + y0) is guessed -/
structure Kn (B y1 y0 u u1 q r : Nat) : Prop where
  sum : q * y1 + r = u
  le : (u * B + u1) / (y1 * B + y0) ≤ q
  top : q ≤ B + 1

theorem kn_init {B y1 y0 u u1 : Nat} (hu : u < y1 * B + y0) (h1 : 0 < y1) (hh : y0 < B) (hy : B ≤ 2 * y1) (hu1 : u1 < B) : Kn B y1 y0 u u1 (u / y1) (u % y1) := by
  refine ⟨Nat.div_add_mod' u y1, ?_, ?_⟩
  · rw [Nat.le_div_iff_mul_le h1]
    have ha := Nat.div_mul_le_self (u * B + u1) (y1 * B + y0)
    generalize (u * B + u1) / (y1 * B + y0) = Q at *
    apply Nat.le_of_lt_succ
    apply Nat.lt_of_mul_lt_mul_right (a := B)
    have hb : Q * (y1 * B + y0) = Q * y1 * B + Q * y0 := by rw [Nat.mul_add, Nat.mul_assoc]
    have hc : (u + 1) * B = u * B + B := by rw [Nat.add_mul, Nat.one_mul]
    show _ < (u + 1) * B
    omega
  · apply Nat.le_of_lt_succ
    rw [Nat.div_lt_iff_lt_mul h1]
    have hb : (B + 1 + 1) * y1 = y1 * B + 2 * y1 := by rw [Nat.add_assoc, Nat.add_mul, Nat.mul_comm B]
    show _ < (B + 1 + 1) * y1
    omega

theorem kn_small {B y1 y0 u u1 : Nat} (hu : u < y1 * B + y0) (hu1 : u1 < B) : (u * B + u1) / (y1 * B + y0) < B := by
  rw [Nat.div_lt_iff_lt_mul (by omega)]
  have hc : (u + 1) * B ≤ (y1 * B + y0) * B := Nat.mul_le_mul_right B hu
  rw [Nat.add_mul, Nat.one_mul] at hc
  rw [Nat.mul_comm B]
  omega

theorem kn_step {B y1 y0 u u1 q r : Nat} (h : Kn B y1 y0 u u1 q r) (hu : u < y1 * B + y0) (hu1 : u1 < B) (hg : B ≤ q ∨ B * r + u1 < q * y0) :
    1 ≤ q ∧ q - 1 ≤ B ∧ Kn B y1 y0 u u1 (q - 1) (r + y1) := by
  obtain ⟨hs, hl, ht⟩ := h
  have hsm := kn_small hu hu1
  have hlt : (u * B + u1) / (y1 * B + y0) < q := by
    rcases hg with hg | hg
    · omega
    · rw [Nat.div_lt_iff_lt_mul (by omega)]
      have hb : q * (y1 * B + y0) = q * y1 * B + q * y0 := by rw [Nat.mul_add, Nat.mul_assoc]
      have hc : u * B = q * y1 * B + B * r := by rw [← hs, Nat.add_mul, Nat.mul_comm B r]
      omega
  have h1 : 1 ≤ q := Nat.lt_of_le_of_lt (Nat.zero_le _) hlt
  refine ⟨h1, by omega, ?_, Nat.le_sub_one_of_lt hlt, by omega⟩
  have hd : (q - 1) * y1 + y1 = q * y1 := by
    rw [← Nat.succ_mul]; congr 1; omega
  omega

theorem kn_done {B y1 y0 u u1 q r : Nat} (h : Kn B y1 y0 u u1 q r) (hu : u < y1 * B + y0) (hg : q * y0 ≤ B * r + u1) : q = (u * B + u1) / (y1 * B + y0) := by
  obtain ⟨hs, hl, ht⟩ := h
  apply Nat.le_antisymm _ hl
  rw [Nat.le_div_iff_mul_le (by omega)]
  have hb : q * (y1 * B + y0) = q * y1 * B + q * y0 := by rw [Nat.mul_add, Nat.mul_assoc]
  have hc : u * B = q * y1 * B + B * r := by rw [← hs, Nat.add_mul, Nat.mul_comm B r]
  omega

theorem kn_over {B y1 y0 u u1 q r : Nat} (h : Kn B y1 y0 u u1 q r) (hu : u < y1 * B + y0) (h0 : y0 < B) (hq : q ≤ B) (hr : B ≤ r) : q = (u * B + u1) / (y1 * B + y0) := by
  refine kn_done h hu ?_
  have ha : q * y0 ≤ B * y0 := Nat.mul_le_mul_right _ hq
  have hb : B * y0 ≤ B * r := Nat.mul_le_mul_left _ (by omega)
  omega

/-- one step's remainder, wrapped -/
theorem kn_rem {u u1 y q : Nat} (hy : y < 18446744073709551616) (hq : q = (u * 4294967296 + u1) / y) (h0 : 0 < y) :
    ((u : Int) * 4294967296 + u1 - q * y) % 18446744073709551616 = (((u * 4294967296 + u1) % y : Nat) : Int) := by
  have h1 := Nat.div_add_mod (u * 4294967296 + u1) y
  have h2 := Nat.mod_lt (u * 4294967296 + u1) h0
  rw [← hq] at h1
  generalize (u * 4294967296 + u1) % y = R at *
  have h4 : ((y * q : Nat) : Int) = (y : Int) * q := Int.natCast_mul y q
  rw [Int.mul_comm (q : Int)]
  generalize (y : Int) * q = P at *
  generalize y * q = P2 at *
  omega

/-- two digits of a quotient -/
theorem kn_two {B u a b y : Nat} (h0 : 0 < y) : (u * B + a) / y * B + ((u * B + a) % y * B + b) / y = (u * (B * B) + (a * B + b)) / y ∧
    ((u * B + a) % y * B + b) % y = (u * (B * B) + (a * B + b)) % y := by
  have e : u * (B * B) + (a * B + b) = y * ((u * B + a) / y * B) + ((u * B + a) % y * B + b) := by
    have h1 := Nat.div_add_mod (u * B + a) y
    have h2 : (u * B + a) * B = (y * ((u * B + a) / y) + (u * B + a) % y) * B := by rw [h1]
    rw [Nat.add_mul, Nat.add_mul, Nat.mul_assoc, Nat.mul_assoc] at h2
    omega
  rw [e, Nat.mul_add_div h0, Nat.mul_add_mod]
  exact ⟨rfl, rfl⟩

/-- a number and its divisor, shifted -/
theorem kn_shift {n y p : Nat} (hp : 0 < p) : n * p / (y * p) = n / y ∧ n * p % (y * p) / p = n % y := by
  refine ⟨Nat.mul_div_mul_right n y hp, ?_⟩
  rw [Nat.mul_mod_mul_right, Nat.mul_div_cancel _ hp]

end Go.Proofs.YtoljffghaklpdaaDoor.Fr.Num


namespace Go.Proofs.YtoljffghaklpdaaDoor.Fr
open Go.RowKit Num

theorem bitLen_pow : ∀ x : Nat, 0 < x → x < 18446744073709551616 → ∃ k, Lib.bitLen x = k + 1 ∧ 2 ^ k ≤ x ∧ x < 2 ^ (k + 1) := by
  intro x
  induction x using Nat.strongRecOn with
  | ind x ih =>
    intro h0 hx
    rcases (show x = 1 ∨ 2 ≤ x by omega) with rfl | h2
    · exact ⟨0, by decide +kernel, by decide, by decide⟩
    · obtain ⟨k, e, h3, h4⟩ := ih (x / 2) (by omega) (by omega) (by omega)
      refine ⟨k + 1, ?_, ?_, ?_⟩
      · rw [Lib.bitLen_half x (by omega) (by omega), e]; omega
      · rw [Nat.pow_succ]; omega
      · rw [Nat.pow_succ]; omega

/-- the divisor and the dividend, shifted till the divisor's first bit is 1 -/
structure Sh (hi lo y s P Y y1 y0 U V u1 u0 : Nat) : Prop where
  s1 : s ≤ 63
  hP : Hid ((P : Int) = 2 ^ s)
  P0 : 0 < P
  eY : Y = y * P
  Yb : Y < 18446744073709551616
  Y2 : Y = y1 * 4294967296 + y0
  y0b : y0 < 4294967296
  y1a : 2147483648 ≤ y1
  y1b : y1 < 4294967296
  UY : U < Y
  u1b : u1 < 4294967296
  u0b : u0 < 4294967296
  eN : U * (4294967296 * 4294967296) + (u1 * 4294967296 + u0) = (hi * 18446744073709551616 + lo) * P
  hs : Hid (64 - (Lib.bitLen y : Int) = (s : Int))
  hY : Hid (IntKind.u64.wrap ((y : Int) * 2 ^ s) = (Y : Int))
  hd1 : Hid ((Y : Int) / 4294967296 = (y1 : Int))
  hd0 : Hid (bits .and .u64 (Y : Int) 4294967295 = (y0 : Int))
  hU : Hid (bits .or .u64 (IntKind.u64.wrap ((hi : Int) * 2 ^ s)) ((lo : Int) / 2 ^ (64 - s)) = (U : Int))
  hV : Hid (IntKind.u64.wrap ((lo : Int) * 2 ^ s) = (V : Int))
  hV1 : Hid ((V : Int) / 4294967296 = (u1 : Int))
  hV0 : Hid (bits .and .u64 (V : Int) 4294967295 = (u0 : Int))

theorem and_mask (a : Nat) (ha : a < 18446744073709551616) : bits .and .u64 (a : Int) 4294967295 = ((a % 4294967296 : Nat) : Int) := by
  have h := bits_and_u64_nat a 4294967295 ha (by omega)
  have e : a &&& 4294967295 = a % 4294967296 := Nat.and_two_pow_sub_one_eq_mod a 32
  rw [e] at h
  exact h

theorem sh_of (hi lo y : Nat) (h : hi < y) (hlo : lo ≤ 18446744073709551615) (hyb : y ≤ 18446744073709551615) :
    ∃ s P Y y1 y0 U V u1 u0, Sh hi lo y s P Y y1 y0 U V u1 u0 := by
  obtain ⟨k, ek, hk1, hk2⟩ := bitLen_pow y (by omega) (by omega)
  have hk : k ≤ 63 := by
    rcases Nat.lt_or_ge 63 k with h1 | h1
    · have := Nat.pow_le_pow_right (n := 2) (by decide) h1
      have e : (2 : Nat) ^ 64 = 18446744073709551616 := by decide
      omega
    · exact h1
  obtain ⟨s, hs⟩ : ∃ s, s = 63 - k := ⟨_, rfl⟩
  have hsk : k + s = 63 := by omega
  have e1 : 2 ^ k * 2 ^ s = 9223372036854775808 := by rw [← Nat.pow_add, hsk]
  have e2 : 2 ^ (k + 1) * 2 ^ s = 18446744073709551616 := by rw [← Nat.pow_add, show k + 1 + s = 64 by omega]
  have e3 : 2 ^ (64 - s) * 2 ^ s = 18446744073709551616 := by rw [← Nat.pow_add, show 64 - s + s = 64 by omega]
  have p0 : 0 < 2 ^ s := Nat.two_pow_pos s
  have pc : ((2 ^ s : Nat) : Int) = 2 ^ s := by rw [Int.natCast_pow]; rfl
  have qc : ((2 ^ (64 - s) : Nat) : Int) = 2 ^ (64 - s) := by rw [Int.natCast_pow]; rfl
  have g1 : 2 ^ k * 2 ^ s ≤ y * 2 ^ s := Nat.mul_le_mul_right _ hk1
  have g2 : y * 2 ^ s < 2 ^ (k + 1) * 2 ^ s := Nat.mul_lt_mul_of_pos_right hk2 p0
  have g3 : (hi + 1) * 2 ^ s ≤ y * 2 ^ s := Nat.mul_le_mul_right _ h
  rw [Nat.add_mul, Nat.one_mul] at g3
  have g4 : lo / 2 ^ (64 - s) < 2 ^ s := by
    rw [Nat.div_lt_iff_lt_mul (Nat.two_pow_pos _), Nat.mul_comm, e3]; omega
  have g5 : lo * 2 ^ s / 18446744073709551616 = lo / 2 ^ (64 - s) := by
    rw [← e3, Nat.mul_div_mul_right _ _ p0]
  have hor : hi * 2 ^ s ||| lo / 2 ^ (64 - s) = hi * 2 ^ s + lo / 2 ^ (64 - s) := by
    rw [Nat.mul_comm, ← Nat.two_pow_add_eq_or_of_lt g4]
  have hU : bits .or .u64 (IntKind.u64.wrap ((hi : Int) * 2 ^ s)) ((lo : Int) / 2 ^ (64 - s)) = ((hi * 2 ^ s + lo / 2 ^ (64 - s) : Nat) : Int) := by
    rw [← pc, ← qc, ← Int.natCast_mul, ← Int.natCast_ediv]
    rw [show IntKind.u64.wrap ((hi * 2 ^ s : Nat) : Int) = ((hi * 2 ^ s : Nat) : Int) from IntWalk.u64_in _ ⟨by omega, by omega⟩]
    rw [bits_or_u64_nat _ _ (by omega) (by omega), hor]
  have hV : IntKind.u64.wrap ((lo : Int) * 2 ^ s) = ((lo * 2 ^ s % 18446744073709551616 : Nat) : Int) := by
    rw [← pc, ← Int.natCast_mul, IntKind.wrap_u64]; omega
  have hY : IntKind.u64.wrap ((y : Int) * 2 ^ s) = ((y * 2 ^ s : Nat) : Int) := by
    rw [← pc, ← Int.natCast_mul]
    exact IntWalk.u64_in _ ⟨by omega, by omega⟩
  have eN : (hi * 2 ^ s + lo / 2 ^ (64 - s)) * 18446744073709551616 + lo * 2 ^ s % 18446744073709551616 = (hi * 18446744073709551616 + lo) * 2 ^ s := by
    rw [← g5, Nat.add_mul, Nat.add_mul, Nat.mul_right_comm]
    generalize hi * 18446744073709551616 * 2 ^ s = a
    omega
  refine ⟨s, 2 ^ s, y * 2 ^ s, y * 2 ^ s / 4294967296, y * 2 ^ s % 4294967296, hi * 2 ^ s + lo / 2 ^ (64 - s), lo * 2 ^ s % 18446744073709551616, lo * 2 ^ s % 18446744073709551616 / 4294967296, lo * 2 ^ s % 18446744073709551616 % 4294967296,
    by omega, Lib.hid pc, p0, rfl, by omega, by omega, by omega, by omega, by omega, ?_, by omega, by omega, ?_, ?_, Lib.hid hY, ?_, ?_, Lib.hid hU, Lib.hid hV, ?_, ?_⟩
  · omega
  · rw [← eN]; omega
  · refine Lib.hid ?_
    rw [ek]; omega
  · refine Lib.hid ?_
    omega
  · refine Lib.hid (and_mask _ (by omega))
  · refine Lib.hid ?_
    omega
  · refine Lib.hid (and_mask _ (by omega))

end Go.Proofs.YtoljffghaklpdaaDoor.Fr


namespace Go.Proofs.YtoljffghaklpdaaDoor.Fr
open Go.RowKit Num

/-- a digit's guess before a round -/
structure Gs (y1 y0 u u1 : Nat) (qv rv : Value) (q r : Nat) : Prop where
  qv : qv = .int .u64 (q : Int)
  rv : rv = .int .u64 (r : Int)
  rb : r < 4294967296
  k : Hid (Kn 4294967296 y1 y0 u u1 q r)
  q1 : q ≤ 4294967297

theorem mul_lt32 {a b : Nat} (ha : a < 4294967296) (hb : b < 4294967296) : a * b < 18446744073709551616 := by
  have h := Nat.mul_le_mul (show a ≤ 4294967295 by omega) (show b ≤ 4294967295 by omega)
  omega

/-- the first guess, as the walk spells it -/
theorem first_guess {u u1 y1 y0 Y : Nat} (hu : u < Y) (hY : Y = y1 * 4294967296 + y0) (hYb : Y < 18446744073709551616) (h0 : y0 < 4294967296) (h1 : 2147483648 ≤ y1) (h2 : y1 < 4294967296) (h3 : u1 < 4294967296) :
    ∃ q r m : Nat, IntKind.u64.wrap ((u : Int) / (y1 : Int)) = (q : Int) ∧ IntKind.u64.wrap ((q : Int) * (y1 : Int)) = (m : Int) ∧ IntKind.u64.wrap ((u : Int) - (m : Int)) = (r : Int) ∧
      r < 4294967296 ∧ q ≤ 4294967297 ∧ Kn 4294967296 y1 y0 u u1 q r := by
  have hk0 := kn_init (B := 4294967296) (u := u) (u1 := u1) (by omega : u < y1 * 4294967296 + y0) (by omega) h0 (by omega) h3
  have hrb := Nat.mod_lt u (show 0 < y1 by omega)
  have hqr := Nat.div_add_mod' u y1
  have hqt := hk0.top
  refine ⟨u / y1, u % y1, u / y1 * y1, ?_, ?_, ?_, by omega, by omega, hk0⟩
  · rw [← Int.natCast_ediv]
    generalize u / y1 = qq at *
    exact IntWalk.u64_in _ ⟨by omega, by omega⟩
  · rw [← Int.natCast_mul]
    generalize u / y1 * y1 = mm at *
    exact IntWalk.u64_in _ ⟨by omega, by omega⟩
  · rw [show (u : Int) - ((u / y1 * y1 : Nat) : Int) = ((u % y1 : Nat) : Int) by omega]
    exact IntWalk.u64_in _ ⟨by omega, by omega⟩

/-- the rest after a digit, as the walk spells it -/
theorem rest_after {u u1 Y q r : Nat} (hY : Y < 18446744073709551616) (h0 : 0 < Y) (hq : q = (u * 4294967296 + u1) / Y) (hr : r = (u * 4294967296 + u1) % Y) :
    ∃ A A2 A3 : Nat, IntKind.u64.wrap ((u : Int) * 4294967296) = (A : Int) ∧ IntKind.u64.wrap ((A : Int) + (u1 : Int)) = (A2 : Int) ∧ IntKind.u64.wrap ((q : Int) * (Y : Int)) = (A3 : Int) ∧
      IntKind.u64.wrap ((A2 : Int) - (A3 : Int)) = (r : Int) := by
  have hk := kn_rem hY hq h0
  rw [← hr] at hk
  refine ⟨u * 4294967296 % 18446744073709551616, (u * 4294967296 % 18446744073709551616 + u1) % 18446744073709551616, q * Y % 18446744073709551616, ?_, ?_, ?_, ?_⟩
  · rw [IntKind.wrap_u64]; omega
  · rw [IntKind.wrap_u64]; omega
  · rw [IntKind.wrap_u64, ← Int.natCast_mul]; omega
  · rw [IntKind.wrap_u64]
    rw [← Int.natCast_mul] at hk
    generalize q * Y = P at *
    omega

/-- the guard's numbers -/
theorem guard_nums {q r y0 u1 : Nat} (hq : q < 4294967296) (hr : r < 4294967296) (h0 : y0 < 4294967296) (h1 : u1 < 4294967296) :
    ∃ a b c : Nat, a = q * y0 ∧ c = 4294967296 * r + u1 ∧ IntKind.u64.wrap ((q : Int) * (y0 : Int)) = (a : Int) ∧ IntKind.u64.wrap (4294967296 * (r : Int)) = (b : Int) ∧ IntKind.u64.wrap ((b : Int) + (u1 : Int)) = (c : Int) := by
  have hm := mul_lt32 hq h0
  refine ⟨q * y0, 4294967296 * r, 4294967296 * r + u1, rfl, rfl, ?_, ?_, ?_⟩
  · rw [← Int.natCast_mul]
    generalize q * y0 = a at *
    exact IntWalk.u64_in _ ⟨by omega, by omega⟩
  · rw [show 4294967296 * (r : Int) = ((4294967296 * r : Nat) : Int) by omega]
    exact IntWalk.u64_in _ ⟨by omega, by omega⟩
  · rw [show ((4294967296 * r : Nat) : Int) + (u1 : Int) = ((4294967296 * r + u1 : Nat) : Int) by omega]
    exact IntWalk.u64_in _ ⟨by omega, by omega⟩

end Go.Proofs.YtoljffghaklpdaaDoor.Fr
