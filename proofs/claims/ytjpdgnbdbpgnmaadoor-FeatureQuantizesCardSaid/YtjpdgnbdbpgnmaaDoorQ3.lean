import Derived.Test.YtjpdgnbdbpgnmaaDoorQ2
namespace Go.Proofs.YtjpdgnbdbpgnmaaDoor.Fr
open Go.RowKit Num

/-- a digit's guess before a round -/
structure Gs (y1 y0 u u1 : Nat) (qv rv : Value) (q r : Nat) : Prop where
  qv : qv = .int .u64 (q : Int)
  rv : rv = .int .u64 (r : Int)
  rb : r < 4294967296
  k : Hid (Kn 4294967296 y1 y0 u u1 q r)
  q1 : q ≤ 4294967297

theorem mul_lt32 {a b : Nat} (ha : a < 4294967296) (hb : b < 4294967296) : a * b < 18446744073709551616 := by
  have h := Nat.mul_le_mul (show a ≤ 4294967295 by omega) (show b ≤ 4294967295 by omega)
  omega

/-- the first guess, as the walk spells it -/
theorem first_guess {u u1 y1 y0 Y : Nat} (hu : u < Y) (hY : Y = y1 * 4294967296 + y0) (hYb : Y < 18446744073709551616) (h0 : y0 < 4294967296) (h1 : 2147483648 ≤ y1) (h2 : y1 < 4294967296) (h3 : u1 < 4294967296) :
    ∃ q r m : Nat, IntKind.u64.wrap ((u : Int) / (y1 : Int)) = (q : Int) ∧ IntKind.u64.wrap ((q : Int) * (y1 : Int)) = (m : Int) ∧ IntKind.u64.wrap ((u : Int) - (m : Int)) = (r : Int) ∧
      r < 4294967296 ∧ q ≤ 4294967297 ∧ Kn 4294967296 y1 y0 u u1 q r := by
  have hk0 := kn_init (B := 4294967296) (u := u) (u1 := u1) (by omega : u < y1 * 4294967296 + y0) (by omega) h0 (by omega) h3
  have hrb := Nat.mod_lt u (show 0 < y1 by omega)
  have hqr := Nat.div_add_mod' u y1
  have hqt := hk0.top
  refine ⟨u / y1, u % y1, u / y1 * y1, ?_, ?_, ?_, by omega, by omega, hk0⟩
  · rw [← Int.natCast_ediv]
    generalize u / y1 = qq at *
    exact IntWalk.u64_in _ ⟨by omega, by omega⟩
  · rw [← Int.natCast_mul]
    generalize u / y1 * y1 = mm at *
    exact IntWalk.u64_in _ ⟨by omega, by omega⟩
  · rw [show (u : Int) - ((u / y1 * y1 : Nat) : Int) = ((u % y1 : Nat) : Int) by omega]
    exact IntWalk.u64_in _ ⟨by omega, by omega⟩

/-- the rest after a digit, as the walk spells it -/
theorem rest_after {u u1 Y q r : Nat} (hY : Y < 18446744073709551616) (h0 : 0 < Y) (hq : q = (u * 4294967296 + u1) / Y) (hr : r = (u * 4294967296 + u1) % Y) :
    ∃ A A2 A3 : Nat, IntKind.u64.wrap ((u : Int) * 4294967296) = (A : Int) ∧ IntKind.u64.wrap ((A : Int) + (u1 : Int)) = (A2 : Int) ∧ IntKind.u64.wrap ((q : Int) * (Y : Int)) = (A3 : Int) ∧
      IntKind.u64.wrap ((A2 : Int) - (A3 : Int)) = (r : Int) := by
  have hk := kn_rem hY hq h0
  rw [← hr] at hk
  refine ⟨u * 4294967296 % 18446744073709551616, (u * 4294967296 % 18446744073709551616 + u1) % 18446744073709551616, q * Y % 18446744073709551616, ?_, ?_, ?_, ?_⟩
  · rw [IntKind.wrap_u64]; omega
  · rw [IntKind.wrap_u64]; omega
  · rw [IntKind.wrap_u64, ← Int.natCast_mul]; omega
  · rw [IntKind.wrap_u64]
    rw [← Int.natCast_mul] at hk
    generalize q * Y = P at *
    omega

/-- the guard's numbers -/
theorem guard_nums {q r y0 u1 : Nat} (hq : q < 4294967296) (hr : r < 4294967296) (h0 : y0 < 4294967296) (h1 : u1 < 4294967296) :
    ∃ a b c : Nat, a = q * y0 ∧ c = 4294967296 * r + u1 ∧ IntKind.u64.wrap ((q : Int) * (y0 : Int)) = (a : Int) ∧ IntKind.u64.wrap (4294967296 * (r : Int)) = (b : Int) ∧ IntKind.u64.wrap ((b : Int) + (u1 : Int)) = (c : Int) := by
  have hm := mul_lt32 hq h0
  refine ⟨q * y0, 4294967296 * r, 4294967296 * r + u1, rfl, rfl, ?_, ?_, ?_⟩
  · rw [← Int.natCast_mul]
    generalize q * y0 = a at *
    exact IntWalk.u64_in _ ⟨by omega, by omega⟩
  · rw [show 4294967296 * (r : Int) = ((4294967296 * r : Nat) : Int) by omega]
    exact IntWalk.u64_in _ ⟨by omega, by omega⟩
  · rw [show ((4294967296 * r : Nat) : Int) + (u1 : Int) = ((4294967296 * r + u1 : Nat) : Int) by omega]
    exact IntWalk.u64_in _ ⟨by omega, by omega⟩

end Go.Proofs.YtjpdgnbdbpgnmaaDoor.Fr
