import Derived.Test.YtjpdgnbdbpgnmaaDoorNum
namespace Go.Proofs.YtjpdgnbdbpgnmaaDoor.Fr.Num

/-- what holds while the digit q of (u * B + u1) / (y1 * B + y0) is guessed -/
structure Kn (B y1 y0 u u1 q r : Nat) : Prop where
  sum : q * y1 + r = u
  le : (u * B + u1) / (y1 * B + y0) ≤ q
  top : q ≤ B + 1

theorem kn_init {B y1 y0 u u1 : Nat} (hu : u < y1 * B + y0) (h1 : 0 < y1) (hh : y0 < B) (hy : B ≤ 2 * y1) (hu1 : u1 < B) : Kn B y1 y0 u u1 (u / y1) (u % y1) := by
  refine ⟨Nat.div_add_mod' u y1, ?_, ?_⟩
  · rw [Nat.le_div_iff_mul_le h1]
    have ha := Nat.div_mul_le_self (u * B + u1) (y1 * B + y0)
    generalize (u * B + u1) / (y1 * B + y0) = Q at *
    apply Nat.le_of_lt_succ
    apply Nat.lt_of_mul_lt_mul_right (a := B)
    have hb : Q * (y1 * B + y0) = Q * y1 * B + Q * y0 := by rw [Nat.mul_add, Nat.mul_assoc]
    have hc : (u + 1) * B = u * B + B := by rw [Nat.add_mul, Nat.one_mul]
    show _ < (u + 1) * B
    omega
  · apply Nat.le_of_lt_succ
    rw [Nat.div_lt_iff_lt_mul h1]
    have hb : (B + 1 + 1) * y1 = y1 * B + 2 * y1 := by rw [Nat.add_assoc, Nat.add_mul, Nat.mul_comm B]
    show _ < (B + 1 + 1) * y1
    omega

theorem kn_small {B y1 y0 u u1 : Nat} (hu : u < y1 * B + y0) (hu1 : u1 < B) : (u * B + u1) / (y1 * B + y0) < B := by
  rw [Nat.div_lt_iff_lt_mul (by omega)]
  have hc : (u + 1) * B ≤ (y1 * B + y0) * B := Nat.mul_le_mul_right B hu
  rw [Nat.add_mul, Nat.one_mul] at hc
  rw [Nat.mul_comm B]
  omega

theorem kn_step {B y1 y0 u u1 q r : Nat} (h : Kn B y1 y0 u u1 q r) (hu : u < y1 * B + y0) (hu1 : u1 < B) (hg : B ≤ q ∨ B * r + u1 < q * y0) :
    1 ≤ q ∧ q - 1 ≤ B ∧ Kn B y1 y0 u u1 (q - 1) (r + y1) := by
  obtain ⟨hs, hl, ht⟩ := h
  have hsm := kn_small hu hu1
  have hlt : (u * B + u1) / (y1 * B + y0) < q := by
    rcases hg with hg | hg
    · omega
    · rw [Nat.div_lt_iff_lt_mul (by omega)]
      have hb : q * (y1 * B + y0) = q * y1 * B + q * y0 := by rw [Nat.mul_add, Nat.mul_assoc]
      have hc : u * B = q * y1 * B + B * r := by rw [← hs, Nat.add_mul, Nat.mul_comm B r]
      omega
  have h1 : 1 ≤ q := Nat.lt_of_le_of_lt (Nat.zero_le _) hlt
  refine ⟨h1, by omega, ?_, Nat.le_sub_one_of_lt hlt, by omega⟩
  have hd : (q - 1) * y1 + y1 = q * y1 := by
    rw [← Nat.succ_mul]; congr 1; omega
  omega

theorem kn_done {B y1 y0 u u1 q r : Nat} (h : Kn B y1 y0 u u1 q r) (hu : u < y1 * B + y0) (hg : q * y0 ≤ B * r + u1) : q = (u * B + u1) / (y1 * B + y0) := by
  obtain ⟨hs, hl, ht⟩ := h
  apply Nat.le_antisymm _ hl
  rw [Nat.le_div_iff_mul_le (by omega)]
  have hb : q * (y1 * B + y0) = q * y1 * B + q * y0 := by rw [Nat.mul_add, Nat.mul_assoc]
  have hc : u * B = q * y1 * B + B * r := by rw [← hs, Nat.add_mul, Nat.mul_comm B r]
  omega

theorem kn_over {B y1 y0 u u1 q r : Nat} (h : Kn B y1 y0 u u1 q r) (hu : u < y1 * B + y0) (h0 : y0 < B) (hq : q ≤ B) (hr : B ≤ r) : q = (u * B + u1) / (y1 * B + y0) := by
  refine kn_done h hu ?_
  have ha : q * y0 ≤ B * y0 := Nat.mul_le_mul_right _ hq
  have hb : B * y0 ≤ B * r := Nat.mul_le_mul_left _ (by omega)
  omega

/-- one step's remainder, wrapped -/
theorem kn_rem {u u1 y q : Nat} (hy : y < 18446744073709551616) (hq : q = (u * 4294967296 + u1) / y) (h0 : 0 < y) :
    ((u : Int) * 4294967296 + u1 - q * y) % 18446744073709551616 = (((u * 4294967296 + u1) % y : Nat) : Int) := by
  have h1 := Nat.div_add_mod (u * 4294967296 + u1) y
  have h2 := Nat.mod_lt (u * 4294967296 + u1) h0
  rw [← hq] at h1
  generalize (u * 4294967296 + u1) % y = R at *
  have h4 : ((y * q : Nat) : Int) = (y : Int) * q := Int.natCast_mul y q
  rw [Int.mul_comm (q : Int)]
  generalize (y : Int) * q = P at *
  generalize y * q = P2 at *
  omega

/-- two digits of a quotient -/
theorem kn_two {B u a b y : Nat} (h0 : 0 < y) : (u * B + a) / y * B + ((u * B + a) % y * B + b) / y = (u * (B * B) + (a * B + b)) / y ∧
    ((u * B + a) % y * B + b) % y = (u * (B * B) + (a * B + b)) % y := by
  have e : u * (B * B) + (a * B + b) = y * ((u * B + a) / y * B) + ((u * B + a) % y * B + b) := by
    have h1 := Nat.div_add_mod (u * B + a) y
    have h2 : (u * B + a) * B = (y * ((u * B + a) / y) + (u * B + a) % y) * B := by rw [h1]
    rw [Nat.add_mul, Nat.add_mul, Nat.mul_assoc, Nat.mul_assoc] at h2
    omega
  rw [e, Nat.mul_add_div h0, Nat.mul_add_mod]
  exact ⟨rfl, rfl⟩

/-- a number and its divisor, shifted -/
theorem kn_shift {n y p : Nat} (hp : 0 < p) : n * p / (y * p) = n / y ∧ n * p % (y * p) / p = n % y := by
  refine ⟨Nat.mul_div_mul_right n y hp, ?_⟩
  rw [Nat.mul_mod_mul_right, Nat.mul_div_cancel _ hp]

end Go.Proofs.YtjpdgnbdbpgnmaaDoor.Fr.Num
