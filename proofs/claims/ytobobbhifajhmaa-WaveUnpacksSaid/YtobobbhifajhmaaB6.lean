/- Bytes: numbers read back: the walks. -/
import Derived.Test.YtobobbhifajhmaaB5
namespace Go.Proofs.Ytobobbhifajhmaa
open Go.RowKit

theorem bits_or_i64_nat (a b : Nat) (ha : a < 9223372036854775808) (hb : b < 9223372036854775808) : bits .or .i64 (a : Int) (b : Int) = ((a ||| b : Nat) : Int) := by
  have hx : a ||| b < 2 ^ 63 := Nat.or_lt_two_pow (by omega) (by omega)
  have h1 : (BitVec.ofInt 64 (a : Int)).toNat = a := by
    rw [BitVec.ofInt_natCast, BitVec.toNat_ofNat]; exact Nat.mod_eq_of_lt (by omega)
  have h2 : (BitVec.ofInt 64 (b : Int)).toNat = b := by
    rw [BitVec.ofInt_natCast, BitVec.toNat_ofNat]; exact Nat.mod_eq_of_lt (by omega)
  show IntKind.i64.wrap ((BitVec.ofInt 64 (a : Int) ||| BitVec.ofInt 64 (b : Int)).toNat : Int) = _
  rw [BitVec.toNat_or, h1, h2, IntKind.wrap_i64]
  omega
theorem pow28 (k : Nat) : (2 : Nat) ^ (8 * k) = 256 ^ k := by rw [Nat.pow_mul]
theorem pow_le6 {k : Nat} (h : k ≤ 6) : 256 ^ k ≤ 281474976710656 := by
  have : (256 : Nat) ^ k ≤ 256 ^ 6 := Nat.pow_le_pow_right (by decide) h
  exact this
theorem or_step (s x : Int) (k : Nat) (hk : k ≤ 6) (h0 : 0 ≤ s) (h1 : s < 256 ^ k) (h2 : 0 ≤ x) (h3 : x ≤ 255) : bits .or .i64 s (wrap64 (x * 2 ^ (8 * k))) = s + x * 256 ^ k := by
  obtain ⟨a, rfl⟩ := Int.eq_ofNat_of_zero_le h0
  obtain ⟨b, rfl⟩ := Int.eq_ofNat_of_zero_le h2
  have hp := pow_le6 hk
  have e1 : ((256 : Int) ^ k) = ((256 ^ k : Nat) : Int) := by rw [Int.natCast_pow]; rfl
  have e2 : ((2 : Int) ^ (8 * k)) = ((256 ^ k : Nat) : Int) := by rw [← pow28, Int.natCast_pow]; rfl
  rw [e1] at h1 ⊢
  rw [e2, ← Int.natCast_mul, ← Int.natCast_add]
  have ha : a < 256 ^ k := by omega
  have hb : b * 256 ^ k ≤ 255 * 281474976710656 := Nat.mul_le_mul (by omega) hp
  have hw : wrap64 ((b * 256 ^ k : Nat) : Int) = ((b * 256 ^ k : Nat) : Int) := by unfold wrap64; omega
  rw [hw, bits_or_i64_nat _ _ (by omega) (by omega)]
  congr 1
  rw [← pow28] at ha ⊢
  have := Nat.shiftLeft_add_eq_or_of_lt ha b
  rw [Nat.shiftLeft_eq] at this
  rw [Nat.or_comm, ← this, Nat.add_comm]

set_option maxHeartbeats 1600000 in
set_option maxRecDepth 100000 in
theorem read_any (A : Option Addr) (n c : Nat) (bs : List Int) (size : Nat) (w : World) (h : Sl .u8 w A n c bs) (hb : byB bs) (hs : size ≤ n) (hs7 : size ≤ 7) :
    Calls Try.prog 68 #[.slice A n c, .int .i64 (size : Int)] w fun e w' => e = .returned (.int .i64 (rd bs size)) ∧ w = w' := by
  have hl := Lib.hid h.len
  have hcap := h.cap
  have htop := h.top
  have hb := Lib.hid hb
  have i0 : (size : Int) ≤ (c : Int) := by omega
  go_enter Try.func68, Try.ntmps68
  go_wp2
  go_loop [5, 12] (fun sv iv => ∃ k : Nat, k ≤ size ∧ iv = .int .i64 k ∧ sv = .int .i64 (rd bs k)) (fun _ iv => size - (intOf iv).toNat)
  case atStart => exact ⟨0, Nat.zero_le _, rfl, rfl⟩
  case round =>
    obtain ⟨k, hk, rfl, rfl⟩ := hrel
    rcases Nat.lt_or_ge k size with hlt | hge
    · obtain ⟨ad, x, rfl, hc, hx⟩ := h.at_ (show k < n by omega)
      have hxb := byB_get hb.out (by rw [hl.out]; omega) hx.out
      have hrb := rd_bd hb.out k (by rw [hl.out]; omega)
      have hnx := Lib.hid (show rd bs (k + 1) = rd bs k + x * 256 ^ k by rw [← hx.out]; rfl)
      have h1 := hxb.1
      have h2 := hxb.2
      have hrb' := Lib.hid hrb
      clear hxb hrb
      generalize rd bs k = s at *
      go_wp2
      go_round
      case rel => exact ⟨k + 1, by omega, by go_num, by rw [hnx.out, or_step _ _ _ (by omega) hrb'.out.1 hrb'.out.2 h1 h2]⟩
      case measure => simp [intOf]; omega
    · have hkn : k = size := by omega
      subst hkn
      go_wp2
      go_ret
      exact ⟨rfl, rfl⟩

/-- the number of bytes, from the first one on -/
def rdf : List Int → Int
  | [] => 0
  | x :: xs => 256 * rdf xs + x
theorem rdf_snoc (xs : List Int) (x : Int) : rdf (xs ++ [x]) = rdf xs + x * 256 ^ xs.length := by
  induction xs with
  | nil => show 256 * 0 + x = 0 + x * 1; omega
  | cons y xs ih =>
    show 256 * rdf (xs ++ [x]) + y = 256 * rdf xs + y + x * 256 ^ (xs.length + 1)
    rw [ih, Int.pow_succ, Int.mul_add, ← Int.mul_assoc x, Int.mul_comm 256 (x * 256 ^ xs.length)]
    omega
theorem rd_rdf {bs : List Int} : ∀ {k : Nat}, k ≤ bs.length → rd bs k = rdf (bs.take k)
  | 0, _ => by rw [List.take_zero]; rfl
  | k + 1, h => by
    rw [take_snocD (x := bs.getD k 0) (by omega) rfl, rdf_snoc, ← rd_rdf (k := k) (by omega), List.length_take, show min k bs.length = k by omega]
    rfl
theorem rdf_bd {bs : List Int} (hb : byB bs) : 0 ≤ rdf bs ∧ rdf bs < 256 ^ bs.length := by
  have h := rd_bd hb bs.length (Nat.le_refl _)
  rw [rd_rdf (Nat.le_refl _), List.take_length] at h
  exact h

set_option maxHeartbeats 1600000 in
set_option maxRecDepth 100000 in
theorem Rget_any (A : Option Addr) (n c : Nat) (bs : List Int) (w : World) (h : Sl .u8 w A n c bs) (hb : byB bs) (hn : n ≤ 6) :
    Calls Try.prog 69 #[.slice A n c] w fun e w' => e = .returned (.int .i64 (rdf bs)) ∧ w = w' := by
  have hl := Lib.hid h.len
  have hcap := h.cap
  have htop := h.top
  have hb := Lib.hid hb
  go_enter Try.func69, Try.ntmps69
  go_wp2
  go_loop [3, 4] (fun sv iv => ∃ j : Nat, j ≤ n ∧ iv = .int .i64 ((j : Int) - 1) ∧ sv = .int .i64 (rdf (bs.drop j))) (fun _ iv => (intOf iv + 1).toNat)
  case atStart => exact ⟨n, Nat.le_refl _, rfl, by rw [List.drop_of_length_le (by rw [hl.out]; exact Nat.le_refl _)]; rfl⟩
  case round =>
    obtain ⟨j, hj, rfl, rfl⟩ := hrel
    have hbd := rdf_bd (bs := bs.drop j) (fun b hx => hb.out b (List.mem_of_mem_drop hx))
    have hp : (256 : Int) ^ (bs.drop j).length ≤ 281474976710656 := by
      have h2 := pow_le6 (k := (bs.drop j).length) (by rw [List.length_drop, hl.out]; omega)
      have e1 : ((256 : Int) ^ (bs.drop j).length) = ((256 ^ (bs.drop j).length : Nat) : Int) := by rw [Int.natCast_pow]; rfl
      rw [e1]; omega
    have h0 := hbd.1
    have h1 : rdf (bs.drop j) < 281474976710656 := Int.lt_of_lt_of_le hbd.2 hp
    clear hbd hp
    rcases Nat.eq_zero_or_pos j with hz | hz
    · subst hz
      rw [List.drop_zero] at *
      go_wp2
      go_ret
      exact ⟨rfl, rfl⟩
    · obtain ⟨i, rfl⟩ : ∃ i, j = i + 1 := ⟨j - 1, by omega⟩
      obtain ⟨ad, x, rfl, hc, hx⟩ := h.at_ (show i < n by omega)
      have hxb := byB_get hb.out (by rw [hl.out]; omega) hx.out
      have h2 := hxb.1
      have h3 := hxb.2
      have hnx := Lib.hid (show rdf (bs.drop i) = 256 * rdf (bs.drop (i + 1)) + x by
        rw [List.drop_eq_getElem_cons (show i < bs.length by rw [hl.out]; omega)]
        rw [getD_in (show i < bs.length by rw [hl.out]; omega)] at hx
        rw [hx.out]; rfl)
      clear hxb
      generalize rdf (bs.drop (i + 1)) = s at *
      have hi2 : ((i + 1 : Nat) : Int) - 1 = (i : Int) := by omega
      rw [hi2]
      have i1 : (i : Int) < (n : Int) := by omega
      go_wp2
      go_round
      case rel => exact ⟨i, by omega, by go_num, by rw [hnx.out]⟩
      case measure => simp [intOf]
end Go.Proofs.Ytobobbhifajhmaa
