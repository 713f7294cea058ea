/- The peak. -/
import Derived.Test.YtnkkbohfhinemaaM0
namespace Go.Proofs.Ytnkkbohfhinemaa
open Go.RowKit

def ab (x : Int) : Int := if x < 0 then -x else x
/-- the peak of the first k elements, and its height -/
def pk (xs : List Int) : Nat → Int × Int
  | 0 => (-1, -1)
  | k + 1 => if (pk xs k).2 < ab (xs.getD k 0) then ((k : Int), ab (xs.getD k 0)) else pk xs k
theorem ab_nn (x : Int) : 0 ≤ ab x := by unfold ab; split <;> omega
theorem pk_cases (xs : List Int) : ∀ k : Nat, (k = 0 ∧ pk xs k = (-1, -1)) ∨ ∃ j : Nat, j < k ∧ pk xs k = ((j : Int), ab (xs.getD j 0))
  | 0 => .inl ⟨rfl, rfl⟩
  | k + 1 => by
    right
    show ∃ j : Nat, j < k + 1 ∧ (if (pk xs k).2 < ab (xs.getD k 0) then ((k : Int), ab (xs.getD k 0)) else pk xs k) = _
    by_cases h : (pk xs k).2 < ab (xs.getD k 0)
    · exact ⟨k, by omega, if_pos h⟩
    · rw [if_neg h]
      rcases pk_cases xs k with ⟨rfl, e⟩ | ⟨j, hj, e⟩
      · rw [e] at h
        have := ab_nn (xs.getD 0 0)
        exact absurd (show (-1 : Int) < _ by omega) h
      · exact ⟨j, by omega, e⟩

set_option maxHeartbeats 1600000 in
set_option maxRecDepth 100000 in
theorem Peak_ok (A : Option Addr) (n c : Nat) (xs : List Int) (w : World) (h : Sl .i64 w A n c xs) (hn : n ≤ 200000) (hall : allB (-2147483647) 2147483647 xs = true) (hk : chk (-2147483647) 2147483647 xs = 0) :
    Calls Try.prog 47 #[.slice A n c] w fun e w' => e = .returned (.tuple #[.int .i64 (pk xs n).1, .int .i64 0]) ∧ w = w' := by
  have hl := Lib.hid h.len
  have hcap := h.cap
  have htop := h.top
  have hall := Lib.hid hall
  go_enter Try.func47, Try.ntmps47
  go_wp2_with (go_at_call 80; refine (checkValues_any _ _ _ _ _ h).mono ?_; rintro e w' ⟨he, rfl⟩; rw [hk] at he; subst he)
  go_loop [5, 6, 17] (fun pv hv iv => ∃ k : Nat, k ≤ n ∧ iv = .int .i64 k ∧ ∃ p q : Int, pv = .int .i64 p ∧ hv = .int .i64 q ∧ Hid (pk xs k = (p, q)) ∧ -1 ≤ q) (fun _ _ iv => n - (intOf iv).toNat)
  case atStart => exact ⟨0, Nat.zero_le _, rfl, -1, -1, rfl, rfl, rfl, by omega⟩
  case round =>
    obtain ⟨k, hkn, rfl, p, q, rfl, rfl, hpq, hq⟩ := hrel
    rcases Nat.lt_or_ge k n with hlt | hge
    · obtain ⟨ad, x, rfl, hc, hx⟩ := h.at_ hlt
      have hxb := allB_get hall.out (by rw [hl.out]; exact hlt) hx.out
      have hx1 := hxb.1
      have hx2 := hxb.2
      clear hxb
      have hs := Lib.hid (show pk xs (k + 1) = if q < ab x then ((k : Int), ab x) else (p, q) by
        show (if (pk xs k).2 < ab (xs.getD k 0) then ((k : Int), ab (xs.getD k 0)) else pk xs k) = _
        rw [hpq.out, hx.out])
      by_cases h1 : x < 0
      · have ha := Lib.hid (show ab x = -x from if_pos h1)
        by_cases h2 : q < -x
        · go_wp2
          go_round
          case rel => exact ⟨k + 1, hlt, by go_num, k, -x, rfl, by go_num, show _ = _ by rw [hs.out, ha.out, if_pos h2], by omega⟩
          case measure => simp [intOf]; omega
        · have h2d : decide (q < -x) = false := decide_eq_false h2
          go_wp2
          go_round
          case rel => exact ⟨k + 1, hlt, by go_num, p, q, rfl, rfl, show _ = _ by rw [hs.out, ha.out, if_neg h2], by omega⟩
          case measure => simp [intOf]; omega
      · have ha := Lib.hid (show ab x = x from if_neg h1)
        by_cases h2 : q < x
        · go_wp2
          go_round
          case rel => exact ⟨k + 1, hlt, by go_num, k, x, rfl, by go_num, show _ = _ by rw [hs.out, ha.out, if_pos h2], by omega⟩
          case measure => simp [intOf]; omega
        · have h2d : decide (q < x) = false := decide_eq_false h2
          go_wp2
          go_round
          case rel => exact ⟨k + 1, hlt, by go_num, p, q, rfl, rfl, show _ = _ by rw [hs.out, ha.out, if_neg h2], by omega⟩
          case measure => simp [intOf]; omega
    · have hkn : k = n := by omega
      subst hkn
      go_wp2
      go_ret2
      exact ⟨by rw [hpq.out]; rfl, rfl⟩
end Go.Proofs.Ytnkkbohfhinemaa
