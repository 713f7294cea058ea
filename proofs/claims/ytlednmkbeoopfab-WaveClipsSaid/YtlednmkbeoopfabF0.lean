/- The document's own checks and its rounding. -/
import Derived.Test.YtlednmkbeoopfabK0
namespace Go.Proofs.Ytlednmkbeoopfab
open Go.RowKit

/-- is a list gone through by the laws? -/
def shB (n : Int) : Bool := decide (n ≤ 3000) || (decide (200000 < n) && decide (n < 250000))
theorem short_any (n : Int) (w : World) : Calls Try.prog 9 #[.int .i64 n] w fun e w' => e = .returned (.bool (shB n)) ∧ w = w' := by
  by_cases h1 : n ≤ 3000
  · have hv := Lib.hid (show shB n = true by unfold shB; rw [decide_eq_true h1]; rfl)
    go_enter Try.func9, Try.ntmps9
    go_wp2
    go_ret
    exact ⟨ret_bool hv.out.symm, rfl⟩
  · have h1d : decide (n ≤ 3000) = false := decide_eq_false h1
    by_cases h2 : 200000 < n
    · by_cases h3 : n < 250000
      · have hv := Lib.hid (show shB n = true by unfold shB; rw [decide_eq_true h2, decide_eq_true h3, Bool.and_self, Bool.or_true])
        go_enter Try.func9, Try.ntmps9
        go_wp2
        go_ret
        exact ⟨ret_bool hv.out.symm, rfl⟩
      · have h3d : decide (n < 250000) = false := decide_eq_false h3
        have hv := Lib.hid (show shB n = false by unfold shB; rw [h1d, h3d, Bool.and_false, Bool.or_false])
        go_enter Try.func9, Try.ntmps9
        go_wp2
        go_ret
        exact ⟨ret_bool hv.out.symm, rfl⟩
    · have h2d : decide (200000 < n) = false := decide_eq_false h2
      have hv := Lib.hid (show shB n = false by unfold shB; rw [h1d, h2d]; rfl)
      go_enter Try.func9, Try.ntmps9
      go_wp2
      go_ret
      exact ⟨ret_bool hv.out.symm, rfl⟩

set_option maxHeartbeats 800000 in
theorem All_any (A : Option Addr) (n c : Nat) (xs : List Int) (lo hi : Int) (w : World) (h : Sl .i64 w A n c xs) :
    Calls Try.prog 13 #[.slice A n c, .int .i64 lo, .int .i64 hi] w fun e w' => e = .returned (.bool (allB lo hi xs)) ∧ w = w' := by
  have hl := Lib.hid h.len
  have hcap := h.cap
  have htop := h.top
  go_enter Try.func13, Try.ntmps13
  go_wp2
  go_loop [7] (fun iv => ∃ k : Nat, k ≤ n ∧ iv = .int .i64 k ∧ Hid (allB lo hi (xs.take k) = true)) (fun iv => n - (intOf iv).toNat)
  case atStart => exact ⟨0, Nat.zero_le _, rfl, rfl⟩
  case round =>
    obtain ⟨k, hk, rfl, ha⟩ := hrel
    rcases Nat.lt_or_ge k n with hlt | hge
    · obtain ⟨ad, x, rfl, hc, hx⟩ := h.at_ hlt
      by_cases h1 : lo ≤ x
      · have h1d : decide (x < lo) = false := by simpa using h1
        by_cases h2 : x ≤ hi
        · have h2d : decide (hi < x) = false := by simpa using h2
          have hb := Lib.hid (okB_mk h1 h2)
          go_wp2
          go_round
          case rel => exact ⟨k + 1, by omega, by go_num, show _ = _ by rw [take_snocD (by rw [hl.out]; exact hlt) hx.out, allB_snoc, ha.out, hb.out]; rfl⟩
          case measure => simp [intOf]; omega
        · have hb := Lib.hid (okB_hi (lo := lo) h2)
          have h2' : hi < x := by omega
          go_wp2
          go_ret
          exact ⟨ret_bool (allB_no (by rw [hl.out]; exact hlt) hx.out hb.out).symm, rfl⟩
      · have hb := Lib.hid (okB_lo (hi := hi) h1)
        have h1' : x < lo := by omega
        go_wp2
        go_ret
        exact ⟨ret_bool (allB_no (by rw [hl.out]; exact hlt) hx.out hb.out).symm, rfl⟩
    · have hkn : k = n := by omega
      subst hkn
      go_wp2
      go_ret
      exact ⟨ret_bool (by rw [← ha.out, List.take_of_length_le (by rw [hl.out]; exact Nat.le_refl _)]), rfl⟩


end Go.Proofs.Ytlednmkbeoopfab
