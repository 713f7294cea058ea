/- The document's own checks and its rounding. -/
import Derived.Test.YtobobbhifajhmaaK0
namespace Go.Proofs.Ytobobbhifajhmaa
open Go.RowKit

/-- is a list gone through by the laws? -/
def shB (n : Int) : Bool := decide (n ≤ 3000) || (decide (200000 < n) && decide (n < 250000))
theorem short_any (n : Int) (w : World) : Calls Try.prog 21 #[.int .i64 n] w fun e w' => e = .returned (.bool (shB n)) ∧ w = w' := by
  by_cases h1 : n ≤ 3000
  · have hv := Lib.hid (show shB n = true by unfold shB; rw [decide_eq_true h1]; rfl)
    go_enter Try.func21, Try.ntmps21
    go_wp2
    go_ret
    exact ⟨ret_bool hv.out.symm, rfl⟩
  · have h1d : decide (n ≤ 3000) = false := decide_eq_false h1
    by_cases h2 : 200000 < n
    · by_cases h3 : n < 250000
      · have hv := Lib.hid (show shB n = true by unfold shB; rw [decide_eq_true h2, decide_eq_true h3, Bool.and_self, Bool.or_true])
        go_enter Try.func21, Try.ntmps21
        go_wp2
        go_ret
        exact ⟨ret_bool hv.out.symm, rfl⟩
      · have h3d : decide (n < 250000) = false := decide_eq_false h3
        have hv := Lib.hid (show shB n = false by unfold shB; rw [h1d, h3d, Bool.and_false, Bool.or_false])
        go_enter Try.func21, Try.ntmps21
        go_wp2
        go_ret
        exact ⟨ret_bool hv.out.symm, rfl⟩
    · have h2d : decide (200000 < n) = false := decide_eq_false h2
      have hv := Lib.hid (show shB n = false by unfold shB; rw [h1d, h2d]; rfl)
      go_enter Try.func21, Try.ntmps21
      go_wp2
      go_ret
      exact ⟨ret_bool hv.out.symm, rfl⟩

set_option maxHeartbeats 800000 in
theorem All_any (A : Option Addr) (n c : Nat) (xs : List Int) (lo hi : Int) (w : World) (h : Sl .i64 w A n c xs) :
    Calls Try.prog 33 #[.slice A n c, .int .i64 lo, .int .i64 hi] w fun e w' => e = .returned (.bool (allB lo hi xs)) ∧ w = w' := by
  have hl := Lib.hid h.len
  have hcap := h.cap
  have htop := h.top
  go_enter Try.func33, Try.ntmps33
  go_wp2
  go_loop [7] (fun iv => ∃ k : Nat, k ≤ n ∧ iv = .int .i64 k ∧ Hid (allB lo hi (xs.take k) = true)) (fun iv => n - (intOf iv).toNat)
  case atStart => exact ⟨0, Nat.zero_le _, rfl, rfl⟩
  case round =>
    obtain ⟨k, hk, rfl, ha⟩ := hrel
    rcases Nat.lt_or_ge k n with hlt | hge
    · obtain ⟨ad, x, rfl, hc, hx⟩ := h.at_ hlt
      by_cases h1 : lo ≤ x
      · have h1d : decide (x < lo) = false := by simpa using h1
        by_cases h2 : x ≤ hi
        · have h2d : decide (hi < x) = false := by simpa using h2
          have hb := Lib.hid (okB_mk h1 h2)
          go_wp2
          go_round
          case rel => exact ⟨k + 1, by omega, by go_num, show _ = _ by rw [take_snocD (by rw [hl.out]; exact hlt) hx.out, allB_snoc, ha.out, hb.out]; rfl⟩
          case measure => simp [intOf]; omega
        · have hb := Lib.hid (okB_hi (lo := lo) h2)
          have h2' : hi < x := by omega
          go_wp2
          go_ret
          exact ⟨ret_bool (allB_no (by rw [hl.out]; exact hlt) hx.out hb.out).symm, rfl⟩
      · have hb := Lib.hid (okB_lo (hi := hi) h1)
        have h1' : x < lo := by omega
        go_wp2
        go_ret
        exact ⟨ret_bool (allB_no (by rw [hl.out]; exact hlt) hx.out hb.out).symm, rfl⟩
    · have hkn : k = n := by omega
      subst hkn
      go_wp2
      go_ret
      exact ⟨ret_bool (by rw [← ha.out, List.take_of_length_le (by rw [hl.out]; exact Nat.le_refl _)]), rfl⟩
theorem Values_any (A : Option Addr) (n c : Nat) (xs : List Int) (w : World) (h : Sl .i64 w A n c xs) :
    Calls Try.prog 40 #[.slice A n c] w fun e w' => e = .returned (.bool (valsB xs)) ∧ w = w' := by
  go_enter Try.func40, Try.ntmps40
  go_wp2_with (go_at_call 33; refine (All_any _ _ _ _ _ _ _ h).mono ?_; rintro e w' ⟨rfl, rfl⟩)
  go_ret
  exact ⟨rfl, rfl⟩

theorem Round_pos (a b : Int) (w : World) (ha : 0 ≤ a) (ha2 : a ≤ 4000000000000000000) (hb : 1 ≤ b) (hb2 : b ≤ 1000000000000000000) :
    Calls Try.prog 74 #[.int .i64 a, .int .i64 b] w fun e w' => e = .returned (.int .i64 (rnd a b)) ∧ w = w' := by
  have hh := Lib.hid (rnd_pos (b := b) ha)
  have hd : decide (a < 0) = false := by simpa using ha
  go_enter Try.func74, Try.ntmps74
  go_wp2
  go_ret
  exact ⟨ret_int hh.out.symm, rfl⟩
theorem Round_any (a b : Int) (w : World) (ha : -4000000000000000000 ≤ a) (ha2 : a ≤ 4000000000000000000) (hb : 1 ≤ b) (hb2 : b ≤ 1000000000000000000) :
    Calls Try.prog 74 #[.int .i64 a, .int .i64 b] w fun e w' => e = .returned (.int .i64 (rnd a b)) ∧ w = w' := by
  by_cases h0 : 0 ≤ a
  · exact Round_pos a b w h0 ha2 hb hb2
  · have hn : a < 0 := by omega
    have hh := Lib.hid (rnd_opp (b := b) hn)
    have hbd := Lib.hid (rnd_bd (a := -a) (by omega) hb)
    go_enter Try.func74, Try.ntmps74
    go_wp2_with fail
    refine (Round_pos _ _ _ (by omega) (by omega) hb hb2).mono ?_
    rintro e w' ⟨rfl, rfl⟩
    have hq1 := hbd.out.1
    have hq2 := hbd.out.2
    go_wp2
    go_ret
    exact ⟨ret_int hh.out.symm, rfl⟩

def shpB (num den : Int) : Bool := okB 1 1024 den && okB 0 den num
theorem Shape_any (num den : Int) (w : World) : Calls Try.prog 79 #[.int .i64 num, .int .i64 den] w fun e w' => e = .returned (.bool (shpB num den)) ∧ w = w' := by
  by_cases h1 : 1 ≤ den
  · have h1' : 0 < den := by omega
    by_cases h2 : den ≤ 1024
    · by_cases h3 : 0 ≤ num
      · by_cases h4 : num ≤ den
        · have hv := Lib.hid (show shpB num den = true by unfold shpB; rw [okB_mk h1 h2, okB_mk h3 h4]; rfl)
          go_enter Try.func79, Try.ntmps79
          go_wp2
          go_ret
          exact ⟨ret_bool hv.out.symm, rfl⟩
        · have hd : decide (num ≤ den) = false := decide_eq_false h4
          have hv := Lib.hid (show shpB num den = false by unfold shpB; rw [okB_hi (lo := 0) h4, Bool.and_false])
          go_enter Try.func79, Try.ntmps79
          go_wp2
          go_ret
          exact ⟨ret_bool hv.out.symm, rfl⟩
      · have hd : decide (0 ≤ num) = false := decide_eq_false h3
        have hv := Lib.hid (show shpB num den = false by unfold shpB; rw [okB_lo (hi := den) h3, Bool.and_false])
        go_enter Try.func79, Try.ntmps79
        go_wp2
        go_ret
        exact ⟨ret_bool hv.out.symm, rfl⟩
    · have hd : decide (den ≤ 1024) = false := decide_eq_false h2
      have hv := Lib.hid (show shpB num den = false by unfold shpB; rw [okB_hi (lo := 1) h2]; rfl)
      go_enter Try.func79, Try.ntmps79
      go_wp2
      go_ret
      exact ⟨ret_bool hv.out.symm, rfl⟩
  · have hd : decide (0 < den) = false := decide_eq_false (by omega)
    have hv := Lib.hid (show shpB num den = false by unfold shpB; rw [okB_lo (hi := 1024) h1]; rfl)
    go_enter Try.func79, Try.ntmps79
    go_wp2
    go_ret
    exact ⟨ret_bool hv.out.symm, rfl⟩
end Go.Proofs.Ytobobbhifajhmaa
