/- Equality of lists; the segments of a list. -/
import Derived.Test.YtoljffghaklpdaaGreatDoorHM
import Derived.Test.YtoljffghaklpdaaGreatDoorJA
import Derived.Test.YtoljffghaklpdaaGreatDoorZL5
import Derived.Test.YtoljffghaklpdaaGreatDoorZP1
import Derived.Deep.AppendLies
namespace Go.Proofs.YtoljffghaklpdaaGreatDoor
open Go.RowKit

end Go.Proofs.YtoljffghaklpdaaGreatDoor


/- The document's own checks and its rounding. -/
namespace Go.Proofs.YtoljffghaklpdaaGreatDoor
open Go.RowKit

/-- is a list gone through by the laws? -/
def shB (n : Int) : Bool := decide (n ≤ 3000) || (decide (200000 < n) && decide (n < 250000))

theorem Values_any (A : Option Addr) (n c : Nat) (xs : List Int) (w : World) (h : Sl .i64 w A n c xs) :
    Calls Tryz.prog 131 #[.slice A n c] w fun e w' => e = .returned (.bool (valsB xs)) ∧ w = w' := by
  go_enter Tryz.func131, Tryz.ntmps131
  go_wp2_with (go_at_call 19; refine (All_any _ _ _ _ _ _ _ h).mono ?_; rintro e w' ⟨rfl, rfl⟩)
  go_ret
  exact ⟨rfl, rfl⟩

def shpB (num den : Int) : Bool := okB 1 1024 den && okB 0 den num
theorem Shape_any (num den : Int) (w : World) : Calls Tryz.prog 56 #[.int .i64 num, .int .i64 den] w fun e w' => e = .returned (.bool (shpB num den)) ∧ w = w' := by
  by_cases h1 : 1 ≤ den
  · have h1' : 0 < den := by omega
    by_cases h2 : den ≤ 1024
    · by_cases h3 : 0 ≤ num
      · by_cases h4 : num ≤ den
        · have hv := Lib.hid (show shpB num den = true by unfold shpB; rw [okB_mk h1 h2, okB_mk h3 h4]; rfl)
          go_enter Tryz.func56, Tryz.ntmps56
          go_wp2
          go_ret
          exact ⟨ret_bool hv.out.symm, rfl⟩
        · have hd : decide (num ≤ den) = false := decide_eq_false h4
          have hv := Lib.hid (show shpB num den = false by unfold shpB; rw [okB_hi (lo := 0) h4, Bool.and_false])
          go_enter Tryz.func56, Tryz.ntmps56
          go_wp2
          go_ret
          exact ⟨ret_bool hv.out.symm, rfl⟩
      · have hd : decide (0 ≤ num) = false := decide_eq_false h3
        have hv := Lib.hid (show shpB num den = false by unfold shpB; rw [okB_lo (hi := den) h3, Bool.and_false])
        go_enter Tryz.func56, Tryz.ntmps56
        go_wp2
        go_ret
        exact ⟨ret_bool hv.out.symm, rfl⟩
    · have hd : decide (den ≤ 1024) = false := decide_eq_false h2
      have hv := Lib.hid (show shpB num den = false by unfold shpB; rw [okB_hi (lo := 1) h2]; rfl)
      go_enter Tryz.func56, Tryz.ntmps56
      go_wp2
      go_ret
      exact ⟨ret_bool hv.out.symm, rfl⟩
  · have hd : decide (0 < den) = false := decide_eq_false (by omega)
    have hv := Lib.hid (show shpB num den = false by unfold shpB; rw [okB_lo (hi := 1024) h1]; rfl)
    go_enter Tryz.func56, Tryz.ntmps56
    go_wp2
    go_ret
    exact ⟨ret_bool hv.out.symm, rfl⟩
end Go.Proofs.YtoljffghaklpdaaGreatDoor


/- The frames of a list: both, at every argument. -/
namespace Go.Proofs.YtoljffghaklpdaaGreatDoor
open Go.RowKit

theorem Frames_any (A : Option Addr) (n c : Nat) (xs : List Int) (size step : Int) (pad : Bool) (w : World) (h : Sl .i64 w A n c xs) :
    Calls Tryz.prog 167 #[.slice A n c, .int .i64 size, .int .i64 step, .bool pad] w (RetRs w (if frC xs size step pad = 0 then fcount n size.toNat step.toNat pad else 0) (frameL xs size.toNat step.toNat) (frC xs size step pad)) := by
  by_cases hv : ¬ chkV_w xs = 0 ∨ (okB 1 4096 size && okB 1 4096 step) = false
  · have hne : frC xs size step pad ≠ 0 := by
      unfold frC
      rcases hv with hv | hv
      · rw [if_neg hv]; exact hv
      · rw [hv]
        by_cases h2 : chkV_w xs = 0
        · rw [if_pos h2, if_neg (by decide)]; decide
        · rw [if_neg h2]; exact h2
    rw [if_neg hne]
    refine (Frames_arg A n c xs size step pad w h hv).mono ?_
    rintro e w' ⟨A2, c2, B, L, C, he, hR, hb⟩
    have h0 := hR.cap
    exact ⟨A2, c2, B, L, C, he, ⟨hR.cap, hR.top, hR.cell, fun r hr => absurd hr (by omega), hR.nil, hR.few⟩, hb⟩
  · have hv1 : chkV_w xs = 0 := Classical.byContradiction fun e => hv (.inl e)
    have hv2 : (okB 1 4096 size && okB 1 4096 step) = true := by
      cases h2 : (okB 1 4096 size && okB 1 4096 step) with
      | true => rfl
      | false => exact absurd (.inr h2) hv
    have hb := Bool.and_eq_true_iff.1 hv2
    have h1 := okB_iff.1 hb.1
    have h2 := okB_iff.1 hb.2
    obtain ⟨s, rfl⟩ : ∃ s : Nat, size = (s : Int) := ⟨size.toNat, by omega⟩
    obtain ⟨p, rfl⟩ : ∃ p : Nat, step = (p : Int) := ⟨step.toNat, by omega⟩
    rw [Int.toNat_natCast, Int.toNat_natCast]
    have hn : n ≤ 200000 := by
      rcases chk_cases (-2147483647) 2147483647 xs with ⟨_, h3⟩ | ⟨h3, _⟩ | ⟨h3, _⟩
      · rw [show chkV_w xs = chk (-2147483647) 2147483647 xs from rfl, h3] at hv1; exact absurd hv1 (by decide)
      · rw [h.len] at h3; exact h3
      · rw [h.len] at h3; exact h3
    have hC : frC xs (s : Int) (p : Int) pad = if 4000000 < fcount n s p pad * s then 5 else 0 := by
      unfold frC
      rw [if_pos hv1, if_pos hv2, Int.toNat_natCast, Int.toNat_natCast, h.len]
    rw [hC]
    by_cases hl : 4000000 < fcount n s p pad * s
    · rw [if_pos hl, if_neg (by decide)]
      refine (Frames_long A n c s p xs pad w h hv1 hn (by omega) (by omega) (by omega) (by omega) hl).mono ?_
      rintro e w' ⟨A2, c2, B, L, C, he, hR, hb⟩
      exact ⟨A2, c2, B, L, C, he, ⟨hR.cap, hR.top, hR.cell, fun r hr => absurd hr (by omega), hR.nil, hR.few⟩, hb⟩
    · rw [if_neg hl, if_pos rfl]
      exact Frames_ok A n c s p xs pad w h hv1 hn (by omega) (by omega) (by omega) (by omega) (by omega)

set_option maxHeartbeats 1600000 in
set_option maxRecDepth 100000 in
theorem RFrames_arg (A : Option Addr) (n c : Nat) (xs : List Int) (size step : Int) (pad : Bool) (w : World) (h : Sl .i64 w A n c xs) (hv : ¬ chkV_w xs = 0 ∨ (okB 1 4096 size && okB 1 4096 step) = false) :
    Calls Tryz.prog 62 #[.slice A n c, .int .i64 size, .int .i64 step, .bool pad] w (RetRs w 0 (fun _ => []) (frC xs size step pad)) := by
  have hl := Lib.hid h.len
  rcases Nat.lt_or_ge 200000 n with hn | hn
  · have hk : chkV_w xs = 5 := by unfold chkV_w chk; rw [if_pos (by rw [hl.out]; exact hn)]
    have hr := Lib.hid (show frC xs size step pad = 5 by unfold frC; rw [hk]; rfl)
    clear hk hv
    go_enter Tryz.func62, Tryz.ntmps62
    go_wp2
    go_ret2
    exact ⟨none, 0, _, _, _, by rw [hr.out]; rfl, rs_nil _ _, Below.refl _ _⟩
  · have hr := Lib.hid (show frC xs size step pad = 2 by
      unfold frC
      by_cases hc : chkV_w xs = 0
      · rw [if_pos hc, hv.resolve_left (fun e => e hc)]; rfl
      · rw [if_neg hc]
        rcases chk_cases (-2147483647) 2147483647 xs with ⟨h3, _⟩ | ⟨_, _, h3⟩ | ⟨_, _, h3⟩
        · rw [hl.out] at h3; omega
        · exact absurd h3 hc
        · exact h3)
    have hV := Lib.hid (Values_any A n c xs w h)
    cases hvb : valsB xs with
    | false =>
      rw [hvb] at hV
      clear hv hvb
      go_enter Tryz.func62, Tryz.ntmps62
      go_wp2_with (go_at_call 131; refine hV.out.mono ?_; rintro e w' ⟨rfl, rfl⟩)
      go_ret2
      exact ⟨none, 0, _, _, _, by rw [hr.out]; rfl, rs_nil _ _, Below.refl _ _⟩
    | true =>
      rw [hvb] at hV
      have hc : chkV_w xs = 0 := by
        rcases chk_cases (-2147483647) 2147483647 xs with ⟨h3, _⟩ | ⟨_, _, h3⟩ | ⟨_, h3, _⟩
        · rw [hl.out] at h3; omega
        · exact h3
        · rw [show allB (-2147483647) 2147483647 xs = valsB xs from rfl, hvb] at h3; cases h3
      have hv := hv.resolve_left (fun e => e hc)
      clear hc hvb
      have hcs : size < 1 ∨ (1 ≤ size ∧ 4096 < size) ∨ (1 ≤ size ∧ size ≤ 4096 ∧ step < 1) ∨ (1 ≤ size ∧ size ≤ 4096 ∧ 1 ≤ step ∧ 4096 < step) := by
        by_cases a1 : size < 1
        · exact .inl a1
        by_cases a2 : 4096 < size
        · exact .inr (.inl ⟨by omega, a2⟩)
        by_cases a3 : step < 1
        · exact .inr (.inr (.inl ⟨by omega, by omega, a3⟩))
        by_cases a4 : 4096 < step
        · exact .inr (.inr (.inr ⟨by omega, by omega, by omega, a4⟩))
        · rw [okB_iff.2 ⟨by omega, by omega⟩, okB_iff.2 ⟨by omega, by omega⟩] at hv
          cases hv
      clear hv
      rcases hcs with a1 | ⟨a1, a2⟩ | ⟨a1, a2, a3⟩ | ⟨a1, a2, a3, a4⟩
      case' inl =>
        have d1 : decide (size < 1) = true := decide_eq_true a1
      case' inr.inl =>
        have d1 : decide (size < 1) = false := decide_eq_false (by omega)
        have d2 : decide (4096 < size) = true := decide_eq_true a2
      case' inr.inr.inl =>
        have d1 : decide (size < 1) = false := decide_eq_false (by omega)
        have d2 : decide (4096 < size) = false := decide_eq_false (by omega)
        have d3 : decide (step < 1) = true := decide_eq_true a3
      case' inr.inr.inr =>
        have d1 : decide (size < 1) = false := decide_eq_false (by omega)
        have d2 : decide (4096 < size) = false := decide_eq_false (by omega)
        have d3 : decide (step < 1) = false := decide_eq_false (by omega)
        have d4 : decide (4096 < step) = true := decide_eq_true a4
      all_goals
        go_enter Tryz.func62, Tryz.ntmps62
        go_wp2_with (go_at_call 131; refine hV.out.mono ?_; rintro e w' ⟨rfl, rfl⟩)
        go_ret2
        exact ⟨none, 0, _, _, _, by rw [hr.out]; rfl, rs_nil _ _, Below.refl _ _⟩
end Go.Proofs.YtoljffghaklpdaaGreatDoor
