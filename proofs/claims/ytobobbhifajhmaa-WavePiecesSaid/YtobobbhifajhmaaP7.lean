/- The frames of a list: the law's walk. -/
import Derived.Test.YtobobbhifajhmaaP6
import Derived.Test.YtobobbhifajhmaaK3
import Derived.BigQuiet
namespace Go.Proofs.Ytobobbhifajhmaa
open Go.RowKit

theorem RFrames_any (A : Option Addr) (n c : Nat) (xs : List Int) (size step : Int) (pad : Bool) (w : World) (h : Sl .i64 w A n c xs) :
    Calls Try.prog 38 #[.slice A n c, .int .i64 size, .int .i64 step, .bool pad] w (RetRs w (if frC xs size step pad = 0 then fcount n size.toNat step.toNat pad else 0) (frameL xs size.toNat step.toNat) (frC xs size step pad)) := by
  by_cases hv : ¬ chkV xs = 0 ∨ (okB 1 4096 size && okB 1 4096 step) = false
  · have hne : frC xs size step pad ≠ 0 := by
      unfold frC
      rcases hv with hv | hv
      · rw [if_neg hv]; exact hv
      · rw [hv]
        by_cases h2 : chkV xs = 0
        · rw [if_pos h2, if_neg (by decide)]; decide
        · rw [if_neg h2]; exact h2
    rw [if_neg hne]
    refine (RFrames_arg A n c xs size step pad w h hv).mono ?_
    rintro e w' ⟨A2, c2, B, L, C, he, hR, hb⟩
    exact ⟨A2, c2, B, L, C, he, ⟨hR.cap, hR.top, hR.cell, fun r hr => absurd hr (by omega), hR.nil, hR.few⟩, hb⟩
  · have hv1 : chkV xs = 0 := Classical.byContradiction fun e => hv (.inl e)
    have hv2 : (okB 1 4096 size && okB 1 4096 step) = true := by
      cases h2 : (okB 1 4096 size && okB 1 4096 step) with
      | true => rfl
      | false => exact absurd (.inr h2) hv
    have hb := Bool.and_eq_true_iff.1 hv2
    have h1 := okB_iff.1 hb.1
    have h2 := okB_iff.1 hb.2
    obtain ⟨s, rfl⟩ : ∃ s : Nat, size = (s : Int) := ⟨size.toNat, by omega⟩
    obtain ⟨p, rfl⟩ : ∃ p : Nat, step = (p : Int) := ⟨step.toNat, by omega⟩
    rw [Int.toNat_natCast, Int.toNat_natCast]
    have hcs : n ≤ 200000 ∧ valsB xs = true := by
      rcases chk_cases (-2147483647) 2147483647 xs with ⟨_, h3⟩ | ⟨h3, h4, _⟩ | ⟨_, _, h3⟩
      · rw [show chkV xs = chk (-2147483647) 2147483647 xs from rfl, h3] at hv1; exact absurd hv1 (by decide)
      · rw [h.len] at h3; exact ⟨h3, h4⟩
      · rw [show chkV xs = chk (-2147483647) 2147483647 xs from rfl, h3] at hv1; exact absurd hv1 (by decide)
    have hC : frC xs (s : Int) (p : Int) pad = if 4000000 < fcount n s p pad * s then 5 else 0 := by
      unfold frC
      rw [if_pos hv1, if_pos hv2, Int.toNat_natCast, Int.toNat_natCast, h.len]
    have hm := RFrames_main A n c s p xs pad w h hcs.2 hcs.1 (by omega) (by omega) (by omega) (by omega)
    rw [hC]
    by_cases hl : 4000000 < fcount n s p pad * s
    · rw [if_pos hl, if_pos hl] at hm
      rw [if_pos hl, if_neg (by decide)]
      exact hm
    · rw [if_neg hl, if_neg hl] at hm
      rw [if_neg hl, if_pos rfl]
      exact hm

set_option maxHeartbeats 1600000 in
theorem SameLists_eq (A A' : Option Addr) (n c c' : Nat) (B B' : Nat → Option Addr) (L C L' C' : Nat → Nat) (X X' : Nat → List Int) (w : World) (h : Rs w A n c B L C X) (h' : Rs w A' n c' B' L' C' X') (he : ∀ r, r < n → X r = X' r) :
    Calls Try.prog 39 #[.slice A n c, .slice A' n c'] w fun e w' => e = .returned (.bool true) ∧ ∃ k, w' = w.drewN k := by
  have hcap := h.cap
  have htop := h.top
  have hcap' := h'.cap
  have he := Lib.hid he
  go_enter Try.func39, Try.ntmps39
  go_wp2
  go_loopw [5] (fun iv wr => ∃ k r : Nat, iv = .int .i64 k ∧ k ≤ n ∧ wr = w.drewN r) (fun iv _ => n - (intOf iv).toNat)
  case atStart => exact ⟨0, 0, rfl, Nat.zero_le _, rfl⟩
  case round =>
    obtain ⟨k, r, rfl, hk, rfl⟩ := hrel
    rcases Nat.lt_or_ge k n with hlt | hge
    · obtain ⟨ad, rfl, hc⟩ := h.at_ hlt
      obtain ⟨ad', rfl, hc'⟩ := h'.at_ hlt
      have hcr : (w.drewN r).cell? (ad.add k) = some (.slice (B k) (L k) (C k)) := hc
      have hcr' : (w.drewN r).cell? (ad'.add k) = some (.slice (B' k) (L' k) (C' k)) := hc'
      have i0 : (0 : Int) ≤ (k : Int) := by omega
      have i1 : (k : Int) < (n : Int) := by omega
      have hk1 := (h.row k hlt).drewN r
      have hk2 := (h'.row k hlt).drewN r
      generalize hw : w.drewN r = w1 at *
      have hw := Lib.hid hw
      have hs := Lib.hid (fun (i : Nat) => show Calls Try.prog 30 #[.slice (B k) (L k) (C k), .slice (B' k) (L' k) (C' k)] (w1.drewN i) (fun e w' => e = .returned (.bool true) ∧ ∃ j, w' = (w1.drewN i).drewN j) from (Same_any _ _ _ _ _ _ _ _ _ (hk1.drewN i) (hk2.drewN i)).mono fun e w' ⟨j, h1, h2⟩ => by
        rw [sameB_yes (he.out k hlt)] at h1
        exact ⟨h1, j, h2⟩)
      clear hk1 hk2
      go_wp2
      go_quiet (first | (go_at_call 30; exact Calls.quiet_of (hs.out _)))
      go_wp2
      go_roundw
      case rel => exact ⟨k + 1, r + nq, by go_num, hlt, by rw [← hw.out]; exact dr_add w r nq⟩
      case measure => simp [intOf]; omega
    · have hkn : k = n := by omega
      subst hkn
      go_wp2
      go_ret
      exact ⟨rfl, r, rfl⟩
end Go.Proofs.Ytobobbhifajhmaa
