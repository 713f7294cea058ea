/- The document's own check of a recording. -/
import Derived.Test.YtobobbhifajhmaaC1
namespace Go.Proofs.Ytobobbhifajhmaa
open Go.RowKit

theorem RValid_any (rate : Int) (A : Option Addr) (n c : Nat) (xs : List Int) (w : World) (h : Sl .i64 w A n c xs) (hn : n ≤ 200000) :
    Calls Try.prog 25 #[.agg #[.int .i64 rate, .slice A n c]] w fun e w' => e = .returned (.bool (okB 1 192000 rate && allB (-32768) 32767 xs)) ∧ Below w.heap.size w w' := by
  have hcap := h.cap
  have htop := h.top
  have h1 := h.alloc (.cells #[.int .i64 rate, .slice A n c] 24)
  have hb := (Below.refl w.heap.size w).alloc (Nat.le_refl _) (.cells #[.int .i64 rate, .slice A n c] 24)
  by_cases h2 : 1 ≤ rate
  · by_cases h3 : rate ≤ 192000
    · have hv := Lib.hid (show (okB 1 192000 rate && allB (-32768) 32767 xs) = allB (-32768) 32767 xs by rw [okB_mk h2 h3]; rfl)
      go_enter Try.func25, Try.ntmps25
      go_wp2_with (go_at_call 33; refine (All_any _ _ _ _ _ _ _ h1).mono ?_; rintro e w' ⟨rfl, rfl⟩)
      go_ret
      exact ⟨ret_bool hv.out.symm, hb⟩
    · have hd : decide (rate ≤ 192000) = false := decide_eq_false h3
      have hv := Lib.hid (show (okB 1 192000 rate && allB (-32768) 32767 xs) = false by rw [okB_hi (lo := 1) h3]; rfl)
      go_enter Try.func25, Try.ntmps25
      go_wp2
      go_ret
      exact ⟨ret_bool hv.out.symm, hb⟩
  · have hd : decide (1 ≤ rate) = false := decide_eq_false h2
    have hd2 : ¬ 0 < rate := by omega
    have hd3 : decide (0 < rate) = false := decide_eq_false hd2
    have hv := Lib.hid (show (okB 1 192000 rate && allB (-32768) 32767 xs) = false by rw [okB_lo (hi := 192000) h2]; rfl)
    go_enter Try.func25, Try.ntmps25
    go_wp2
    go_ret
    exact ⟨ret_bool hv.out.symm, hb⟩

theorem RWrong_any (rate : Int) (A : Option Addr) (n c : Nat) (xs : List Int) (w : World) (h : Sl .i64 w A n c xs) :
    Calls Try.prog 26 #[.agg #[.int .i64 rate, .slice A n c]] w fun e w' => e = .returned (.int .i64 (chkR rate xs)) ∧ Below w.heap.size w w' := by
  have hcap := h.cap
  have htop := h.top
  have hl := Lib.hid h.len
  have h1 := h.alloc (.cells #[.int .i64 rate, .slice A n c] 24)
  have hb := (Below.refl w.heap.size w).alloc (Nat.le_refl _) (.cells #[.int .i64 rate, .slice A n c] 24)
  rcases Nat.lt_or_ge 200000 n with hn | hn
  · have hr := Lib.hid (show chkR rate xs = 5 by unfold chkR chk; rw [if_pos (show 200000 < xs.length by rw [hl.out]; exact hn)]; rfl)
    go_enter Try.func26, Try.ntmps26
    go_wp2
    go_ret
    exact ⟨ret_int hr.out.symm, hb⟩
  · cases hv : (okB 1 192000 rate && allB (-32768) 32767 xs) with
    | true =>
      have hr := Lib.hid (show chkR rate xs = 0 by
        rw [Bool.and_eq_true] at hv
        unfold chkR chk; rw [if_neg (show ¬ 200000 < xs.length by rw [hl.out]; omega), hv.1, hv.2]; rfl)
      have hv := Lib.hid hv
      go_enter Try.func26, Try.ntmps26
      go_wp2_with (go_at_call 25; refine (RValid_any _ _ _ _ _ _ h1 hn).mono ?_; rintro e w' ⟨he, hb2⟩; rw [hv.out] at he; subst he)
      go_ret
      exact ⟨ret_int hr.out.symm, hb.trans (hb2.mono hb.size)⟩
    | false =>
      have hr := Lib.hid (show chkR rate xs = 2 by
        unfold chkR chk; rw [if_neg (show ¬ 200000 < xs.length by rw [hl.out]; omega)]
        cases ha : allB (-32768) 32767 xs with
        | false => rfl
        | true =>
          rw [ha, Bool.and_true] at hv
          rw [hv]; rfl)
      have hv := Lib.hid hv
      go_enter Try.func26, Try.ntmps26
      go_wp2_with (go_at_call 25; refine (RValid_any _ _ _ _ _ _ h1 hn).mono ?_; rintro e w' ⟨he, hb2⟩; rw [hv.out] at he; subst he)
      go_ret
      exact ⟨ret_int hr.out.symm, hb.trans (hb2.mono hb.size)⟩

/-- may a segment be cut out? -/
def clB (n a b : Int) : Bool := okB 0 n b && okB 0 b a
end Go.Proofs.Ytobobbhifajhmaa
