/- The document's own smoothing. -/
import Derived.Test.YtobobbhifajhmaaC2
import Derived.Test.YtobobbhifajhmaaV7
import Derived.Test.YtobobbhifajhmaaF0
namespace Go.Proofs.Ytobobbhifajhmaa
open Go.RowKit

theorem Rup_any (a b : Int) (w : World) (ha : 0 ≤ a) (ha2 : a ≤ 4000000000000000000) (hb : 1 ≤ b) (hb2 : b ≤ 1000000000000000000) :
    Calls Try.prog 73 #[.int .i64 a, .int .i64 b] w fun e w' => e = .returned (.int .i64 ((a + b - 1) / b)) ∧ w = w' := by
  go_enter Try.func73, Try.ntmps73
  go_wp2
  go_ret
  exact ⟨rfl, rfl⟩

theorem Rat_any (i : Nat) (iv : Int) (hiv : iv = (i : Int)) (A : Option Addr) (n c : Nat) (xs : List Int) (w : World) (h : Sl .i64 w A n c xs) (hn : 1 ≤ n) (hi : i ≤ 1000000000) :
    Calls Try.prog 94 #[.slice A n c, .int .i64 iv] w fun e w' => e = .returned (.int .i64 (lastAt xs i)) ∧ w = w' := by
  subst hiv
  have hl := Lib.hid h.len
  have hcap := h.cap
  have htop := h.top
  rcases Nat.lt_or_ge i n with hlt | hge
  · obtain ⟨ad, x, rfl, hcx, hx⟩ := h.at_ hlt
    have hv := Lib.hid (show lastAt xs i = x by unfold lastAt; rw [hl.out, show min i (n - 1) = i by omega]; exact hx.out)
    have hd : decide ((n : Int) ≤ (i : Int)) = false := decide_eq_false (by omega)
    go_enter Try.func94, Try.ntmps94
    go_wp2
    go_ret
    exact ⟨ret_int hv.out.symm, rfl⟩
  · obtain ⟨m, rfl⟩ : ∃ m, n = m + 1 := ⟨n - 1, by omega⟩
    obtain ⟨ad, x, rfl, hcx, hx⟩ := h.at_ (j := m) (by omega)
    have hv := Lib.hid (show lastAt xs i = x by unfold lastAt; rw [hl.out, show min i (m + 1 - 1) = m by omega]; exact hx.out)
    go_enter Try.func94, Try.ntmps94
    go_wp2
    go_ret
    exact ⟨ret_int hv.out.symm, rfl⟩

set_option maxHeartbeats 1600000 in
theorem Rsmooth_any (i wd : Nat) (iv : Int) (hiv : iv = (i : Int)) (A : Option Addr) (n c : Nat) (xs : List Int) (w : World) (h : Sl .i64 w A n c xs) (hn1 : 1 ≤ n) (hn : n ≤ 200000) (hx : ∀ x ∈ xs, -32768 ≤ x ∧ x ≤ 32768) (hi : i ≤ 1000000) (hw1 : 1 ≤ wd) (hw2 : wd ≤ 16) :
    Calls Try.prog 75 #[.slice A n c, .int .i64 iv, .int .i64 (wd : Int)] w fun e w' => e = .returned (.int .i64 (smAt xs wd i)) ∧ w = w' := by
  subst hiv
  have hl := Lib.hid h.len
  have hcap := h.cap
  have htop := h.top
  have hx := Lib.hid hx
  go_enter Try.func75, Try.ntmps75
  go_wp2
  go_loop [7, 8] (fun sv iv => ∃ k : Nat, iv = .int .i64 k ∧ k ≤ wd ∧ sv = .int .i64 (wsum xs i k)) (fun _ iv => wd - (intOf iv).toNat)
  case atStart => exact ⟨0, rfl, Nat.zero_le _, rfl⟩
  case round =>
    obtain ⟨k, rfl, hkw, rfl⟩ := hrel
    have hbd := wsum_bd hx.out (by rw [hl.out]; omega) i k
    have h1 : -1000000 ≤ wsum xs i k := by omega
    have h2 : wsum xs i k ≤ 1000000 := by omega
    clear hbd
    rcases Nat.lt_or_ge k wd with hlt | hge
    · have hbd2 := lastAt_bd hx.out (by rw [hl.out]; omega) (i := i + k)
      have h3 := hbd2.1
      have h4 := hbd2.2
      clear hbd2
      go_wp2_with (go_at_call 94; refine (Rat_any (i + k) _ (by omega) _ _ _ _ _ h hn1 (by omega)).mono ?_; rintro e w' ⟨rfl, rfl⟩)
      go_round
      case rel => exact ⟨k + 1, by go_num, hlt, by rw [show wsum xs i (k + 1) = wsum xs i k + lastAt xs (i + k) from rfl]⟩
      case measure => simp [intOf]; omega
    · have hkn : k = wd := by omega
      subst hkn
      have hv := Lib.hid (show rnd (wsum xs i k) k = smAt xs k i from rfl)
      go_wp2_with (go_at_call 74; refine (Round_any _ _ _ (by omega) (by omega) (by omega) (by omega)).mono ?_; rintro e w' ⟨rfl, rfl⟩)
      go_ret
      exact ⟨ret_int hv.out, rfl⟩
theorem Rsmooth_all (wd : Nat) (iv : Int) (hi0 : 0 ≤ iv) (hi : iv ≤ 1000000) (A : Option Addr) (n c : Nat) (xs : List Int) (w : World) (h : Sl .i64 w A n c xs) (hn1 : 1 ≤ n) (hn : n ≤ 200000) (hx : ∀ x ∈ xs, -32768 ≤ x ∧ x ≤ 32768) (hw1 : 1 ≤ wd) (hw2 : wd ≤ 16) :
    Calls Try.prog 75 #[.slice A n c, .int .i64 iv, .int .i64 (wd : Int)] w fun e w' => e = .returned (.int .i64 (smAt xs wd iv.toNat)) ∧ w = w' :=
  Rsmooth_any iv.toNat wd iv (by omega) A n c xs w h hn1 hn hx (by omega) hw1 hw2
end Go.Proofs.Ytobobbhifajhmaa
