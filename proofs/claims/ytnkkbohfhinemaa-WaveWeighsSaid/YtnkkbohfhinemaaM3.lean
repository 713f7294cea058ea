/- Energy, changes of sign, peak: what is refused. -/
import Derived.Test.YtnkkbohfhinemaaM2
namespace Go.Proofs.Ytnkkbohfhinemaa
open Go.RowKit

def enC (xs : List Int) : Int := chk (-65536) 65535 xs
def enV (xs : List Int) : Int := if enC xs = 0 then eng xs else 0
theorem Energy_any (A : Option Addr) (n c : Nat) (xs : List Int) (w : World) (h : Sl .i64 w A n c xs) :
    Calls Try.prog 45 #[.slice A n c] w fun e w' => e = .returned (.tuple #[.int .i64 (enV xs), .int .i64 (enC xs)]) ∧ w = w' := by
  have hl := h.len
  rcases chk_cases (-65536) 65535 xs with ⟨h0, h2⟩ | ⟨h0, ha, h2⟩ | ⟨h0, ha, h2⟩
  · have hv := Lib.hid (show enV xs = 0 by unfold enV enC; rw [h2]; rfl)
    have hc := Lib.hid (show enC xs = 5 from h2)
    have h2 := Lib.hid h2
    go_enter Try.func45, Try.ntmps45
    go_wp2_with (go_at_call 85; refine (checkList_any _ _ _ _ _ _ _ h).mono ?_; rintro e w' ⟨he, rfl⟩; rw [h2.out] at he; subst he)
    go_ret2
    exact ⟨by rw [hv.out, hc.out]; rfl, rfl⟩
  · have hv := Lib.hid (show enV xs = eng xs by unfold enV enC; rw [h2]; rfl)
    have hc := Lib.hid (show enC xs = 0 from h2)
    have h2 := Lib.hid h2
    have hx := Lib.hid (fun x hx => by have := allB_mem ha x hx; omega : ∀ x ∈ xs, -70000 ≤ x ∧ x ≤ 70000)
    clear ha
    go_enter Try.func45, Try.ntmps45
    go_wp2_with (first | (go_at_call 85; refine (checkList_any _ _ _ _ _ _ _ h).mono ?_; rintro e w' ⟨he, rfl⟩; rw [h2.out] at he; subst he) | (go_at_call 86; refine (energy_any _ _ _ _ _ h (by omega) hx.out).mono ?_; rintro e w' ⟨rfl, rfl⟩))
    go_ret2
    exact ⟨by rw [hv.out, hc.out]; rfl, rfl⟩
  · have hv := Lib.hid (show enV xs = 0 by unfold enV enC; rw [h2]; rfl)
    have hc := Lib.hid (show enC xs = 2 from h2)
    have h2 := Lib.hid h2
    go_enter Try.func45, Try.ntmps45
    go_wp2_with (go_at_call 85; refine (checkList_any _ _ _ _ _ _ _ h).mono ?_; rintro e w' ⟨he, rfl⟩; rw [h2.out] at he; subst he)
    go_ret2
    exact ⟨by rw [hv.out, hc.out]; rfl, rfl⟩

theorem Changes_bad (A : Option Addr) (n c : Nat) (xs : List Int) (k : Int) (w : World) (h : Sl .i64 w A n c xs) (hk : chk (-2147483647) 2147483647 xs = k) (h0 : (k == 0) = false) :
    Calls Try.prog 46 #[.slice A n c] w fun e w' => e = .returned (.tuple #[.int .i64 0, .int .i64 k]) ∧ w = w' := by
  go_enter Try.func46, Try.ntmps46
  go_wp2_with (go_at_call 80; refine (checkValues_any _ _ _ _ _ h).mono ?_; rintro e w' ⟨he, rfl⟩; rw [hk] at he; subst he)
  go_ret2
  exact ⟨rfl, rfl⟩
theorem Peak_bad (A : Option Addr) (n c : Nat) (xs : List Int) (k : Int) (w : World) (h : Sl .i64 w A n c xs) (hk : chk (-2147483647) 2147483647 xs = k) (h0 : (k == 0) = false) :
    Calls Try.prog 47 #[.slice A n c] w fun e w' => e = .returned (.tuple #[.int .i64 0, .int .i64 k]) ∧ w = w' := by
  go_enter Try.func47, Try.ntmps47
  go_wp2_with (go_at_call 80; refine (checkValues_any _ _ _ _ _ h).mono ?_; rintro e w' ⟨he, rfl⟩; rw [hk] at he; subst he)
  go_ret2
  exact ⟨rfl, rfl⟩
theorem allB_wide {a b c d : Int} {xs : List Int} (h : allB a b xs = true) (h1 : c ≤ a) (h2 : b ≤ d) : allB c d xs = true :=
  List.all_eq_true.2 fun x hx => okB_iff.2 (by have := allB_mem h x hx; omega)
end Go.Proofs.Ytnkkbohfhinemaa
