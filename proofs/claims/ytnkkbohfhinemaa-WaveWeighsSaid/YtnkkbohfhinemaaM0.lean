/- Changes of sign. -/
import Derived.Test.YtnkkbohfhinemaaSE
import Derived.Test.YtnkkbohfhinemaaF0
import Derived.IntWalk
namespace Go.Proofs.Ytnkkbohfhinemaa
open Go.RowKit

def chS (x y : Int) : Int := if decide (x < 0) = decide (y < 0) then 0 else 1
def chN (xs : List Int) : Nat → Int
  | 0 => 0
  | i + 1 => chN xs i + chS (xs.getD i 0) (xs.getD (i + 1) 0)
theorem chS_bd (x y : Int) : 0 ≤ chS x y ∧ chS x y ≤ 1 := by unfold chS; split <;> omega
theorem chN_bd (xs : List Int) : ∀ i : Nat, 0 ≤ chN xs i ∧ chN xs i ≤ (i : Int)
  | 0 => by show (0 : Int) ≤ 0 ∧ (0 : Int) ≤ _; omega
  | i + 1 => by
    have h1 := chN_bd xs i
    have h2 := chS_bd (xs.getD i 0) (xs.getD (i + 1) 0)
    show 0 ≤ chN xs i + chS _ _ ∧ chN xs i + chS _ _ ≤ _
    omega

set_option maxHeartbeats 1600000 in
set_option maxRecDepth 100000 in
theorem RChanges_any (A : Option Addr) (n c : Nat) (xs : List Int) (w : World) (h : Sl .i64 w A n c xs) (hn : n ≤ 250000) :
    Calls Try.prog 48 #[.slice A n c] w fun e w' => ∃ q, e = .returned (.int .i64 (chN xs (n - 1))) ∧ w' = w.drewN q := by
  have hl := Lib.hid h.len
  have hcap := h.cap
  have htop := h.top
  go_enter Try.func48, Try.ntmps48
  go_wp2
  go_loopw [3, 4] (fun sv iv wr => ∃ k r : Nat, (k < n ∨ k = 0) ∧ iv = .int .i64 ((k : Int) + 1) ∧ sv = .int .i64 (chN xs k) ∧ wr = w.drewN r) (fun _ iv _ => n + 1 - (intOf iv).toNat)
  case atStart => exact ⟨0, 0, .inr rfl, rfl, rfl, rfl⟩
  case round =>
    obtain ⟨k, r, hk, rfl, rfl, rfl⟩ := hrel
    have hr := h.drewN r
    rcases Nat.lt_or_ge (k + 1) n with hlt | hge
    · obtain ⟨ad, x, rfl, hc, hx⟩ := hr.at_ (j := k) (by omega)
      obtain ⟨ad', y, he, hc2, hy⟩ := hr.at_ (j := k + 1) hlt
      injection he with he
      subst he
      have hb := chN_bd xs k
      have hb1 := hb.1
      have hb2 := hb.2
      have hv := Lib.hid (show chN xs (k + 1) = chN xs k + chS x y by rw [← hx.out, ← hy.out]; rfl)
      have hc3 : (w.drewN r).cell? { block := ad.block, off := ad.off + (k + 1) } = some (.int .i64 y) := by have := hc2; unfold Addr.add at this; rw [if_neg (by omega)] at this; exact this
      clear hb
      generalize chN xs k = E at *
      generalize hw1 : w.drewN r = w1 at *
      have hw1' := Lib.hid hw1
      clear hw1
      have i1 : (k : Int) < (n : Int) := by omega
      have i2 : (k : Int) + 1 < (n : Int) := by omega
      have i3 : 0 ≤ (k : Int) + 1 := by omega
      have i4 : ((k : Int) + 1).toNat = k + 1 := by omega
      have i5 : (k : Int) + 1 - 1 = (k : Int) := by omega
      have e1 : IntKind.i64.wrap (k : Int) = (k : Int) := IntWalk.i64_in _ (by omega)
      by_cases h1 : x < 0
      · by_cases h2 : y < 0
        · have hz := Lib.hid (show chS x y = 0 by unfold chS; rw [show decide (x < 0) = true from decide_eq_true h1, show decide (y < 0) = true from decide_eq_true h2]; rfl)
          have d1 : decide (x < 0) = true := decide_eq_true h1
          have d2 : decide (y < 0) = true := decide_eq_true h2
          go_wp2
          go_quiet (fail)
          clear e1 i1 i2 i3 i4 i5
          go_wp2
          go_roundw
          case rel => exact ⟨k + 1, r + nq, by omega, by go_num, by rw [hv.out, hz.out]; go_num, by rw [← hw1'.out]; exact dr_add w r nq⟩
          case measure => simp [intOf]; omega
        · have hz := Lib.hid (show chS x y = 1 by unfold chS; rw [show decide (x < 0) = true from decide_eq_true h1, show decide (y < 0) = false from decide_eq_false h2]; rfl)
          have d1 : decide (x < 0) = true := decide_eq_true h1
          have d2 : decide (y < 0) = false := decide_eq_false h2
          go_wp2
          go_quiet (fail)
          clear e1 i1 i2 i3 i4 i5
          go_wp2
          go_roundw
          case rel => exact ⟨k + 1, r + nq, by omega, by go_num, by rw [hv.out, hz.out], by rw [← hw1'.out]; exact dr_add w r nq⟩
          case measure => simp [intOf]; omega
      · by_cases h2 : y < 0
        · have hz := Lib.hid (show chS x y = 1 by unfold chS; rw [show decide (x < 0) = false from decide_eq_false h1, show decide (y < 0) = true from decide_eq_true h2]; rfl)
          have d1 : decide (x < 0) = false := decide_eq_false h1
          have d2 : decide (y < 0) = true := decide_eq_true h2
          go_wp2
          go_quiet (fail)
          clear e1 i1 i2 i3 i4 i5
          go_wp2
          go_roundw
          case rel => exact ⟨k + 1, r + nq, by omega, by go_num, by rw [hv.out, hz.out], by rw [← hw1'.out]; exact dr_add w r nq⟩
          case measure => simp [intOf]; omega
        · have hz := Lib.hid (show chS x y = 0 by unfold chS; rw [show decide (x < 0) = false from decide_eq_false h1, show decide (y < 0) = false from decide_eq_false h2]; rfl)
          have d1 : decide (x < 0) = false := decide_eq_false h1
          have d2 : decide (y < 0) = false := decide_eq_false h2
          go_wp2
          go_quiet (fail)
          clear e1 i1 i2 i3 i4 i5
          go_wp2
          go_roundw
          case rel => exact ⟨k + 1, r + nq, by omega, by go_num, by rw [hv.out, hz.out]; go_num, by rw [← hw1'.out]; exact dr_add w r nq⟩
          case measure => simp [intOf]; omega
    · have hkn : k = n - 1 := by omega
      subst hkn
      go_wp2
      go_ret
      exact ⟨r, rfl, rfl⟩

set_option maxHeartbeats 1600000 in
set_option maxRecDepth 100000 in
theorem Changes_ok (A : Option Addr) (n c : Nat) (xs : List Int) (w : World) (h : Sl .i64 w A n c xs) (hn : n ≤ 200000) (hk : chk (-2147483647) 2147483647 xs = 0) :
    Calls Try.prog 46 #[.slice A n c] w fun e w' => ∃ q, e = .returned (.tuple #[.int .i64 (chN xs (n - 1)), .int .i64 0]) ∧ w' = w.drewN q := by
  have hl := Lib.hid h.len
  have hcap := h.cap
  have htop := h.top
  go_enter Try.func46, Try.ntmps46
  go_wp2_with (go_at_call 80; refine (checkValues_any _ _ _ _ _ h).mono ?_; rintro e w' ⟨he, rfl⟩; rw [hk] at he; subst he)
  go_loopw [5, 6] (fun sv iv wr => ∃ k r : Nat, (k < n ∨ k = 0) ∧ iv = .int .i64 ((k : Int) + 1) ∧ sv = .int .i64 (chN xs k) ∧ wr = w.drewN r) (fun _ iv _ => n + 1 - (intOf iv).toNat)
  case atStart => exact ⟨0, 0, .inr rfl, rfl, rfl, rfl⟩
  case round =>
    obtain ⟨k, r, hk, rfl, rfl, rfl⟩ := hrel
    have hr := h.drewN r
    rcases Nat.lt_or_ge (k + 1) n with hlt | hge
    · obtain ⟨ad, x, rfl, hc, hx⟩ := hr.at_ (j := k) (by omega)
      obtain ⟨ad', y, he, hc2, hy⟩ := hr.at_ (j := k + 1) hlt
      injection he with he
      subst he
      have hb := chN_bd xs k
      have hb1 := hb.1
      have hb2 := hb.2
      have hv := Lib.hid (show chN xs (k + 1) = chN xs k + chS x y by rw [← hx.out, ← hy.out]; rfl)
      have hc3 : (w.drewN r).cell? { block := ad.block, off := ad.off + (k + 1) } = some (.int .i64 y) := by have := hc2; unfold Addr.add at this; rw [if_neg (by omega)] at this; exact this
      clear hb
      generalize chN xs k = E at *
      generalize hw1 : w.drewN r = w1 at *
      have hw1' := Lib.hid hw1
      clear hw1
      have i1 : (k : Int) < (n : Int) := by omega
      have i2 : (k : Int) + 1 < (n : Int) := by omega
      have i3 : 0 ≤ (k : Int) + 1 := by omega
      have i4 : ((k : Int) + 1).toNat = k + 1 := by omega
      have i5 : (k : Int) + 1 - 1 = (k : Int) := by omega
      have e1 : IntKind.i64.wrap (k : Int) = (k : Int) := IntWalk.i64_in _ (by omega)
      by_cases h1 : x < 0
      · by_cases h2 : y < 0
        · have hz := Lib.hid (show chS x y = 0 by unfold chS; rw [show decide (x < 0) = true from decide_eq_true h1, show decide (y < 0) = true from decide_eq_true h2]; rfl)
          have d1 : decide (x < 0) = true := decide_eq_true h1
          have d2 : decide (y < 0) = true := decide_eq_true h2
          go_wp2
          go_quiet (fail)
          clear e1 i1 i2 i3 i4 i5
          go_wp2
          go_roundw
          case rel => exact ⟨k + 1, r + nq, by omega, by go_num, by rw [hv.out, hz.out]; go_num, by rw [← hw1'.out]; exact dr_add w r nq⟩
          case measure => simp [intOf]; omega
        · have hz := Lib.hid (show chS x y = 1 by unfold chS; rw [show decide (x < 0) = true from decide_eq_true h1, show decide (y < 0) = false from decide_eq_false h2]; rfl)
          have d1 : decide (x < 0) = true := decide_eq_true h1
          have d2 : decide (y < 0) = false := decide_eq_false h2
          go_wp2
          go_quiet (fail)
          clear e1 i1 i2 i3 i4 i5
          go_wp2
          go_roundw
          case rel => exact ⟨k + 1, r + nq, by omega, by go_num, by rw [hv.out, hz.out], by rw [← hw1'.out]; exact dr_add w r nq⟩
          case measure => simp [intOf]; omega
      · by_cases h2 : y < 0
        · have hz := Lib.hid (show chS x y = 1 by unfold chS; rw [show decide (x < 0) = false from decide_eq_false h1, show decide (y < 0) = true from decide_eq_true h2]; rfl)
          have d1 : decide (x < 0) = false := decide_eq_false h1
          have d2 : decide (y < 0) = true := decide_eq_true h2
          go_wp2
          go_quiet (fail)
          clear e1 i1 i2 i3 i4 i5
          go_wp2
          go_roundw
          case rel => exact ⟨k + 1, r + nq, by omega, by go_num, by rw [hv.out, hz.out], by rw [← hw1'.out]; exact dr_add w r nq⟩
          case measure => simp [intOf]; omega
        · have hz := Lib.hid (show chS x y = 0 by unfold chS; rw [show decide (x < 0) = false from decide_eq_false h1, show decide (y < 0) = false from decide_eq_false h2]; rfl)
          have d1 : decide (x < 0) = false := decide_eq_false h1
          have d2 : decide (y < 0) = false := decide_eq_false h2
          go_wp2
          go_quiet (fail)
          clear e1 i1 i2 i3 i4 i5
          go_wp2
          go_roundw
          case rel => exact ⟨k + 1, r + nq, by omega, by go_num, by rw [hv.out, hz.out]; go_num, by rw [← hw1'.out]; exact dr_add w r nq⟩
          case measure => simp [intOf]; omega
    · have hkn : k = n - 1 := by omega
      subst hkn
      go_wp2
      go_ret2
      exact ⟨r, rfl, rfl⟩
end Go.Proofs.Ytnkkbohfhinemaa
