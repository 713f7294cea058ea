/- The document's own peak. -/
import Derived.Test.YtnkkbohfhinemaaM1
namespace Go.Proofs.Ytnkkbohfhinemaa
open Go.RowKit

set_option maxHeartbeats 3200000 in
set_option maxRecDepth 100000 in
theorem RPeak_any (A : Option Addr) (n c : Nat) (xs : List Int) (w : World) (h : Sl .i64 w A n c xs) (hn : n ≤ 250000) (hall : allB (-2147483647) 2147483647 xs = true) :
    Calls Try.prog 49 #[.slice A n c] w fun e w' => ∃ q, e = .returned (.int .i64 (pk xs n).1) ∧ w' = w.drewN q := by
  have hl := Lib.hid h.len
  have hcap := h.cap
  have htop := h.top
  have hall := Lib.hid hall
  go_enter Try.func49, Try.ntmps49
  go_wp2
  go_loopw [3, 4] (fun pv iv wr => ∃ k r : Nat, k ≤ n ∧ iv = .int .i64 k ∧ pv = .int .i64 (pk xs k).1 ∧ wr = w.drewN r) (fun _ iv _ => n - (intOf iv).toNat)
  case atStart => exact ⟨0, 0, Nat.zero_le _, rfl, rfl, rfl⟩
  case round =>
    obtain ⟨k, r, hkn, rfl, rfl, rfl⟩ := hrel
    have hr := h.drewN r
    rcases Nat.lt_or_ge k n with hlt | hge
    · obtain ⟨ad, x, rfl, hc, hx⟩ := hr.at_ hlt
      have hxb := allB_get hall.out (by rw [hl.out]; exact hlt) hx.out
      have hx1 := hxb.1
      have hx2 := hxb.2
      clear hxb
      rcases pk_cases xs k with ⟨rfl, hpq⟩ | ⟨j, hj, hpq⟩
      · have hs := Lib.hid (show (pk xs (0 + 1)).1 = 0 by
          show (if (pk xs 0).2 < ab (xs.getD 0 0) then (((0 : Nat) : Int), ab (xs.getD 0 0)) else pk xs 0).1 = _
          rw [if_pos (by show (-1 : Int) < _; have := ab_nn (xs.getD 0 0); omega)]; rfl)
        rw [show (pk xs 0).1 = -1 from rfl]
        clear hpq
        generalize hw1 : w.drewN r = w1 at *
        have hw1' := Lib.hid hw1
        clear hw1
        go_wp2
        go_quiet (fail)
        go_wp2
        go_roundw
        case rel => exact ⟨0 + 1, r + nq, hlt, by go_num, by rw [hs.out]; rfl, by rw [← hw1'.out]; exact dr_add w r nq⟩
        case measure => simp [intOf]; omega
      · obtain ⟨ad', y, he, hc2, hy⟩ := hr.at_ (j := j) (by omega)
        injection he with he
        subst he
        have hyb := allB_get hall.out (by rw [hl.out]; omega) hy.out
        have hy1 := hyb.1
        have hy2 := hyb.2
        clear hyb
        have hs := Lib.hid (show (pk xs (k + 1)).1 = if ab y < ab x then (k : Int) else (j : Int) by
          show (if (pk xs k).2 < ab (xs.getD k 0) then ((k : Int), ab (xs.getD k 0)) else pk xs k).1 = _
          rw [hpq, hx.out, hy.out]; split <;> rfl)
        rw [hpq]
        clear hpq
        dsimp only
        generalize hw1 : w.drewN r = w1 at *
        have hw1' := Lib.hid hw1
        clear hw1
        have i1 : (k : Int) < (n : Int) := by omega
        have i2 : (j : Int) < (n : Int) := by omega
        have i3 : decide ((j : Int) < 0) = false := decide_eq_false (by omega)
        by_cases h1 : x < 0
        · by_cases h2 : y < 0
          · by_cases h3 : -y < -x
            · have z := Lib.hid (show (pk xs (k + 1)).1 = (k : Int) by rw [hs.out, show ab x = -x from if_pos h1, show ab y = -y from if_pos h2, if_pos h3])
              have m1 : (if x < -x then -x else x) = -x := by split <;> omega
              have m2 : (if y < -y then -y else y) = -y := by split <;> omega
              have d3 : decide (-y < -x) = true := decide_eq_true h3
              have e1 : IntKind.i64.wrap (-x) = -x := IntWalk.i64_in _ (by omega)
              have e2 : IntKind.i64.wrap (-y) = -y := IntWalk.i64_in _ (by omega)
              go_wp2
              go_quiet (fail)
              clear e1 e2 i1 i2
              try simp only [m1, m2, d3]
              go_wp2
              go_roundw
              case rel => exact ⟨k + 1, r + nq, hlt, by go_num, by rw [z.out], by rw [← hw1'.out]; exact dr_add w r nq⟩
              case measure => simp [intOf]; omega
            · have z := Lib.hid (show (pk xs (k + 1)).1 = (j : Int) by rw [hs.out, show ab x = -x from if_pos h1, show ab y = -y from if_pos h2, if_neg h3])
              have m1 : (if x < -x then -x else x) = -x := by split <;> omega
              have m2 : (if y < -y then -y else y) = -y := by split <;> omega
              have d3 : decide (-y < -x) = false := decide_eq_false h3
              have e1 : IntKind.i64.wrap (-x) = -x := IntWalk.i64_in _ (by omega)
              have e2 : IntKind.i64.wrap (-y) = -y := IntWalk.i64_in _ (by omega)
              go_wp2
              go_quiet (fail)
              clear e1 e2 i1 i2
              try simp only [m1, m2, d3]
              go_wp2
              go_roundw
              case rel => exact ⟨k + 1, r + nq, hlt, by go_num, by rw [z.out], by rw [← hw1'.out]; exact dr_add w r nq⟩
              case measure => simp [intOf]; omega
          · by_cases h3 : y < -x
            · have z := Lib.hid (show (pk xs (k + 1)).1 = (k : Int) by rw [hs.out, show ab x = -x from if_pos h1, show ab y = y from if_neg h2, if_pos h3])
              have m1 : (if x < -x then -x else x) = -x := by split <;> omega
              have m2 : (if y < -y then -y else y) = y := by split <;> omega
              have d3 : decide (y < -x) = true := decide_eq_true h3
              have e1 : IntKind.i64.wrap (-x) = -x := IntWalk.i64_in _ (by omega)
              have e2 : IntKind.i64.wrap (-y) = -y := IntWalk.i64_in _ (by omega)
              go_wp2
              go_quiet (fail)
              clear e1 e2 i1 i2
              try simp only [m1, m2, d3]
              go_wp2
              go_roundw
              case rel => exact ⟨k + 1, r + nq, hlt, by go_num, by rw [z.out], by rw [← hw1'.out]; exact dr_add w r nq⟩
              case measure => simp [intOf]; omega
            · have z := Lib.hid (show (pk xs (k + 1)).1 = (j : Int) by rw [hs.out, show ab x = -x from if_pos h1, show ab y = y from if_neg h2, if_neg h3])
              have m1 : (if x < -x then -x else x) = -x := by split <;> omega
              have m2 : (if y < -y then -y else y) = y := by split <;> omega
              have d3 : decide (y < -x) = false := decide_eq_false h3
              have e1 : IntKind.i64.wrap (-x) = -x := IntWalk.i64_in _ (by omega)
              have e2 : IntKind.i64.wrap (-y) = -y := IntWalk.i64_in _ (by omega)
              go_wp2
              go_quiet (fail)
              clear e1 e2 i1 i2
              try simp only [m1, m2, d3]
              go_wp2
              go_roundw
              case rel => exact ⟨k + 1, r + nq, hlt, by go_num, by rw [z.out], by rw [← hw1'.out]; exact dr_add w r nq⟩
              case measure => simp [intOf]; omega
        · by_cases h2 : y < 0
          · by_cases h3 : -y < x
            · have z := Lib.hid (show (pk xs (k + 1)).1 = (k : Int) by rw [hs.out, show ab x = x from if_neg h1, show ab y = -y from if_pos h2, if_pos h3])
              have m1 : (if x < -x then -x else x) = x := by split <;> omega
              have m2 : (if y < -y then -y else y) = -y := by split <;> omega
              have d3 : decide (-y < x) = true := decide_eq_true h3
              have e1 : IntKind.i64.wrap (-x) = -x := IntWalk.i64_in _ (by omega)
              have e2 : IntKind.i64.wrap (-y) = -y := IntWalk.i64_in _ (by omega)
              go_wp2
              go_quiet (fail)
              clear e1 e2 i1 i2
              try simp only [m1, m2, d3]
              go_wp2
              go_roundw
              case rel => exact ⟨k + 1, r + nq, hlt, by go_num, by rw [z.out], by rw [← hw1'.out]; exact dr_add w r nq⟩
              case measure => simp [intOf]; omega
            · have z := Lib.hid (show (pk xs (k + 1)).1 = (j : Int) by rw [hs.out, show ab x = x from if_neg h1, show ab y = -y from if_pos h2, if_neg h3])
              have m1 : (if x < -x then -x else x) = x := by split <;> omega
              have m2 : (if y < -y then -y else y) = -y := by split <;> omega
              have d3 : decide (-y < x) = false := decide_eq_false h3
              have e1 : IntKind.i64.wrap (-x) = -x := IntWalk.i64_in _ (by omega)
              have e2 : IntKind.i64.wrap (-y) = -y := IntWalk.i64_in _ (by omega)
              go_wp2
              go_quiet (fail)
              clear e1 e2 i1 i2
              try simp only [m1, m2, d3]
              go_wp2
              go_roundw
              case rel => exact ⟨k + 1, r + nq, hlt, by go_num, by rw [z.out], by rw [← hw1'.out]; exact dr_add w r nq⟩
              case measure => simp [intOf]; omega
          · by_cases h3 : y < x
            · have z := Lib.hid (show (pk xs (k + 1)).1 = (k : Int) by rw [hs.out, show ab x = x from if_neg h1, show ab y = y from if_neg h2, if_pos h3])
              have m1 : (if x < -x then -x else x) = x := by split <;> omega
              have m2 : (if y < -y then -y else y) = y := by split <;> omega
              have d3 : decide (y < x) = true := decide_eq_true h3
              have e1 : IntKind.i64.wrap (-x) = -x := IntWalk.i64_in _ (by omega)
              have e2 : IntKind.i64.wrap (-y) = -y := IntWalk.i64_in _ (by omega)
              go_wp2
              go_quiet (fail)
              clear e1 e2 i1 i2
              try simp only [m1, m2, d3]
              go_wp2
              go_roundw
              case rel => exact ⟨k + 1, r + nq, hlt, by go_num, by rw [z.out], by rw [← hw1'.out]; exact dr_add w r nq⟩
              case measure => simp [intOf]; omega
            · have z := Lib.hid (show (pk xs (k + 1)).1 = (j : Int) by rw [hs.out, show ab x = x from if_neg h1, show ab y = y from if_neg h2, if_neg h3])
              have m1 : (if x < -x then -x else x) = x := by split <;> omega
              have m2 : (if y < -y then -y else y) = y := by split <;> omega
              have d3 : decide (y < x) = false := decide_eq_false h3
              have e1 : IntKind.i64.wrap (-x) = -x := IntWalk.i64_in _ (by omega)
              have e2 : IntKind.i64.wrap (-y) = -y := IntWalk.i64_in _ (by omega)
              go_wp2
              go_quiet (fail)
              clear e1 e2 i1 i2
              try simp only [m1, m2, d3]
              go_wp2
              go_roundw
              case rel => exact ⟨k + 1, r + nq, hlt, by go_num, by rw [z.out], by rw [← hw1'.out]; exact dr_add w r nq⟩
              case measure => simp [intOf]; omega
    · have hkn : k = n := by omega
      subst hkn
      go_wp2
      go_ret
      exact ⟨r, rfl, rfl⟩
end Go.Proofs.Ytnkkbohfhinemaa
