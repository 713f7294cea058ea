/- Equality of lists; the segments of a list. -/
import Derived.Test.YtobobbhifajhmaaL9
namespace Go.Proofs.Ytobobbhifajhmaa
open Go.RowKit

theorem dr_add (w : World) (i j : Nat) : (w.drewN i).drewN j = w.drewN (i + j) := by unfold World.drewN; simp [Nat.add_assoc]

def sameB (xs ys : List Int) : Bool := decide (xs = ys)
theorem sameB_yes {xs ys : List Int} (h : xs = ys) : sameB xs ys = true := decide_eq_true h
theorem sameB_no {xs ys : List Int} (h : xs ≠ ys) : sameB xs ys = false := decide_eq_false h

set_option maxHeartbeats 800000 in
theorem Same_any (A A' : Option Addr) (n c n' c' : Nat) (xs ys : List Int) (w : World) (h : Sl .i64 w A n c xs) (h' : Sl .i64 w A' n' c' ys) :
    Calls Try.prog 30 #[.slice A n c, .slice A' n' c'] w fun e w' => ∃ k, e = .returned (.bool (sameB xs ys)) ∧ w' = w.drewN k := by
  have hl := Lib.hid h.len
  have hl' := Lib.hid h'.len
  have hcap := h.cap
  have htop := h.top
  have hcap' := h'.cap
  by_cases hn : n = n'
  · subst hn
    go_enter Try.func30, Try.ntmps30
    go_wp2
    go_loopw [5] (fun iv wr => ∃ k r : Nat, iv = .int .i64 k ∧ k ≤ n ∧ Hid (xs.take k = ys.take k) ∧ wr = w.drewN r) (fun iv _ => n - (intOf iv).toNat)
    case atStart => exact ⟨0, 0, rfl, Nat.zero_le _, rfl, rfl⟩
    case round =>
      obtain ⟨k, r, rfl, hk, he, rfl⟩ := hrel
      have hr := h.drewN r
      have hr' := h'.drewN r
      generalize hw : w.drewN r = w1 at *
      have hw := Lib.hid hw
      rcases Nat.lt_or_ge k n with hlt | hge
      · obtain ⟨ad, x, rfl, hc, hx⟩ := hr.at_ hlt
        obtain ⟨ad', y, rfl, hc', hy⟩ := hr'.at_ hlt
        have i1 : (k : Int) < (n : Int) := by omega
        by_cases hxy : x = y
        · subst hxy
          have hs := Lib.hid (show xs.take (k + 1) = ys.take (k + 1) by rw [take_snocD (by rw [hl.out]; exact hlt) hx.out, take_snocD (by rw [hl'.out]; exact hlt) hy.out, he.out])
          go_wp2
          go_quiet (fail)
          go_wp2
          go_roundw
          case rel => exact ⟨k + 1, r + nq, by go_num, hlt, hs.out, by rw [← hw.out]; exact dr_add w r nq⟩
          case measure => simp [intOf]; omega
        · have hs := Lib.hid (sameB_no (xs := xs) (ys := ys) (fun e => hxy (by rw [← hx.out, ← hy.out, e])))
          have hb : (x == y) = false := by simpa using hxy
          have hb' : (x != y) = true := by simpa using hxy
          go_wp2
          go_quiet (fail)
          go_wp2
          go_ret
          exact ⟨r + nq, ret_bool hs.out.symm, by rw [← hw.out]; exact dr_add w r nq⟩
      · have hkn : k = n := by omega
        subst hkn
        have hs := Lib.hid (sameB_yes (xs := xs) (ys := ys) (by have := he.out; rw [List.take_of_length_le (by rw [hl.out]; exact Nat.le_refl _), List.take_of_length_le (by rw [hl'.out]; exact Nat.le_refl _)] at this; exact this))
        go_wp2
        go_ret
        exact ⟨r, ret_bool hs.out.symm, hw.out.symm⟩
  · have hs := Lib.hid (sameB_no (xs := xs) (ys := ys) (fun e => hn (by rw [← hl.out, ← hl'.out, e])))
    have hb : ((n : Int) != (n' : Int)) = true := by simp; omega
    have hb2 : decide (n = n') = false := by simpa using hn
    go_enter Try.func30, Try.ntmps30
    go_wp2
    go_ret
    exact ⟨0, ret_bool hs.out.symm, rfl⟩
end Go.Proofs.Ytobobbhifajhmaa
