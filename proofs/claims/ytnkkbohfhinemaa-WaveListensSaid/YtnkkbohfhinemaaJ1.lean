/- A listener that is fed in pieces: the first loop, and the ways that end early. -/
import Derived.Test.YtnkkbohfhinemaaJ0
namespace Go.Proofs.Ytnkkbohfhinemaa
open Go.RowKit

abbrev YesJ (w : World) (e : Ending) (w' : World) : Prop := e = .returned (.bool true) ∧ Below w.heap.size w w'

set_option maxHeartbeats 3200000 in
set_option maxRecDepth 100000 in
theorem ls_early (A0 : Option Addr) (n0 c0 : Nat) (B : Nat → Option Addr) (L C : Nat → Nat) (X : Nat → List Int) (A2 : Option Addr) (n2 c2 : Nat) (ys : List Int) (b h l r f d x : Int) (w : World) (hR : Rs w A0 n0 c0 B L C X) (hS2 : Sl .i64 w A2 n2 c2 ys)
    (hearly : ¬ ((∀ r, r < n0 → allB (-32768) 32767 (X r) = true) ∧ n0 ≤ 30 ∧ sumL L n0 ≤ 2000 ∧ n2 ≤ 100)) :
    Calls Try.prog 16 #[.slice A0 n0 c0, gtV b h l r f d x, .slice A2 n2 c2] w (YesJ w) := by
  have hcap0 := hR.cap
  have htop0 := hR.top
  have hcap2 := hS2.cap
  have htop2 := hS2.top
  have hb1 : Below w.heap.size w (w.alloc (.cells #[.int .i64 b, .int .i64 h, .int .i64 l, .int .i64 r, .int .i64 f, .int .i64 d, .int .i64 x] 65)) := (Below.refl _ _).alloc (Nat.le_refl _) _
  have hR1 := hR.below hb1
  unfold gtV
  have hearly := Lib.hid hearly
  go_enter Try.func16, Try.ntmps16
  go_wp2
  generalize w.alloc (.cells #[.int .i64 b, .int .i64 h, .int .i64 l, .int .i64 r, .int .i64 f, .int .i64 d, .int .i64 x] 65) = w1 at *
  go_loop [7, 8] (fun nv iv => ∃ (k : Nat) (s : Int), k ≤ n0 ∧ iv = .int .i64 k ∧ nv = .int .i64 s ∧ Hid (n0 ≤ 30 → s = (sumL L k : Nat)) ∧ Hid (∀ r, r < k → allB (-32768) 32767 (X r) = true)) (fun _ iv => n0 - (intOf iv).toNat)
  case atStart => exact ⟨0, 0, Nat.zero_le _, rfl, rfl, fun _ => rfl, fun r h => absurd h (by omega)⟩
  case round =>
    obtain ⟨k, s, hk, rfl, rfl, hs, hgood⟩ := hrel
    rcases Nat.lt_or_ge k n0 with hlt | hge
    · obtain ⟨ad, rfl, hc⟩ := hR1.at_ hlt
      have hrow := hR1.row k hlt
      have hrc := hrow.cap
      have hrt := hrow.top
      have i1 : (k : Int) < (n0 : Int) := by omega
      have hfew := hR.few k hlt
      cases hx : allB (-32768) 32767 (X k) with
      | false =>
        have hx := Lib.hid hx
        generalize B k = Bk at *
        generalize L k = Lk at *
        generalize C k = Ck at *
        go_wp2_with fail
        refine (All_any _ _ _ _ _ _ _ hrow).mono ?_
        rintro e w' ⟨he, rfl⟩
        rw [hx.out] at he
        subst he
        go_wp2_with fail
        refine (known_any _).mono ?_
        rintro e w7 ⟨rfl, hb7⟩
        go_wp2
        go_ret
        exact ⟨rfl, hb1.trans (hb7.mono hb1.size)⟩
      | true =>
        have hx := Lib.hid hx
        have hgood2 : Hid (∀ r, r < k + 1 → allB (-32768) 32767 (X r) = true) := fun r hr => by
          rcases Nat.lt_or_ge r k with h1 | h1
          · exact hgood.out r h1
          · have : r = k := by omega
            subst this; exact hx.out
        rcases Nat.lt_or_ge 30 n0 with h30 | h30
        · generalize B k = Bk at *
          generalize L k = Lk at *
          generalize C k = Ck at *
          go_wp2_with fail
          refine (All_any _ _ _ _ _ _ _ hrow).mono ?_
          rintro e w' ⟨he, rfl⟩
          rw [hx.out] at he
          subst he
          go_wp2
          go_round
          case rel => exact ⟨k + 1, _, by omega, by go_num, rfl, fun h => absurd h (by omega), hgood2⟩
          case measure => simp [intOf]; omega
        · have hs2 := hs.out h30
          have hbd := sumL_bd (L := L) (m := 17592186044416) (n := k) (fun r hr => hR.few r (by omega))
          have hbd2 : k * 17592186044416 ≤ 30 * 17592186044416 := Nat.mul_le_mul_right _ (by omega)
          have hnx : Hid (n0 ≤ 30 → s + (L k : Int) = ((sumL L (k + 1) : Nat) : Int)) := fun _ => by
            rw [hs2, show sumL L (k + 1) = sumL L k + L k from rfl, Int.natCast_add]
          have hs3 : 0 ≤ s := by omega
          have hs4 : s ≤ 1000000000000000 := by omega
          clear hs2 hbd hbd2
          generalize B k = Bk at *
          generalize L k = Lk at *
          generalize C k = Ck at *
          go_wp2_with fail
          refine (All_any _ _ _ _ _ _ _ hrow).mono ?_
          rintro e w' ⟨he, rfl⟩
          rw [hx.out] at he
          subst he
          go_wp2
          go_round
          case rel => exact ⟨k + 1, _, by omega, by go_num, rfl, hnx, hgood2⟩
          case measure => simp [intOf]; omega
    · have hkn : k = n0 := by omega
      subst hkn
      by_cases hs0 : 2000 < s
      · go_wp2_with fail
        refine (known_any _).mono ?_
        rintro e w7 ⟨rfl, hb7⟩
        go_wp2
        go_ret
        exact ⟨rfl, hb1.trans (hb7.mono hb1.size)⟩
      · have d0 : decide (2000 < s) = false := decide_eq_false hs0
        rcases Nat.lt_or_ge 30 k with h30 | h30
        · have d1 : decide ((30 : Int) < (k : Int)) = true := decide_eq_true (by omega)
          go_wp2_with fail
          refine (known_any _).mono ?_
          rintro e w7 ⟨rfl, hb7⟩
          go_wp2
          go_ret
          exact ⟨rfl, hb1.trans (hb7.mono hb1.size)⟩
        · have d1 : decide ((30 : Int) < (k : Int)) = false := decide_eq_false (by omega)
          have h4 : 100 < n2 := by
            rcases Nat.lt_or_ge 100 n2 with h4 | h4
            · exact h4
            · exact absurd ⟨hgood.out, h30, by have := hs.out h30; omega, h4⟩ hearly.out
          have d2 : decide ((100 : Int) < (n2 : Int)) = true := decide_eq_true (by omega)
          go_wp2_with fail
          refine (known_any _).mono ?_
          rintro e w7 ⟨rfl, hb7⟩
          go_wp2
          go_ret
          exact ⟨rfl, hb1.trans (hb7.mono hb1.size)⟩
end Go.Proofs.Ytnkkbohfhinemaa
