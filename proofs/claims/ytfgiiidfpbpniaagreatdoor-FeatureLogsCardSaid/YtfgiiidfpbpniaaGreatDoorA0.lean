/- The reference's functions on natural numbers (digits of 32 bits): each returns what its Lean counterpart says. -/
import Derived.WalkKit
import Derived.Outline
import Derived.WalkLawsBesides
import Derived.WalkSpells
import Derived.Handy
import Derived.Deep.QuietTactic
import Derived.BigQuiet
import Derived.Test.YtfgiiidfpbpniaaGreatDoorProg
import Derived.Test.YtfgiiidfpbpniaaGreatDoorNum
namespace Go.Proofs.YtfgiiidfpbpniaaGreatDoor.Fr
open Go.RowKit Num

set_option maxHeartbeats 400000 in
theorem trim_any (A : Option Addr) (n c : Nat) (xs : List Nat) (w : World) (h : Dg .u32 w A n c xs) :
    Calls Tryz.prog 71 #[.slice A n c] w fun e w' => e = .returned (.slice A (tl xs) c) ∧ w = w' := by
  have hn := h.cap
  have hc := h.top
  have HT : Hid (tln xs n = tl xs) := by rw [tl, h.len]; rfl
  go_enter Tryz.func71, Tryz.ntmps71
  go_wp2
  go_loop [3] (fun i => ∃ k : Nat, k ≤ n ∧ i = .int .i64 k ∧ Hid (tln xs k = tl xs)) (fun i => (intOf i).toNat)
  case atStart => exact ⟨n, Nat.le_refl _, rfl, HT⟩
  case round =>
    obtain ⟨k, hk, rfl, hr⟩ := hrel
    cases k with
    | zero =>
      go_wp2
      go_ret
      exact ⟨ret_sl hr.out, rfl⟩
    | succ k =>
      obtain ⟨ad, x, rfl, hcell, hx⟩ := h.at_ (j := k) (by omega)
      by_cases h0 : x = 0
      · have HS : Hid (tln xs (k + 1) = tln xs k) := tln_zero (hx.out.1.trans h0)
        have hb : ((x : Int) == 0) = true := by rw [h0]; rfl
        clear h0
        go_wp2
        go_round
        case rel => exact ⟨k, by omega, rfl, HS.out.symm.trans hr.out⟩
        case measure => simp [intOf]
      · have HS : Hid (tln xs (k + 1) = k + 1) := tln_not (by rw [hx.out.1]; exact h0)
        have hb : ((x : Int) == 0) = false := by rw [beq_eq_false_iff_ne]; omega
        clear h0
        go_wp2
        go_ret
        exact ⟨ret_sl (HS.out.symm.trans hr.out), rfl⟩

end Go.Proofs.YtfgiiidfpbpniaaGreatDoor.Fr
