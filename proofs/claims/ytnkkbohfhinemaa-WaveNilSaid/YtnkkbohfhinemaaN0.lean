/- Listeners that are nil or zero: the law's walk. -/
import Derived.Test.YtnkkbohfhinemaaK3
namespace Go.Proofs.Ytnkkbohfhinemaa
open Go.RowKit

theorem silent_nil (A : Option Addr) (n c : Nat) (w : World) : Calls Try.prog 60 #[.pointer none, .slice A n c] w fun e w' => ∃ k, e = .returned (.bool true) ∧ w' = w.drewN k := by
  go_enter Try.func60, Try.ntmps60
  go_wp2_with (first | (go_at_call 56; refine (Feed_nil _ _ _ _).mono ?_; rintro e w' ⟨rfl, rfl⟩) | (go_at_call 58; refine (Close_nil _).mono ?_; rintro e w' ⟨rfl, rfl⟩) | (go_at_call 57; refine (At_nil _).mono ?_; rintro e w' ⟨rfl, rfl⟩))
  go_ret
  exact ⟨0, rfl, rfl⟩
theorem silent_zero (g : Nat) (A : Option Addr) (n c : Nat) (w : World) (h : LB w g G0 0 (.slice none 0 0) 0 0 0 0) : Calls Try.prog 60 #[.pointer (some ⟨g, 0, none⟩), .slice A n c] w fun e w' => ∃ k, e = .returned (.bool true) ∧ w' = w.drewN k := by
  go_enter Try.func60, Try.ntmps60
  go_wp2_with (first | (go_at_call 56; refine (Feed_zero _ _ _ _ _ _ _ _ _ _ _ h).mono ?_; rintro e w' ⟨rfl, rfl⟩) | (go_at_call 58; refine (Close_zero _ _ _ _ _ _ _ _ h).mono ?_; rintro e w' ⟨rfl, rfl⟩) | (go_at_call 57; refine (At_zero _ _ _ _ _ _ _ _ h).mono ?_; rintro e w' ⟨rfl, rfl⟩))
  go_ret
  exact ⟨0, rfl, rfl⟩

set_option maxHeartbeats 1600000 in
theorem nil_any (A : Option Addr) (n c : Nat) (xs : List Int) (w : World) (h : Sl .i64 w A n c xs) :
    Calls Try.prog 20 #[.slice A n c] w fun e w' => e = .returned (.bool true) ∧ Below w.heap.size w w' := by
  have hcap := h.cap
  have htop := h.top
  rcases Nat.lt_or_ge 1000 n with hn | hn
  · go_enter Try.func20, Try.ntmps20
    go_wp2_with (go_at_call 22; refine (known_any _).mono ?_; rintro e w1 ⟨rfl, hb1⟩)
    go_ret
    exact ⟨rfl, hb1⟩
  · go_enter Try.func20, Try.ntmps20
    go_wp2_with fail
    have hL : LB (w.alloc (.cells (lcs G0 0 (.slice none 0 0) 0 0 0 0) 89)) w.heap.size G0 0 (.slice none 0 0) 0 0 0 0 := Blk.new w _ _
    have hb : Below w.heap.size w (w.alloc (.cells (lcs G0 0 (.slice none 0 0) 0 0 0 0) 89)) := (Below.refl _ _).alloc (Nat.le_refl _) _
    change Calls _ _ _ (w.alloc (.cells (lcs G0 0 (.slice none 0 0) 0 0 0 0) 89)) _
    generalize w.alloc (.cells (lcs G0 0 (.slice none 0 0) 0 0 0 0) 89) = w1 at *
    refine (silent_nil _ _ _ _).mono ?_
    rintro e w2 ⟨k, rfl, rfl⟩
    have hL2 : LB (w1.drewN k) w.heap.size G0 0 (.slice none 0 0) 0 0 0 0 := hL
    have hb2 := bel_drewN hb k
    generalize w1.drewN k = w2 at *
    go_wp2_with fail
    refine (silent_zero _ _ _ _ _ hL2).mono ?_
    rintro e w3 ⟨k3, rfl, rfl⟩
    have hb3 := bel_drewN hb2 k3
    generalize w2.drewN k3 = w3 at *
    go_wp2_with fail
    refine (known_any _).mono ?_
    rintro e w4 ⟨rfl, hb4⟩
    go_wp2
    go_ret
    exact ⟨rfl, hb3.trans (hb4.mono hb3.size)⟩
end Go.Proofs.Ytnkkbohfhinemaa
