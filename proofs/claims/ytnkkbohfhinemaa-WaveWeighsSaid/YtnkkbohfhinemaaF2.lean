/- The law of emphases: its walk. -/
import Derived.Test.YtnkkbohfhinemaaF1
import Derived.Test.YtnkkbohfhinemaaK3
namespace Go.Proofs.Ytnkkbohfhinemaa
open Go.RowKit

set_option maxHeartbeats 4000000 in
theorem emphasizes_any (A : Option Addr) (n c : Nat) (xs : List Int) (num den : Int) (w : World) (h : Sl .i64 w A n c xs) :
    Calls Try.prog 8 #[.slice A n c, .int .i64 num, .int .i64 den] w fun e w' => e = .returned (.bool true) ∧ Below w.heap.size w w' := by
  have hcap := h.cap
  have htop := h.top
  have hsh := Lib.hid (fun w => short_any (n : Int) w)
  cases hs : shB (n : Int) with
  | false =>
    go_enter Try.func8, Try.ntmps8
    go_wp2_with (first | (go_at_call 21; refine (hsh.out _).mono ?_; rintro e w1 ⟨rfl, rfl⟩) | (go_at_call 22; refine (known_any _).mono ?_; rintro e w1 ⟨rfl, hb1⟩))
    go_ret
    exact ⟨rfl, hb1⟩
  | true =>
    go_enter Try.func8, Try.ntmps8
    go_wp2_with (go_at_call 21; refine (hsh.out _).mono ?_; rintro e w1 ⟨rfl, rfl⟩)
    clear hs
    refine (Emphasize_any A n c xs num den _ h).mono ?_
    rintro e w1 ⟨A1, m1, c1, rfl, hS1, hb1⟩
    go_wp2_with fail
    refine (Restore_any A n c xs num den _ (h.below hb1)).mono ?_
    rintro e w2 ⟨A2, m2, c2, rfl, hS2, hb2⟩
    have hS1 := hS1.below hb2
    have hb2 := hb1.trans (hb2.mono hb1.size)
    go_wp2_with fail
    refine (Emphasis_false A n c xs num den _ (h.below hb2)).mono ?_
    rintro e w3 ⟨A3, m3, c3, rfl, hS3, hb3⟩
    have hS1 := hS1.below hb3
    have hS2 := hS2.below hb3
    have hb3 := hb2.trans (hb3.mono hb2.size)
    go_wp2_with fail
    refine (Emphasis_true A n c xs num den _ (h.below hb3)).mono ?_
    rintro e w4 ⟨A4, m4, c4, rfl, hS4, hb4⟩
    have hS1 := hS1.below hb4
    have hS2 := hS2.below hb4
    have hS3 := hS3.below hb4
    have hb4 := hb3.trans (hb4.mono hb3.size)
    generalize emC false xs num den = cf at *
    generalize emC true xs num den = ct at *
    go_wp2_with fail
    refine (Same_any _ _ _ _ _ _ _ _ _ hS1 hS3).mono ?_
    rintro e w5 ⟨i5, he, rfl⟩
    rw [sameB_yes rfl] at he
    subst he
    have hb5 := bel_drewN hb4 i5
    have hS2 := hS2.drewN i5
    have hS4 := hS4.drewN i5
    generalize w4.drewN i5 = w5 at *
    go_wp2_with fail
    refine (Same_any _ _ _ _ _ _ _ _ _ hS2 hS4).mono ?_
    rintro e w6 ⟨i6, he, rfl⟩
    rw [sameB_yes rfl] at he
    subst he
    have hb6 := bel_drewN hb5 i6
    generalize w5.drewN i6 = w6 at *
    go_wp2_with fail
    refine (known_any _).mono ?_
    rintro e w7 ⟨rfl, hb7⟩
    go_wp2
    go_ret
    exact ⟨rfl, hb6.trans (hb7.mono hb6.size)⟩
end Go.Proofs.Ytnkkbohfhinemaa
