/- The law that emphasis and restoring undo each other: its walk. -/
import Derived.Test.YtnkkbohfhinemaaK3
import Derived.Test.YtnkkbohfhinemaaE0
namespace Go.Proofs.Ytnkkbohfhinemaa
open Go.RowKit


set_option maxHeartbeats 4000000 in
theorem restores_any (A : Option Addr) (n c : Nat) (xs : List Int) (num den : Int) (w : World) (h : Sl .i64 w A n c xs) :
    Calls Try.prog 9 #[.slice A n c, .int .i64 num, .int .i64 den] w fun e w' => e = .returned (.bool true) ∧ Below w.heap.size w w' := by
  have hcap := h.cap
  have htop := h.top
  have hl := Lib.hid h.len
  rcases Nat.lt_or_ge 3000 n with hn | hn
  · go_enter Try.func9, Try.ntmps9
    go_wp2_with (go_at_call 22; refine (known_any _).mono ?_; rintro e w1 ⟨rfl, hb1⟩)
    go_ret
    exact ⟨rfl, hb1⟩
  · have hE := Lib.hid (fun w (h : Sl .i64 w A n c xs) => Emphasize_any A n c xs num den w h)
    have hR := Lib.hid (fun w (h : Sl .i64 w A n c xs) => Restore_any A n c xs num den w h)
    by_cases h1 : emC false xs num den = 0
    · have hk := em_back h1
      have hk1 := Lib.hid hk.1
      have hk2 := Lib.hid hk.2
      clear hk
      have h1' := Lib.hid h1
      clear h1
      by_cases h2 : emC true xs num den = 0
      · have hj := em_back h2
        have hj1 := Lib.hid hj.1
        have hj2 := Lib.hid hj.2
        clear hj
        have h2' := Lib.hid h2
        clear h2
        go_enter Try.func9, Try.ntmps9
        go_wp2_with fail
        refine (hE.out _ h).mono ?_
        rintro e w1 ⟨A1, m1, c1, he, hS1, hb1⟩
        rw [h1'.out] at he
        subst he
        go_wp2_with fail
        refine (Restore_any _ _ _ _ _ _ _ hS1).mono ?_
        rintro e w2 ⟨A2, m2, c2, he, hS2, hb2⟩
        rw [show emC true (emL false xs num den) num den = 0 from hk1.out] at he
        rw [show emL true (emL false xs num den) num den = xs from hk2.out] at hS2
        subst he
        have hb12 := hb1.trans (hb2.mono hb1.size)
        go_wp2_with fail
        refine (Same_any _ _ _ _ _ _ _ _ _ hS2 (h.below hb12)).mono ?_
        rintro e w3 ⟨i3, he, rfl⟩
        rw [sameB_yes rfl] at he
        subst he
        have hb3 := bel_drewN hb12 i3
        have h3 := (h.below hb12).drewN i3
        generalize w2.drewN i3 = w3 at *
        go_wp2_with fail
        refine (hR.out _ h3).mono ?_
        rintro e w4 ⟨A4, m4, c4, he, hS4, hb4⟩
        rw [h2'.out] at he
        subst he
        have hb34 := hb3.trans (hb4.mono hb3.size)
        go_wp2_with fail
        refine (Emphasize_any _ _ _ _ _ _ _ hS4).mono ?_
        rintro e w5 ⟨A5, m5, c5, he, hS5, hb5⟩
        rw [show emC false (emL true xs num den) num den = 0 from hj1.out] at he
        rw [show emL false (emL true xs num den) num den = xs from hj2.out] at hS5
        subst he
        have hb45 := hb34.trans (hb5.mono hb34.size)
        go_wp2_with fail
        refine (Same_any _ _ _ _ _ _ _ _ _ hS5 (h.below hb45)).mono ?_
        rintro e w6 ⟨i6, he, rfl⟩
        rw [sameB_yes rfl] at he
        subst he
        have hb6 := bel_drewN hb45 i6
        generalize w5.drewN i6 = w6 at *
        go_wp2_with fail
        refine (known_any _).mono ?_
        rintro e w7 ⟨rfl, hb7⟩
        go_wp2
        go_ret
        exact ⟨rfl, hb6.trans (hb7.mono hb6.size)⟩
      · have h2b : (emC true xs num den == 0) = false := by rw [beq_eq_false_iff_ne]; exact h2
        clear h2
        go_enter Try.func9, Try.ntmps9
        go_wp2_with fail
        refine (hE.out _ h).mono ?_
        rintro e w1 ⟨A1, m1, c1, he, hS1, hb1⟩
        rw [h1'.out] at he
        subst he
        go_wp2_with fail
        refine (Restore_any _ _ _ _ _ _ _ hS1).mono ?_
        rintro e w2 ⟨A2, m2, c2, he, hS2, hb2⟩
        rw [show emC true (emL false xs num den) num den = 0 from hk1.out] at he
        rw [show emL true (emL false xs num den) num den = xs from hk2.out] at hS2
        subst he
        have hb12 := hb1.trans (hb2.mono hb1.size)
        go_wp2_with fail
        refine (Same_any _ _ _ _ _ _ _ _ _ hS2 (h.below hb12)).mono ?_
        rintro e w3 ⟨i3, he, rfl⟩
        rw [sameB_yes rfl] at he
        subst he
        have hb3 := bel_drewN hb12 i3
        have h3 := (h.below hb12).drewN i3
        generalize w2.drewN i3 = w3 at *
        go_wp2_with fail
        refine (hR.out _ h3).mono ?_
        rintro e w4 ⟨A4, m4, c4, rfl, hS4, hb4⟩
        have hb34 := hb3.trans (hb4.mono hb3.size)
        go_wp2_with (go_at_call 22; refine (known_any _).mono ?_; rintro e w7 ⟨rfl, hb7⟩)
        go_ret
        exact ⟨rfl, hb34.trans (hb7.mono hb34.size)⟩
    · have h1b : (emC false xs num den == 0) = false := by rw [beq_eq_false_iff_ne]; exact h1
      clear h1
      by_cases h2 : emC true xs num den = 0
      · have hj := em_back h2
        have hj1 := Lib.hid hj.1
        have hj2 := Lib.hid hj.2
        clear hj
        have h2' := Lib.hid h2
        clear h2
        go_enter Try.func9, Try.ntmps9
        go_wp2_with fail
        refine (hE.out _ h).mono ?_
        rintro e w3 ⟨A1, m1, c1, rfl, hS1, hb3⟩
        have h3 := h.below hb3
        go_wp2_with fail
        refine (hR.out _ h3).mono ?_
        rintro e w4 ⟨A4, m4, c4, he, hS4, hb4⟩
        rw [h2'.out] at he
        subst he
        have hb34 := hb3.trans (hb4.mono hb3.size)
        go_wp2_with fail
        refine (Emphasize_any _ _ _ _ _ _ _ hS4).mono ?_
        rintro e w5 ⟨A5, m5, c5, he, hS5, hb5⟩
        rw [show emC false (emL true xs num den) num den = 0 from hj1.out] at he
        rw [show emL false (emL true xs num den) num den = xs from hj2.out] at hS5
        subst he
        have hb45 := hb34.trans (hb5.mono hb34.size)
        go_wp2_with fail
        refine (Same_any _ _ _ _ _ _ _ _ _ hS5 (h.below hb45)).mono ?_
        rintro e w6 ⟨i6, he, rfl⟩
        rw [sameB_yes rfl] at he
        subst he
        have hb6 := bel_drewN hb45 i6
        generalize w5.drewN i6 = w6 at *
        go_wp2_with fail
        refine (known_any _).mono ?_
        rintro e w7 ⟨rfl, hb7⟩
        go_wp2
        go_ret
        exact ⟨rfl, hb6.trans (hb7.mono hb6.size)⟩
      · have h2b : (emC true xs num den == 0) = false := by rw [beq_eq_false_iff_ne]; exact h2
        clear h2
        go_enter Try.func9, Try.ntmps9
        go_wp2_with fail
        refine (hE.out _ h).mono ?_
        rintro e w3 ⟨A1, m1, c1, rfl, hS1, hb3⟩
        have h3 := h.below hb3
        go_wp2_with fail
        refine (hR.out _ h3).mono ?_
        rintro e w4 ⟨A4, m4, c4, rfl, hS4, hb4⟩
        have hb34 := hb3.trans (hb4.mono hb3.size)
        go_wp2_with (go_at_call 22; refine (known_any _).mono ?_; rintro e w7 ⟨rfl, hb7⟩)
        go_ret
        exact ⟨rfl, hb34.trans (hb7.mono hb34.size)⟩
end Go.Proofs.Ytnkkbohfhinemaa
