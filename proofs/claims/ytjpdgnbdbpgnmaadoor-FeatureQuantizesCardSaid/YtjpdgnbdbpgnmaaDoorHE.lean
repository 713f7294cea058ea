/- Transforms, spectra and slacks: the law's walk. -/
import Derived.Test.YtjpdgnbdbpgnmaaDoorHD
namespace Go.Proofs.YtjpdgnbdbpgnmaaDoor
open Go.RowKit

theorem Same_bel (A A' : Option Addr) (n c n' c' : Nat) (xs : List Int) (w : World) (h : Sl .i64 w A n c xs) (h' : Sl .i64 w A' n' c' xs) :
    Calls Tryd.prog 26 #[.slice A n c, .slice A' n' c'] w fun e w' => e = .returned (.bool true) ∧ Below w.heap.size w w' :=
  (Same_any _ _ _ _ _ _ _ _ _ h h').mono fun e w' ⟨k, h1, h2⟩ => ⟨by rw [h1, sameB_yes rfl], by rw [h2]; exact bel_drewN (Below.refl _ _) k⟩

set_option maxHeartbeats 3200000 in
set_option maxRecDepth 100000 in
theorem transforms_law (A : Option Addr) (n c : Nat) (xs : List Int) (w : World) (h : Sl .i64 w A n c xs) (hT : Tab w) :
    Calls Tryd.prog 4 #[.slice A n c] w (YesF w) := by
  have hl := Lib.hid h.len
  have hcap := h.cap
  have htop := h.top
  rcases Nat.lt_or_ge 70 n with h70 | h70
  · go_enter Tryd.func4, Tryd.ntmps4
    go_wp2_with (go_at_call 17; refine (known_any _ hT).mono ?_; rintro e w7 ⟨rfl, hb7⟩)
    go_ret
    exact ⟨rfl, hb7⟩
  have hT0 := Lib.hid (fun w h' hT' => Transform_any A n c xs w h' hT')
  have hP0 := Lib.hid (fun w h' hT' => Spectrum_any A n c xs w h' hT')
  have hL0 := Lib.hid (fun w h' => Slack_any A n c xs w h')
  have htr := Lib.hid (show trOk xs = (lenB n && allB (-65536) 65536 xs) by unfold trOk; rw [hl.out])
  have hsl := Lib.hid (show slOk xs = (decide (n ≤ 64) && allB (-65536) 65536 xs) by unfold slOk; rw [hl.out])
  rcases Nat.lt_or_ge 64 n with h64 | h64
  · have hk := Lib.hid (show trOk xs = false by
      rw [htr.out]
      cases hq : lenB n with
      | false => rfl
      | true => have := lenB_le hq; omega)
    have hs := Lib.hid (show slOk xs = false by rw [hsl.out, decide_eq_false (by omega)]; rfl)
    go_enter Tryd.func4, Tryd.ntmps4
    go_wp2_with fail
    refine (hT0.out w h hT).mono ?_
    intro e w1 hh
    obtain ⟨rfl, hb1⟩ := (hh.resolve_left (fun h1 => by rw [hk.out] at h1; cases h1.1)).2
    have hT1 := hT.below hb1
    have hS1 := h.below hb1
    go_wp2_with fail
    refine (hP0.out w1 hS1 hT1).mono ?_
    intro e w2 hh
    obtain ⟨rfl, hb2⟩ := (hh.resolve_left (fun h1 => by rw [hk.out] at h1; cases h1.1)).2
    have hb12 := hb1.trans (hb2.mono hb1.size)
    have hT2 := hT.below hb12
    have hS2 := h.below hb12
    go_wp2_with fail
    refine (hL0.out w2 hS2).mono ?_
    rintro e w9 ⟨he, rfl⟩
    rw [if_neg (by rw [hs.out]; decide)] at he
    subst he
    go_wp2_with (go_at_call 17; refine (known_any _ hT2).mono ?_; rintro e w7 ⟨rfl, hb7⟩)
    go_ret
    exact ⟨rfl, hb12.trans (hb7.mono hb12.size)⟩
  cases hAll : allB (-65536) 65536 xs with
  | false =>
    have hk := Lib.hid (show trOk xs = false by rw [htr.out, hAll, Bool.and_false])
    have hs := Lib.hid (show slOk xs = false by rw [hsl.out, hAll, Bool.and_false])
    have hAll := Lib.hid hAll
    go_enter Tryd.func4, Tryd.ntmps4
    go_wp2_with fail
    refine (hT0.out w h hT).mono ?_
    intro e w1 hh
    obtain ⟨rfl, hb1⟩ := (hh.resolve_left (fun h1 => by rw [hk.out] at h1; cases h1.1)).2
    have hT1 := hT.below hb1
    have hS1 := h.below hb1
    go_wp2_with fail
    refine (hP0.out w1 hS1 hT1).mono ?_
    intro e w2 hh
    obtain ⟨rfl, hb2⟩ := (hh.resolve_left (fun h1 => by rw [hk.out] at h1; cases h1.1)).2
    have hb12 := hb1.trans (hb2.mono hb1.size)
    have hT2 := hT.below hb12
    have hS2 := h.below hb12
    go_wp2_with fail
    refine (hL0.out w2 hS2).mono ?_
    rintro e w9 ⟨he, rfl⟩
    rw [if_neg (by rw [hs.out]; decide)] at he
    subst he
    go_wp2_with (first
      | (go_at_call 23; refine (All_any _ _ _ _ _ _ _ hS2).mono ?_; rintro e w' ⟨he, rfl⟩; rw [hAll.out] at he; subst he)
      | (go_at_call 17; refine (known_any _ hT2).mono ?_; rintro e w7 ⟨rfl, hb7⟩))
    go_ret
    exact ⟨rfl, hb12.trans (hb7.mono hb12.size)⟩
  | true =>
  cases hLen : lenB n with
  | false =>
    have hk := Lib.hid (show trOk xs = false by rw [htr.out, hLen]; rfl)
    have hs := Lib.hid (show slOk xs = true by rw [hsl.out, hAll, decide_eq_true h64]; rfl)
    have hAll := Lib.hid hAll
    have hLen := Lib.hid hLen
    go_enter Tryd.func4, Tryd.ntmps4
    go_wp2_with fail
    refine (hT0.out w h hT).mono ?_
    intro e w1 hh
    obtain ⟨rfl, hb1⟩ := (hh.resolve_left (fun h1 => by rw [hk.out] at h1; cases h1.1)).2
    have hT1 := hT.below hb1
    have hS1 := h.below hb1
    go_wp2_with fail
    refine (hP0.out w1 hS1 hT1).mono ?_
    intro e w2 hh
    obtain ⟨rfl, hb2⟩ := (hh.resolve_left (fun h1 => by rw [hk.out] at h1; cases h1.1)).2
    have hb12 := hb1.trans (hb2.mono hb1.size)
    have hT2 := hT.below hb12
    have hS2 := h.below hb12
    go_wp2_with fail
    refine (hL0.out w2 hS2).mono ?_
    rintro e w9 ⟨he, rfl⟩
    rw [if_pos (by rw [hs.out])] at he
    subst he
    generalize hsn : slN xs = sn at *
    have hR := Lib.hid (fun w' (h' : Sl .i64 w' A n c xs) => hsn ▸ RSlack_any A n c xs w' h' (by omega) hAll.out)
    clear hsn
    go_wp2_with (first
      | (go_at_call 23; refine (All_any _ _ _ _ _ _ _ hS2).mono ?_; rintro e w' ⟨he, rfl⟩; rw [hAll.out] at he; subst he)
      | (go_at_call 24; refine (hR.out _ hS2).mono ?_; rintro e w3 ⟨rfl, k0, hw3⟩
         have hb3 : Below w.heap.size w w3 := by rw [hw3]; exact bel_drewN hb12 k0
         have hT3 := hT.below hb3
         clear hw3)
      | (go_at_call 25; refine (RLength_any _ _).mono ?_; rintro e w' ⟨he, rfl⟩; rw [hLen.out] at he; subst he)
      | (go_at_call 17; refine (known_any _ hT3).mono ?_; rintro e w7 ⟨rfl, hb7⟩))
    go_ret
    exact ⟨rfl, hb3.trans (hb7.mono hb3.size)⟩
  | true =>
    have hk := Lib.hid (show trOk xs = true by rw [htr.out, hLen, hAll]; rfl)
    have hs := Lib.hid (show slOk xs = true by rw [hsl.out, hAll, decide_eq_true h64]; rfl)
    have hAll := Lib.hid hAll
    have hLen := Lib.hid hLen
    have hlt := Lib.hid (show (trL xs).length = n by unfold trL; rw [tab_len, hl.out])
    have hlp := Lib.hid (show (spL xs).length = n by unfold spL; rw [tab_len, hl.out])
    go_enter Tryd.func4, Tryd.ntmps4
    go_wp2_with fail
    refine (hT0.out w h hT).mono ?_
    intro e w1 hh
    obtain ⟨g1, rfl, hM1, hb1, hg1⟩ := (hh.resolve_right (fun h1 => by rw [hk.out] at h1; cases h1.1)).2
    have hT1 := hT.below hb1
    have hS1 := h.below hb1
    go_wp2_with fail
    refine (hP0.out w1 hS1 hT1).mono ?_
    intro e w2 hh
    obtain ⟨g2, rfl, hM2, hb2, hg2⟩ := (hh.resolve_right (fun h1 => by rw [hk.out] at h1; cases h1.1)).2
    have hb12 := hb1.trans (hb2.mono hb1.size)
    have hT2 := hT.below hb12
    have hS2 := h.below hb12
    go_wp2_with fail
    refine (hL0.out w2 hS2).mono ?_
    rintro e w9 ⟨he, rfl⟩
    rw [if_pos (by rw [hs.out])] at he
    subst he
    have hA1 := (hM1.below hb2).sl hlt.out (by omega)
    have hA2 := hM2.sl hlp.out (by omega)
    clear hM1 hM2
    generalize hsn : slN xs = sn at *
    have hR := Lib.hid (fun w' (h' : Sl .i64 w' A n c xs) => hsn ▸ RSlack_any A n c xs w' h' (by omega) hAll.out)
    clear hsn
    go_wp2_with (first
      | (go_at_call 23; refine (All_any _ _ _ _ _ _ _ hS2).mono ?_; rintro e w' ⟨he, rfl⟩; rw [hAll.out] at he; subst he)
      | (go_at_call 24; refine (hR.out _ hS2).mono ?_; rintro e w3 ⟨rfl, k0, hw3⟩
         have hb23 : Below w9.heap.size w9 w3 := by rw [hw3]; exact bel_drewN (Below.refl _ _) k0
         have hb3 := hb12.trans (hb23.mono hb12.size)
         have hT3 := hT.below hb3
         have hS3 := h.below hb3
         have hA13 := hA1.below hb23
         have hA23 := hA2.below hb23
         clear hw3)
      | (go_at_call 25; refine (RLength_any _ _).mono ?_; rintro e w' ⟨he, rfl⟩; rw [hLen.out] at he; subst he)
      | (go_at_call 27; refine (RTransform_any _ _ _ _ _ hS3 hT3 hk.out).mono ?_; rintro e w4 ⟨g4, rfl, hM4, hb34, hg4⟩
         have hb4 := hb3.trans (hb34.mono hb3.size)
         have hB4 := hM4.sl hlt.out (by omega)
         have hA14 := hA13.below hb34
         have hA24 := hA23.below hb34)
      | (go_at_call 26; refine (Same_bel _ _ _ _ _ _ _ _ hA14 hB4).mono ?_; rintro e w5 ⟨rfl, hb45⟩
         have hb5 := hb4.trans (hb45.mono hb4.size)
         have hT5 := hT.below hb5
         have hS5 := h.below hb5
         have hA25 := hA24.below hb45
         clear hA14 hB4 hA13 hA23 hA24)
      | (go_at_call 28; refine (RSpectrum_any _ _ _ _ _ hS5 hT5 hk.out).mono ?_; rintro e w6 ⟨g6, rfl, hM6, hb56, hg6⟩
         have hb6 := hb5.trans (hb56.mono hb5.size)
         have hB6 := hM6.sl hlp.out (by omega)
         have hA26 := hA25.below hb56)
      | (go_at_call 26; refine (Same_bel _ _ _ _ _ _ _ _ hA26 hB6).mono ?_; rintro e w8 ⟨rfl, hb68⟩
         have hb8 := hb6.trans (hb68.mono hb6.size)
         have hT8 := hT.below hb8)
      | (go_at_call 17; refine (known_any _ hT8).mono ?_; rintro e w7 ⟨rfl, hb7⟩))
    go_ret
    exact ⟨rfl, hb8.trans (hb7.mono hb8.size)⟩
end Go.Proofs.YtjpdgnbdbpgnmaaDoor
