/- Inverse transforms, transforms, spectra and slacks: the laws' walks. -/
import Derived.Test.YtjpdgnbdbpgnmaaDoorHC
import Derived.Test.YtjpdgnbdbpgnmaaDoorHA
namespace Go.Proofs.YtjpdgnbdbpgnmaaDoor
open Go.RowKit

theorem Same_yes (A A' : Option Addr) (n c n' c' : Nat) (xs : List Int) (w : World) (h : Sl .i64 w A n c xs) (h' : Sl .i64 w A' n' c' xs) :
    Calls Tryd.prog 26 #[.slice A n c, .slice A' n' c'] w fun e w' => ∃ k, e = .returned (.bool true) ∧ w' = w.drewN k :=
  (Same_any _ _ _ _ _ _ _ _ _ h h').mono fun e w' ⟨k, h1, h2⟩ => ⟨k, by rw [h1, sameB_yes rfl], h2⟩

set_option maxHeartbeats 1600000 in
set_option maxRecDepth 100000 in
theorem inverses_law (A : Option Addr) (n c : Nat) (ts : List Int) (w : World) (h : Sl .i64 w A n c ts) (hT : Tab w) :
    Calls Tryd.prog 5 #[.slice A n c] w (YesF w) := by
  have hl := Lib.hid h.len
  have hcap := h.cap
  have htop := h.top
  rcases Nat.lt_or_ge 70 n with h70 | h70
  · go_enter Tryd.func5, Tryd.ntmps5
    go_wp2_with (go_at_call 17; refine (known_any _ hT).mono ?_; rintro e w7 ⟨rfl, hb7⟩)
    go_ret
    exact ⟨rfl, hb7⟩
  · have hI := Lib.hid (Inverse_any A n c ts w h hT)
    have hok := Lib.hid (show ivOk ts = (lenB n && allB (-1099511627776) 1099511627776 ts) by unfold ivOk; rw [hl.out])
    cases hLen : lenB n with
    | false =>
      have hno := Lib.hid (show ivOk ts = false by rw [hok.out, hLen]; rfl)
      have hLen := Lib.hid hLen
      go_enter Tryd.func5, Tryd.ntmps5
      go_wp2_with fail
      refine hI.out.mono ?_
      rintro e w1 (⟨h1, _⟩ | ⟨_, rfl, hb1⟩)
      · rw [hno.out] at h1; cases h1
      have hT1 := hT.below hb1
      go_wp2_with (first
        | (go_at_call 25; refine (RLength_any _ _).mono ?_; rintro e w' ⟨he, rfl⟩; rw [hLen.out] at he; subst he)
        | (go_at_call 17; refine (known_any _ hT1).mono ?_; rintro e w7 ⟨rfl, hb7⟩))
      go_ret
      exact ⟨rfl, hb1.trans (hb7.mono hb1.size)⟩
    | true =>
      cases hAll : allB (-1099511627776) 1099511627776 ts with
      | false =>
        have hno := Lib.hid (show ivOk ts = false by rw [hok.out, hLen, hAll]; rfl)
        have hLen := Lib.hid hLen
        have hAll := Lib.hid hAll
        go_enter Tryd.func5, Tryd.ntmps5
        go_wp2_with fail
        refine hI.out.mono ?_
        rintro e w1 (⟨h1, _⟩ | ⟨_, rfl, hb1⟩)
        · rw [hno.out] at h1; cases h1
        have hT1 := hT.below hb1
        have hS1 := h.below hb1
        go_wp2_with (first
          | (go_at_call 25; refine (RLength_any _ _).mono ?_; rintro e w' ⟨he, rfl⟩; rw [hLen.out] at he; subst he)
          | (go_at_call 23; refine (All_any _ _ _ _ _ _ _ hS1).mono ?_; rintro e w' ⟨he, rfl⟩; rw [hAll.out] at he; subst he)
          | (go_at_call 17; refine (known_any _ hT1).mono ?_; rintro e w7 ⟨rfl, hb7⟩))
        go_ret
        exact ⟨rfl, hb1.trans (hb7.mono hb1.size)⟩
      | true =>
        have hyes := Lib.hid (show ivOk ts = true by rw [hok.out, hLen, hAll]; rfl)
        have hn64 := (lenB_le hLen).2.1
        have hLen := Lib.hid hLen
        have hAll := Lib.hid hAll
        have hiL : (ivL ts).length = n := by unfold ivL; rw [tab_len, hl.out]
        have hiL := Lib.hid hiL
        go_enter Tryd.func5, Tryd.ntmps5
        go_wp2_with fail
        refine hI.out.mono ?_
        intro e w1 hh
        obtain ⟨g, rfl, hM, hb1, hg⟩ := (hh.resolve_right (fun h1 => by rw [hyes.out] at h1; cases h1.1)).2
        have hT1 := hT.below hb1
        have hS1 := h.below hb1
        have hM1 := hM.sl hiL.out (by omega)
        go_wp2_with (first
          | (go_at_call 25; refine (RLength_any _ _).mono ?_; rintro e w' ⟨he, rfl⟩; rw [hLen.out] at he; subst he)
          | (go_at_call 23; refine (All_any _ _ _ _ _ _ _ hS1).mono ?_; rintro e w' ⟨he, rfl⟩; rw [hAll.out] at he; subst he)
          | (go_at_call 30; refine (RInverse_any _ _ _ _ _ hS1 hT1 hyes.out).mono ?_; rintro e w2 ⟨g2, rfl, hM2, hb2, hg2⟩
             have hA2 := hM1.below hb2
             have hB2 := hM2.sl hiL.out (by omega)
             have hbb2 := hb1.trans (hb2.mono hb1.size))
          | (go_at_call 26; refine (Same_yes _ _ _ _ _ _ _ _ hA2 hB2).mono ?_; rintro e w3 ⟨k, rfl, rfl⟩
             have hT3 := (hT.below hbb2).drewN k
             have hbb3 := bel_drewN hbb2 k)
          | (go_at_call 17; refine (known_any _ hT3).mono ?_; rintro e w7 ⟨rfl, hb7⟩))
        go_ret
        exact ⟨rfl, hbb3.trans (hb7.mono hbb3.size)⟩
end Go.Proofs.YtjpdgnbdbpgnmaaDoor
