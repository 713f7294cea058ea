/- The nearest codewords of vectors, and their cost: the law's walk. -/
import Derived.Test.YtoljffghaklpdaaDoorHM
namespace Go.Proofs.YtoljffghaklpdaaDoor
open Go.RowKit

set_option maxHeartbeats 6400000 in
set_option maxRecDepth 100000 in
theorem quantizes_law (A : Option Addr) (N c : Nat) (vs : List (List Int)) (A' : Option Addr) (n c' : Nat) (us : List (List Int)) (w : World) (h : Rr w A N c vs) (h' : Rr w A' n c' us) (hT : Tab w) :
    Calls Tryd.prog 14 #[.slice A N c, .slice A' n c'] w (YesF w) := by
  have hl := Lib.hid h.len
  have hl' := Lib.hid h'.len
  have hcap := h.cap
  have htop := h.top
  have hcap' := h'.cap
  have htop' := h'.top
  have hF := Lib.hid (few_any A N c 40 vs w h (by decide))
  have hF' := Lib.hid (few_any A' n c' 40 us w h' (by decide))
  go_enter Tryd.func14, Tryd.ntmps14
  go_wp2_with fail
  refine hF.out.mono ?_
  rintro e w1 ⟨⟨b, rfl⟩, hw1⟩
  rw [hw1]
  clear hw1
  cases b
  · go_wp2_with fail
    refine (known_any _ hT).mono ?_
    rintro e w7 ⟨rfl, hb7⟩
    go_wp2
    go_ret
    exact ⟨rfl, hb7⟩
  go_wp2_with fail
  refine hF'.out.mono ?_
  rintro e w1 ⟨⟨b, rfl⟩, hw1⟩
  rw [hw1]
  clear hw1
  cases b
  · go_wp2_with fail
    refine (known_any _ hT).mono ?_
    rintro e w7 ⟨rfl, hb7⟩
    go_wp2
    go_ret
    exact ⟨rfl, hb7⟩
  rcases Nat.lt_or_ge 40 n with h40 | h40
  · go_wp2_with fail
    refine (known_any _ hT).mono ?_
    rintro e w7 ⟨rfl, hb7⟩
    go_wp2
    go_ret
    exact ⟨rfl, hb7⟩
  go_wp2_with fail
  refine (Quantize_any A A' N c n c' vs us w h h').mono ?_
  rintro e w2 (⟨hk, g2, rfl, hM2, hb2, hg2⟩ | ⟨hk, rfl, hb2⟩)
  · obtain ⟨k1, k2, k3, k4, k5, k6, k7⟩ := codC_ok hk
    rw [hl.out] at k1
    rw [hl'.out] at k3
    generalize (us.headD []).length = m at *
    have hk := Lib.hid hk
    have k6 := Lib.hid k6
    have k7 := Lib.hid k7
    have h2 := h.below hb2
    have h2' := h'.below hb2
    go_wp2_with fail
    refine (Cost_any A A' N c n c' vs us w2 h2 h2').mono ?_
    intro e w3 hh
    obtain ⟨rfl, hb23⟩ := (hh.resolve_right (fun q => q.1 hk.out)).2
    clear hh
    have hb3 := hb2.trans (hb23.mono hb2.size)
    have h3 := h.below hb3
    have h3' := h'.below hb3
    have hM3 := (hM2.sl (n := N) (by rw [tab_len]) (by omega)).below hb23
    have hft := RFits_any A A' N c n c' vs us w3 h3 h3' (by omega)
    rw [hk.out] at hft
    have hft := Lib.hid hft
    go_wp2_with fail
    refine hft.out.mono ?_
    rintro e w4 ⟨rfl, r4, hw4⟩
    have hb34 : Below w3.heap.size w3 w4 := by rw [hw4]; exact bel_drewN (Below.refl _ _) r4
    have hb4 := hb3.trans (hb34.mono hb3.size)
    clear hw4 hft
    have h4 := h.below hb4
    have h4' := h'.below hb4
    have hM4 := hM3.below hb34
    generalize hcv : cst vs us = cv at *
    have hcv := Lib.hid hcv
    go_wp2_with fail
    refine (RQuantize_any A A' N c n c' m vs us w4 h4 h4' k1 k5 k6.out k7.out k3).mono ?_
    rintro e w5 ⟨A5, c5, rfl, hM5, hb45⟩
    have hb5 := hb4.trans (hb45.mono hb4.size)
    have hM45 := hM4.below hb45
    go_wp2_with fail
    refine (Same_bel _ _ _ _ _ _ _ _ hM45 hM5).mono ?_
    rintro e w6 ⟨rfl, hb56⟩
    have hb6 := hb5.trans (hb56.mono hb5.size)
    have h6 := h.below hb6
    have h6' := h'.below hb6
    have hct := RCost_any A A' N c n c' m vs us w6 h6 h6' k1 k5 k6.out k7.out k3
    rw [hcv.out] at hct
    have hct := Lib.hid hct
    go_wp2_with fail
    refine hct.out.mono ?_
    rintro e w8 ⟨rfl, r8, hw8⟩
    have hb8 : Below w.heap.size w w8 := by rw [hw8]; exact bel_drewN hb6 r8
    clear hw8 hct
    have hT8 := hT.below hb8
    go_wp2_with fail
    refine (known_any _ hT8).mono ?_
    rintro e w7 ⟨rfl, hb7⟩
    go_wp2
    go_ret
    exact ⟨rfl, hb8.trans (hb7.mono hb8.size)⟩
  · have hkk := Lib.hid hk
    have h2 := h.below hb2
    have h2' := h'.below hb2
    go_wp2_with fail
    refine (Cost_any A A' N c n c' vs us w2 h2 h2').mono ?_
    intro e w3 hh
    obtain ⟨rfl, hb23⟩ := (hh.resolve_left (fun q => hkk.out q.1)).2
    clear hh
    have hb3 := hb2.trans (hb23.mono hb2.size)
    have h3 := h.below hb3
    have h3' := h'.below hb3
    have hft := Lib.hid (RFits_any A A' N c n c' vs us w3 h3 h3' (by omega))
    have hne : (codC vs us == 0) = false := by simp [hk]
    have hne2 : (codC vs us != 0) = true := by simp [hk]
    generalize codC vs us = q at *
    clear hkk
    go_wp2_with fail
    refine hft.out.mono ?_
    rintro e w4 ⟨rfl, r4, hw4⟩
    have hb4 : Below w.heap.size w w4 := by rw [hw4]; exact bel_drewN hb3 r4
    clear hw4 hft
    have hT4 := hT.below hb4
    go_wp2_with fail
    refine (known_any _ hT4).mono ?_
    rintro e w7 ⟨rfl, hb7⟩
    go_wp2
    go_ret
    exact ⟨rfl, hb4.trans (hb7.mono hb4.size)⟩
end Go.Proofs.YtoljffghaklpdaaDoor
