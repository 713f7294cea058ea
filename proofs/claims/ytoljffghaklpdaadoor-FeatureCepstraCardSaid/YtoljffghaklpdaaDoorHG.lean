/- Cepstra: the law's walk. -/
import Derived.Test.YtoljffghaklpdaaDoorHF
namespace Go.Proofs.YtoljffghaklpdaaDoor
open Go.RowKit

set_option maxHeartbeats 3200000 in
set_option maxRecDepth 100000 in
theorem cepstra_law (A : Option Addr) (n c : Nat) (xs : List Int) (count : Int) (w : World) (h : Sl .i64 w A n c xs) (hT : Tab w) :
    Calls Tryd.prog 10 #[.slice A n c, .int .i64 count] w (YesF w) := by
  have hl := Lib.hid h.len
  have hcap := h.cap
  have htop := h.top
  rcases Nat.lt_or_ge 70 n with h70 | h70
  · go_enter Tryd.func10, Tryd.ntmps10
    go_wp2_with (go_at_call 17; refine (known_any _ hT).mono ?_; rintro e w7 ⟨rfl, hb7⟩)
    go_ret
    exact ⟨rfl, hb7⟩
  have hC0 := Lib.hid (fun w h' hT' => Cepstrum_any A n c xs count w h' hT')
  have hcp := Lib.hid (show cpOk xs count = (okB 1 64 (n : Int) && (okB 1 (pd n) count && allB (-65536) 65536 xs)) by unfold cpOk; rw [hl.out])
  rcases Nat.lt_or_ge n 1 with h1 | h1
  · have hk := Lib.hid (show cpOk xs count = false by rw [hcp.out, okB_lo (by omega)]; rfl)
    go_enter Tryd.func10, Tryd.ntmps10
    go_wp2_with fail
    refine (hC0.out w h hT).mono ?_
    intro e w1 hh
    obtain ⟨rfl, hb1⟩ := (hh.resolve_left (fun h1 => by rw [hk.out] at h1; cases h1.1)).2
    have hT1 := hT.below hb1
    have hS1 := h.below hb1
    go_wp2_with (first
      | (go_at_call 17; refine (known_any _ hT1).mono ?_; rintro e w7 ⟨rfl, hb7⟩))
    go_ret
    exact ⟨rfl, hb1.trans (hb7.mono hb1.size)⟩
  rcases Nat.lt_or_ge 64 n with h64 | h64
  · have hk := Lib.hid (show cpOk xs count = false by rw [hcp.out, okB_hi (by omega)]; rfl)
    go_enter Tryd.func10, Tryd.ntmps10
    go_wp2_with fail
    refine (hC0.out w h hT).mono ?_
    intro e w1 hh
    obtain ⟨rfl, hb1⟩ := (hh.resolve_left (fun h1 => by rw [hk.out] at h1; cases h1.1)).2
    have hT1 := hT.below hb1
    have hS1 := h.below hb1
    go_wp2_with (first
      | (go_at_call 17; refine (known_any _ hT1).mono ?_; rintro e w7 ⟨rfl, hb7⟩))
    go_ret
    exact ⟨rfl, hb1.trans (hb7.mono hb1.size)⟩
  have hp := pd_bd h64
  rcases (Bool.eq_false_or_eq_true (allB (-65536) 65536 xs)).symm with hAll | hAll
  · have hk := Lib.hid (show cpOk xs count = false by rw [hcp.out, hAll, Bool.and_false, Bool.and_false])
    have hAll := Lib.hid hAll
    go_enter Tryd.func10, Tryd.ntmps10
    go_wp2_with fail
    refine (hC0.out w h hT).mono ?_
    intro e w1 hh
    obtain ⟨rfl, hb1⟩ := (hh.resolve_left (fun h1 => by rw [hk.out] at h1; cases h1.1)).2
    have hT1 := hT.below hb1
    have hS1 := h.below hb1
    go_wp2_with (first
      | (go_at_call 23; refine (All_any _ _ _ _ _ _ _ hS1).mono ?_; rintro e w' ⟨he, rfl⟩; rw [hAll.out] at he; subst he)
      | (go_at_call 17; refine (known_any _ hT1).mono ?_; rintro e w7 ⟨rfl, hb7⟩))
    go_ret
    exact ⟨rfl, hb1.trans (hb7.mono hb1.size)⟩
  rcases Int.lt_or_le count 1 with c1 | c1
  · have hk := Lib.hid (show cpOk xs count = false by rw [hcp.out, okB_lo (lo := 1) (hi := (pd n : Int)) (x := count) (by omega), Bool.false_and, Bool.and_false])
    have hAll := Lib.hid hAll
    go_enter Tryd.func10, Tryd.ntmps10
    go_wp2_with fail
    refine (hC0.out w h hT).mono ?_
    intro e w1 hh
    obtain ⟨rfl, hb1⟩ := (hh.resolve_left (fun h1 => by rw [hk.out] at h1; cases h1.1)).2
    have hT1 := hT.below hb1
    have hS1 := h.below hb1
    go_wp2_with (first
      | (go_at_call 23; refine (All_any _ _ _ _ _ _ _ hS1).mono ?_; rintro e w' ⟨he, rfl⟩; rw [hAll.out] at he; subst he)
      | (go_at_call 17; refine (known_any _ hT1).mono ?_; rintro e w7 ⟨rfl, hb7⟩))
    go_ret
    exact ⟨rfl, hb1.trans (hb7.mono hb1.size)⟩
  rcases Int.lt_or_le (pd n) count with c2 | c2
  · have hk := Lib.hid (show cpOk xs count = false by rw [hcp.out, okB_hi (lo := 1) (hi := (pd n : Int)) (x := count) (by omega), Bool.false_and, Bool.and_false])
    have hAll := Lib.hid hAll
    go_enter Tryd.func10, Tryd.ntmps10
    go_wp2_with fail
    refine (hC0.out w h hT).mono ?_
    intro e w1 hh
    obtain ⟨rfl, hb1⟩ := (hh.resolve_left (fun h1 => by rw [hk.out] at h1; cases h1.1)).2
    have hT1 := hT.below hb1
    have hS1 := h.below hb1
    go_wp2_with (first
      | (go_at_call 23; refine (All_any _ _ _ _ _ _ _ hS1).mono ?_; rintro e w' ⟨he, rfl⟩; rw [hAll.out] at he; subst he)
      | (go_at_call 37; refine (RPadded_any n _ (by omega)).mono ?_; rintro e w3 ⟨rfl, k0, hw3⟩
         have hb13 : Below w1.heap.size w1 w3 := by rw [hw3]; exact bel_drewN (Below.refl _ _) k0
         have hb3 := hb1.trans (hb13.mono hb1.size)
         have hT3 := hT.below hb3
         have hS3 := h.below hb3
         clear hw3)
      | (go_at_call 17; refine (known_any _ hT3).mono ?_; rintro e w7 ⟨rfl, hb7⟩))
    go_ret
    exact ⟨rfl, hb3.trans (hb7.mono hb3.size)⟩
  · obtain ⟨m, rfl⟩ : ∃ m : Nat, count = (m : Int) := ⟨count.toNat, by omega⟩
    have hk := Lib.hid (show cpOk xs m = true by rw [hcp.out, okB_mk (by omega) (by omega), okB_mk c1 c2, hAll]; rfl)
    have hAll := Lib.hid hAll
    go_enter Tryd.func10, Tryd.ntmps10
    go_wp2_with fail
    refine (hC0.out w h hT).mono ?_
    intro e w1 hh
    obtain ⟨A1, cc1, rfl, hM1, hb1⟩ := (hh.resolve_right (fun h1 => by rw [hk.out] at h1; cases h1.1)).2
    rw [Int.toNat_natCast] at hM1 ⊢
    have hT1 := hT.below hb1
    have hS1 := h.below hb1
    generalize hP : pd n = P at *
    clear hh
    go_wp2_with (first
      | (go_at_call 23; refine (All_any _ _ _ _ _ _ _ hS1).mono ?_; rintro e w' ⟨he, rfl⟩; rw [hAll.out] at he; subst he)
      | (go_at_call 37; refine (RPadded_any n _ (by omega)).mono ?_; rintro e w3 ⟨rfl, k0, hw3⟩
         rw [hP]
         have hb13 : Below w1.heap.size w1 w3 := by rw [hw3]; exact bel_drewN (Below.refl _ _) k0
         have hb3 := hb1.trans (hb13.mono hb1.size)
         have hT3 := hT.below hb3
         have hS3 := h.below hb3
         have hM3 := hM1.below hb13
         clear hw3)
      | (go_at_call 38; refine (RCepstrum_any _ _ _ _ _ _ hS3 hT3 hk.out).mono ?_; rintro e w4 ⟨A4, c4, rfl, hM4, hb34⟩
         have hb4 := hb3.trans (hb34.mono hb3.size)
         have hM5 := hM3.below hb34)
      | (go_at_call 26; refine (Same_bel _ _ _ _ _ _ _ _ hM5 hM4).mono ?_; rintro e w5 ⟨rfl, hb45⟩
         have hb5 := hb4.trans (hb45.mono hb4.size)
         have hT5 := hT.below hb5)
      | (go_at_call 17; refine (known_any _ hT5).mono ?_; rintro e w7 ⟨rfl, hb7⟩))
    go_ret
    exact ⟨rfl, hb5.trans (hb7.mono hb5.size)⟩
end Go.Proofs.YtoljffghaklpdaaDoor
