/- Training never raises the cost: the law's walk. -/
import Derived.Test.YtoljffghaklpdaaDoorLA
namespace Go.Proofs.YtoljffghaklpdaaDoor
open Go.RowKit

/-- the document's own check, for codebooks of any length -/
theorem RFits_long (A A' : Option Addr) (N c n c' : Nat) (vs us : List (List Int)) (w : World) (h : Rr w A N c vs) (h' : Rr w A' n c' us) (hn : 10000 < n) :
    Calls Tryd.prog 54 #[.slice A N c, .slice A' n c'] w fun e w' => ∃ q, e = .returned (.int .i64 q) ∧ q ≠ 0 ∧ ∃ r, w' = w.drewN r := by
  have hl' := Lib.hid h'.len
  have hcap := h.cap
  have htop := h.top
  have hcap' := h'.cap
  have htop' := h'.top
  have hW := RWrong_any A N c vs w h
  rcases chk1_cases vs with ⟨hc, _⟩ | ⟨hc, _⟩ | ⟨hc, _⟩
  · rw [hc] at hW
    have hW := Lib.hid hW
    clear hc
    go_enter Tryd.func54, Tryd.ntmps54
    go_wp2_with fail
    refine hW.out.mono ?_
    rintro e w1 ⟨rfl, r, rfl⟩
    go_wp2
    go_ret
    exact ⟨5, rfl, by decide, r, rfl⟩
  · rw [hc] at hW
    have hW := Lib.hid hW
    clear hc
    go_enter Tryd.func54, Tryd.ntmps54
    go_wp2_with fail
    refine hW.out.mono ?_
    rintro e w1 ⟨rfl, r, rfl⟩
    go_wp2
    go_ret
    exact ⟨2, rfl, by decide, r, rfl⟩
  · rw [hc] at hW
    have hW := Lib.hid hW
    clear hc
    have hB : (okB 1 256 (n : Int) && vecsB us) = false := by
      have : okB 1 256 (n : Int) = false := by
        cases q : okB 1 256 (n : Int) with
        | false => rfl
        | true =>
          rw [okB_iff] at q
          omega
      rw [this]; rfl
    have hB := Lib.hid hB
    go_enter Tryd.func54, Tryd.ntmps54
    go_wp2_with fail
    refine hW.out.mono ?_
    rintro e w1 ⟨rfl, r, rfl⟩
    have hBk := Lib.hid (fun (i : Nat) => RBook_any A' n c' us ((w.drewN r).drewN i) (h'.below (bel_drewN (bel_drewN (Below.refl _ _) r) i)))
    rw [hB.out] at hBk
    generalize hw : w.drewN r = w1 at *
    have hw := Lib.hid hw
    go_wp2
    go_quiet ((go_at_call 50; exact Calls.quiet_of (hBk.out _)))
    go_wp2
    go_ret
    exact ⟨2, rfl, by decide, r + nq, by rw [← hw.out]; exact dr_add w r nq⟩

set_option maxHeartbeats 6400000 in
set_option maxRecDepth 100000 in
theorem falls_law (A : Option Addr) (N c : Nat) (vs : List (List Int)) (A' : Option Addr) (n c' : Nat) (us : List (List Int)) (rr : Int) (w : World) (h : Rr w A N c vs) (h' : Rr w A' n c' us) (hT : Tab w) :
    Calls Tryd.prog 15 #[.slice A N c, .slice A' n c', .int .i64 rr] w (YesF w) := by
  have hl := Lib.hid h.len
  have hl' := Lib.hid h'.len
  have hcap := h.cap
  have htop := h.top
  have hcap' := h'.cap
  have htop' := h'.top
  have hF := Lib.hid (few_any A N c 30 vs w h (by decide))
  have hF' := Lib.hid (few_any A' n c' 12 us w h' (by decide))
  rcases Nat.lt_or_ge 10000 n with hn | hn
  · have hft := Lib.hid (RFits_long A A' N c n c' vs us w h h' hn)
    go_enter Tryd.func15, Tryd.ntmps15
    go_wp2_with fail
    refine hF.out.mono ?_
    rintro e w1 ⟨⟨b, rfl⟩, hw1⟩
    rw [hw1]
    clear hw1
    cases b
    · go_wp2_with fail
      refine (known_any _ hT).mono ?_
      rintro e w99 ⟨rfl, hb99⟩
      go_wp2
      go_ret
      exact ⟨rfl, hb99⟩
    go_wp2_with fail
    refine hF'.out.mono ?_
    rintro e w1 ⟨⟨b, rfl⟩, hw1⟩
    rw [hw1]
    clear hw1
    cases b
    · go_wp2_with fail
      refine (known_any _ hT).mono ?_
      rintro e w99 ⟨rfl, hb99⟩
      go_wp2
      go_ret
      exact ⟨rfl, hb99⟩
    go_wp2_with fail
    refine hft.out.mono ?_
    rintro e w1 ⟨q, rfl, hq, r1, hw1⟩
    have hb1 : Below w.heap.size w w1 := by rw [hw1]; exact bel_drewN (Below.refl _ _) r1
    clear hw1
    have hq1 : (q != 0) = true := by simp [hq]
    have hq2 : (q == 0) = false := by simp [hq]
    have hT1 := hT.below hb1
    go_wp2_with fail
    refine (known_any _ hT1).mono ?_
    rintro e w99 ⟨rfl, hb99⟩
    go_wp2
    go_ret
    exact ⟨rfl, hb1.trans (hb99.mono hb1.size)⟩
  by_cases h0 : codC vs us = 0
  · obtain ⟨k1, k2, k3, k4, k5, k6, k7⟩ := codC_ok h0
    rw [hl.out] at k1
    rw [hl'.out] at k2 k3
    have hft := RFits_any A A' N c n c' vs us w h h' (by omega)
    rw [h0] at hft
    have hft := Lib.hid hft
    obtain ⟨m, hm⟩ : ∃ m, (us.headD []).length = m := ⟨_, rfl⟩
    rw [hm] at k4 k5 k6 k7
    have hm := Lib.hid hm
    have hIl := Lib.hid (fun k => show (itr m vs us k).length = n by rw [itr_len, hl'.out])
    have hIc := Lib.hid (fun k => show codC vs (itr m vs us k) = 0 from codC_of (by rw [hl.out]; exact k1) (by rw [hIl.out]; exact k3) (by rw [hIl.out]; exact k2) k4 k5 k6 (itr_vec k6 k7 k))
    have hIh := Lib.hid (fun k => show ((itr m vs us k).headD []).length = m by
      have e1 : (itr m vs us k).headD [] ∈ itr m vs us k := by
        have := hIl.out k
        cases hq : itr m vs us k with
        | nil => rw [hq] at this; simp at this; omega
        | cons y ys => simp
      exact (itr_vec k6 k7 k _ e1).1)
    have hmono := Lib.hid (fun a b (hab : a ≤ b) => itr_mono (a := a) (b := b) k5 k6 k7 (by rw [hl'.out]; exact k3) hab)
    have h0' := Lib.hid h0
    clear k6 k7 h0
    rcases Int.lt_or_le rr 0 with hr0 | hr0
    · have q1 : decide (rr < 0) = true := decide_eq_true hr0
      go_enter Tryd.func15, Tryd.ntmps15
      go_wp2_with fail
      refine hF.out.mono ?_
      rintro e w1 ⟨⟨b, rfl⟩, hw1⟩
      rw [hw1]
      clear hw1
      cases b
      · go_wp2_with fail
        refine (known_any _ hT).mono ?_
        rintro e w99 ⟨rfl, hb99⟩
        go_wp2
        go_ret
        exact ⟨rfl, hb99⟩
      go_wp2_with fail
      refine hF'.out.mono ?_
      rintro e w1 ⟨⟨b, rfl⟩, hw1⟩
      rw [hw1]
      clear hw1
      cases b
      · go_wp2_with fail
        refine (known_any _ hT).mono ?_
        rintro e w99 ⟨rfl, hb99⟩
        go_wp2
        go_ret
        exact ⟨rfl, hb99⟩
      go_wp2_with fail
      refine hft.out.mono ?_
      rintro e w1 ⟨rfl, r1, hw1⟩
      have hb1 : Below w.heap.size w w1 := by rw [hw1]; exact bel_drewN (Below.refl _ _) r1
      clear hw1
      have hT1 := hT.below hb1
      go_wp2_with fail
      refine (known_any _ hT1).mono ?_
      rintro e w99 ⟨rfl, hb99⟩
      go_wp2
      go_ret
      exact ⟨rfl, hb1.trans (hb99.mono hb1.size)⟩
    rcases Int.lt_or_le 20 rr with hr1 | hr1
    · have q1 : decide (rr < 0) = false := decide_eq_false (by omega)
      have q2 : decide (20 < rr) = true := decide_eq_true hr1
      go_enter Tryd.func15, Tryd.ntmps15
      go_wp2_with fail
      refine hF.out.mono ?_
      rintro e w1 ⟨⟨b, rfl⟩, hw1⟩
      rw [hw1]
      clear hw1
      cases b
      · go_wp2_with fail
        refine (known_any _ hT).mono ?_
        rintro e w99 ⟨rfl, hb99⟩
        go_wp2
        go_ret
        exact ⟨rfl, hb99⟩
      go_wp2_with fail
      refine hF'.out.mono ?_
      rintro e w1 ⟨⟨b, rfl⟩, hw1⟩
      rw [hw1]
      clear hw1
      cases b
      · go_wp2_with fail
        refine (known_any _ hT).mono ?_
        rintro e w99 ⟨rfl, hb99⟩
        go_wp2
        go_ret
        exact ⟨rfl, hb99⟩
      go_wp2_with fail
      refine hft.out.mono ?_
      rintro e w1 ⟨rfl, r1, hw1⟩
      have hb1 : Below w.heap.size w w1 := by rw [hw1]; exact bel_drewN (Below.refl _ _) r1
      clear hw1
      have hT1 := hT.below hb1
      go_wp2_with fail
      refine (known_any _ hT1).mono ?_
      rintro e w99 ⟨rfl, hb99⟩
      go_wp2
      go_ret
      exact ⟨rfl, hb1.trans (hb99.mono hb1.size)⟩
    obtain ⟨R, rfl⟩ : ∃ R : Nat, rr = R := ⟨rr.toNat, by omega⟩
    have q1 : decide ((R : Int) < 0) = false := decide_eq_false (by omega)
    have q2 : decide (20 < (R : Int)) = false := decide_eq_false (by omega)
    have hRb : R ≤ 20 := by omega
    have wR : IntKind.i64.wrap ((R : Int) + 1) = ((R + 1 : Nat) : Int) := by rw [IntWalk.i64_in _ (by omega)]; omega
    go_enter Tryd.func15, Tryd.ntmps15
    go_wp2_with fail
    refine hF.out.mono ?_
    rintro e w1 ⟨⟨b, rfl⟩, hw1⟩
    rw [hw1]
    clear hw1
    cases b
    · go_wp2_with fail
      refine (known_any _ hT).mono ?_
      rintro e w99 ⟨rfl, hb99⟩
      go_wp2
      go_ret
      exact ⟨rfl, hb99⟩
    go_wp2_with fail
    refine hF'.out.mono ?_
    rintro e w1 ⟨⟨b, rfl⟩, hw1⟩
    rw [hw1]
    clear hw1
    cases b
    · go_wp2_with fail
      refine (known_any _ hT).mono ?_
      rintro e w99 ⟨rfl, hb99⟩
      go_wp2
      go_ret
      exact ⟨rfl, hb99⟩
    go_wp2_with fail
    refine hft.out.mono ?_
    rintro e w1 ⟨rfl, r1, hw1⟩
    have hb1 : Below w.heap.size w w1 := by rw [hw1]; exact bel_drewN (Below.refl _ _) r1
    clear hw1
    have h1 := h.below hb1
    have h1' := h'.below hb1
    obtain ⟨a, ha⟩ : ∃ a, cst vs us = a := ⟨_, rfl⟩
    obtain ⟨b, hb⟩ : ∃ b, cst vs (itr m vs us 1) = b := ⟨_, rfl⟩
    go_wp2_with fail
    refine (Cost_any A A' N c n c' vs us w1 h1 h1').mono ?_
    intro e w2 hh
    obtain ⟨rfl, hb12⟩ := (hh.resolve_right (fun q => q.1 h0'.out)).2
    clear hh
    rw [ha]
    have hb2 := hb1.trans (hb12.mono hb1.size)
    go_wp2_with fail
    refine (Improve_any A A' N c n c' vs us w2 (h.below hb2) (h'.below hb2)).mono ?_
    intro e w3 hh
    obtain ⟨A3, c3, rfl, hR3, hb23⟩ := (hh.resolve_right (fun q => q.1 h0'.out)).2
    clear hh
    rw [hm.out] at hR3
    have hR3 : Rr w3 A3 n c3 (itr m vs us 1) := hR3
    have hb3 := hb2.trans (hb23.mono hb2.size)
    go_wp2_with fail
    refine (Cost_any A A3 N c n c3 vs (itr m vs us 1) w3 (h.below hb3) hR3).mono ?_
    intro e w4 hh
    obtain ⟨rfl, hb34⟩ := (hh.resolve_right (fun q => q.1 (hIc.out 1))).2
    clear hh
    rw [hb]
    have hb4 := hb3.trans (hb34.mono hb3.size)
    go_wp2_with fail
    refine (Train_any A A' N c n c' R vs us w4 (h.below hb4) (h'.below hb4) h0'.out (by omega)).mono ?_
    rw [hm.out]
    rintro e w5 ⟨p, hSt, A5, c5, rfl, hR5, hb45⟩
    have hb5 := hb4.trans (hb45.mono hb4.size)
    obtain ⟨d, hd⟩ : ∃ d, cst vs (itr m vs us p) = d := ⟨_, rfl⟩
    go_wp2_with fail
    refine (Cost_any A A5 N c n c5 vs (itr m vs us p) w5 (h.below hb5) hR5).mono ?_
    intro e w6 hh
    obtain ⟨rfl, hb56⟩ := (hh.resolve_right (fun q => q.1 (hIc.out p))).2
    clear hh
    rw [hd]
    have hb6 := hb5.trans (hb56.mono hb5.size)
    have hR56 := hR5.below hb56
    go_wp2_with fail
    refine (Train_any A A' N c n c' (R + 1) vs us w6 (h.below hb6) (h'.below hb6) h0'.out (by omega)).mono ?_
    rw [hm.out]
    rintro e w7 ⟨p2, hSt2, A7, c7, rfl, hR7, hb67⟩
    have hb7 := hb6.trans (hb67.mono hb6.size)
    have hR57 := hR56.below hb67
    obtain ⟨s, hs⟩ : ∃ s, cst vs (itr m vs us p2) = s := ⟨_, rfl⟩
    go_wp2_with fail
    refine (Cost_any A A7 N c n c7 vs (itr m vs us p2) w7 (h.below hb7) hR7).mono ?_
    intro e w8 hh
    obtain ⟨rfl, hb78⟩ := (hh.resolve_right (fun q => q.1 (hIc.out p2))).2
    clear hh
    rw [hs]
    have hb8 := hb7.trans (hb78.mono hb7.size)
    have hR58 := hR57.below hb78
    have hR78 := hR7.below hb78
    have hp1 := hSt.1
    have hpp : p ≤ p2 := by
      rcases Nat.lt_or_ge p2 p with h9 | h9
      · exact absurd (hSt2.2.2 (by omega)) (hSt.2.1 p2 h9)
      · exact h9
    have c1 : b ≤ a := by rw [← ha, ← hb]; exact hmono.out 0 1 (by omega)
    have c2 : d ≤ a := by rw [← ha, ← hd]; exact hmono.out 0 p (by omega)
    have c3' : s ≤ d := by rw [← hs, ← hd]; exact hmono.out p p2 hpp
    have c4 : 0 < R → d ≤ b := fun h9 => by
      rw [← hd, ← hb]
      rcases Nat.eq_zero_or_pos p with e | e
      · have := hSt.2.2 (by omega)
        rw [e] at this
        rw [e, show itr m vs us 1 = itr m vs us 0 from this]
        exact Int.le_refl _
      · exact hmono.out 1 p e
    have f1 : decide (a < b) = false := decide_eq_false (by omega)
    have f1' : ¬ a < b := by omega
    have f2 : decide (a < d) = false := decide_eq_false (by omega)
    have f2' : ¬ a < d := by omega
    have f3 : decide (d < s) = false := decide_eq_false (by omega)
    have f3' : ¬ d < s := by omega
    have f4' : ¬ R < p := by omega
    have f4 : decide (R < p) = false := decide_eq_false f4'
    have f5' : ¬ p2 < p := by omega
    have f5 : decide (p2 < p) = false := decide_eq_false f5'
    have hT8 := hT.below hb8
    have ha := Lib.hid ha
    have hb := Lib.hid hb
    have hd := Lib.hid hd
    have hs := Lib.hid hs
    rcases Nat.lt_or_ge p R with hlt | hge
    · have hstop := Lib.hid (hSt.2.2 hlt)
      have hp2 : p = p2 := by
        rcases Nat.lt_or_ge p p2 with h9 | h9
        · exact absurd hstop.out (hSt2.2.1 p h9)
        · omega
      subst hp2
      have hR0 : 0 < R := by omega
      have hR1 : decide (0 < R) = true := decide_eq_true hR0
      have f6' : ¬ b < d := by have := c4 hR0; omega
      have f6 : decide (b < d) = false := decide_eq_false f6'
      have f7 : decide (p < R) = true := decide_eq_true hlt
      clear hSt hSt2 c4 c1 c2 c3'
      go_wp2_with fail
      refine (Improve_any A A5 N c n c5 vs (itr m vs us p) w8 (h.below hb8) hR58).mono ?_
      intro e w9 hh
      obtain ⟨A9, c9, rfl, hR9, hb89⟩ := (hh.resolve_right (fun q => q.1 (hIc.out p))).2
      clear hh
      rw [hIh.out] at hR9
      have hR9 : Rr w9 A9 n c9 (itr m vs us (p + 1)) := hR9
      rw [hstop.out] at hR9
      have hb9 := hb8.trans (hb89.mono hb8.size)
      have hR59 := hR58.below hb89
      have hR79 := hR78.below hb89
      go_wp2_with fail
      refine (SameL_eq _ _ _ _ _ _ _ _ _ hR9 hR59 rfl).mono ?_
      rintro e w10 ⟨rfl, r10, hw10⟩
      have hb910 : Below w9.heap.size w9 w10 := by rw [hw10]; exact bel_drewN (Below.refl _ _) r10
      clear hw10
      have hb10 := hb9.trans (hb910.mono hb9.size)
      have hR510 := hR59.below hb910
      have hR710 := hR79.below hb910
      go_wp2_with fail
      refine (SameL_eq _ _ _ _ _ _ _ _ _ hR710 hR510 rfl).mono ?_
      rintro e w11 ⟨rfl, r11, hw11⟩
      have hb11 : Below w.heap.size w w11 := by rw [hw11]; exact bel_drewN hb10 r11
      clear hw11
      have hT11 := hT.below hb11
      go_wp2_with fail
      refine (known_any _ hT11).mono ?_
      rintro e w99 ⟨rfl, hb99⟩
      go_wp2
      go_ret
      exact ⟨rfl, hb11.trans (hb99.mono hb11.size)⟩
    · have hpR : ¬ p < R := by omega
      have hpR' : decide (p < R) = false := decide_eq_false hpR
      clear hSt hSt2 c1 c2 c3'
      rcases Nat.eq_zero_or_pos R with hR0 | hR0
      · have hR1 : ¬ 0 < R := by omega
        have hR2 : decide (0 < R) = false := decide_eq_false hR1
        clear hR0 c4
        go_wp2_with fail
        refine (known_any _ hT8).mono ?_
        rintro e w99 ⟨rfl, hb99⟩
        go_wp2
        go_ret
        exact ⟨rfl, hb8.trans (hb99.mono hb8.size)⟩
      · have hR2 : decide (0 < R) = true := decide_eq_true hR0
        have f6' : ¬ b < d := by have := c4 hR0; omega
        have f6 : decide (b < d) = false := decide_eq_false f6'
        clear c4
        go_wp2_with fail
        refine (known_any _ hT8).mono ?_
        rintro e w99 ⟨rfl, hb99⟩
        go_wp2
        go_ret
        exact ⟨rfl, hb8.trans (hb99.mono hb8.size)⟩
  · have hne : (codC vs us != 0) = true := by simp [h0]
    have hne2 : (codC vs us == 0) = false := by simp [h0]
    have hft := Lib.hid (RFits_any A A' N c n c' vs us w h h' (by omega))
    generalize codC vs us = q at *
    go_enter Tryd.func15, Tryd.ntmps15
    go_wp2_with fail
    refine hF.out.mono ?_
    rintro e w1 ⟨⟨b, rfl⟩, hw1⟩
    rw [hw1]
    clear hw1
    cases b
    · go_wp2_with fail
      refine (known_any _ hT).mono ?_
      rintro e w99 ⟨rfl, hb99⟩
      go_wp2
      go_ret
      exact ⟨rfl, hb99⟩
    go_wp2_with fail
    refine hF'.out.mono ?_
    rintro e w1 ⟨⟨b, rfl⟩, hw1⟩
    rw [hw1]
    clear hw1
    cases b
    · go_wp2_with fail
      refine (known_any _ hT).mono ?_
      rintro e w99 ⟨rfl, hb99⟩
      go_wp2
      go_ret
      exact ⟨rfl, hb99⟩
    go_wp2_with fail
    refine hft.out.mono ?_
    rintro e w1 ⟨rfl, r1, hw1⟩
    have hb1 : Below w.heap.size w w1 := by rw [hw1]; exact bel_drewN (Below.refl _ _) r1
    clear hw1
    have hT1 := hT.below hb1
    go_wp2_with fail
    refine (known_any _ hT1).mono ?_
    rintro e w99 ⟨rfl, hb99⟩
    go_wp2
    go_ret
    exact ⟨rfl, hb1.trans (hb99.mono hb1.size)⟩
end Go.Proofs.YtoljffghaklpdaaDoor
