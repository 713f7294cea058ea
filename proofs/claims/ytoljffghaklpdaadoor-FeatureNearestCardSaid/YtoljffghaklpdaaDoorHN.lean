/- The distance of two vectors and the nearest codeword: the law's walk. -/
import Derived.Test.YtoljffghaklpdaaDoorHM
namespace Go.Proofs.YtoljffghaklpdaaDoor
open Go.RowKit

set_option maxHeartbeats 6400000 in
set_option maxRecDepth 100000 in
theorem nearest_law (A : Option Addr) (n c : Nat) (xs : List Int) (A' : Option Addr) (n' c' : Nat) (ys : List Int) (B : Option Addr) (m cb : Nat) (us : List (List Int)) (w : World) (h : Sl .i64 w A n c xs) (hz : A = none → c = 0) (h' : Sl .i64 w A' n' c' ys) (hz' : A' = none → c' = 0) (hR : Rr w B m cb us) (hT : Tab w) :
    Calls Tryd.prog 13 #[.slice A n c, .slice A' n' c', .slice B m cb] w (YesF w) := by
  have hl := Lib.hid h.len
  have hl' := Lib.hid h'.len
  have hlu := Lib.hid hR.len
  have hcap := h.cap
  have htop := h.top
  have hcap' := h'.cap
  have htop' := h'.top
  have hcapb := hR.cap
  have htopb := hR.top
  rcases Nat.lt_or_ge 70 n with h70 | h70
  · go_enter Tryd.func13, Tryd.ntmps13
    go_wp2_with fail
    refine (known_any _ hT).mono ?_
    rintro e w7 ⟨rfl, hb7⟩
    go_wp2
    go_ret
    exact ⟨rfl, hb7⟩
  rcases Nat.lt_or_ge 70 n' with h71 | h71
  · go_enter Tryd.func13, Tryd.ntmps13
    go_wp2_with fail
    refine (known_any _ hT).mono ?_
    rintro e w7 ⟨rfl, hb7⟩
    go_wp2
    go_ret
    exact ⟨rfl, hb7⟩
  have hD0 := Lib.hid (Distance_any A A' n c n' c' xs ys w h h' hz hz' h70 h71)
  have hN0 := Lib.hid (fun w h h' => Nearest_any A B n c m cb xs us w h h' hz h70)
  have hF := Lib.hid (few_any B m cb 40 us w hR (by decide))
  go_enter Tryd.func13, Tryd.ntmps13
  go_wp2_with fail
  refine hF.out.mono ?_
  rintro e w1 ⟨⟨b, rfl⟩, hw1⟩
  rw [hw1]
  clear hw1
  rcases Nat.lt_or_ge 300 m with h300 | h300
  · have d1 : decide ((m : Int) ≤ 300) = false := decide_eq_false (by omega)
    have d2 : decide (300 < (m : Int)) = true := decide_eq_true (by omega)
    cases b
    · go_wp2_with fail
      refine (known_any _ hT).mono ?_
      rintro e w7 ⟨rfl, hb7⟩
      go_wp2
      go_ret
      exact ⟨rfl, hb7⟩
    · go_wp2_with fail
      refine (known_any _ hT).mono ?_
      rintro e w7 ⟨rfl, hb7⟩
      go_wp2
      go_ret
      exact ⟨rfl, hb7⟩
  have d1 : decide ((m : Int) ≤ 300) = true := decide_eq_true (by omega)
  have d2 : decide (300 < (m : Int)) = false := decide_eq_false (by omega)
  cases b
  · go_wp2_with fail
    refine (known_any _ hT).mono ?_
    rintro e w7 ⟨rfl, hb7⟩
    go_wp2
    go_ret
    exact ⟨rfl, hb7⟩
  have hcod := Lib.hid (cod1 (x := xs) (us := us) (by rw [hlu.out]; omega))
  rw [hl.out, hlu.out] at hcod
  go_wp2_with fail
  refine hD0.out.mono ?_
  rintro e w2 (⟨hv, rfl, hb2⟩ | ⟨hv, rfl, hb2⟩)
  · have h2 := h.below hb2
    have h2' := h'.below hb2
    obtain ⟨hL2, hbl2⟩ := lit2 w2 A A' n c n' c' xs ys h2 h2' hz hz' (by omega) (by omega)
    have hbl := hb2.trans (hbl2.mono hb2.size)
    have hV2 := Lib.hid (RVectors_any _ _ _ _ _ hL2)
    have hv := Lib.hid hv
    rw [hv.out] at hV2
    go_wp2_with fail
    refine hV2.out.mono ?_
    rintro e w3 ⟨rfl, r3, hw3⟩
    have hb3 : Below w.heap.size w w3 := by rw [hw3]; exact bel_drewN hbl r3
    clear hw3 hV2 hL2 hbl2 hbl
    have h3 := h.below hb3
    have h3' := h'.below hb3
    have hvv := hv.out
    rw [vecs2] at hvv
    simp only [Bool.and_eq_true, decide_eq_true_eq] at hvv
    obtain ⟨v1, v2, v3⟩ := hvv
    rw [hl.out, hl'.out] at v3
    have v3 := v3.symm
    subst v3
    obtain ⟨a1, a2, a3⟩ := vecB_all v1
    obtain ⟨b1, b2, b3⟩ := vecB_all v2
    rw [hl.out] at a1 a2
    go_wp2_with fail
    refine (RDistance_any _ _ _ _ _ _ _ _ h3 h3' a2 a3 b3).mono ?_
    rintro e w4 ⟨rfl, r4, hw4⟩
    have hb4 : Below w.heap.size w w4 := by rw [hw4]; exact bel_drewN hb3 r4
    clear hw4 v1 v2 a1 a2 a3 b1 b2 b3
    generalize dist xs ys = DD at *
    have h4 := h.below hb4
    have hR4 := hR.below hb4
    go_wp2_with fail
    refine (hN0.out _ h4 hR4).mono ?_
    rintro e w5 (⟨hk, rfl, hb45⟩ | ⟨hk, rfl, hb45⟩)
    · have hb5 := hb4.trans (hb45.mono hb4.size)
      have h5 := h.below hb5
      have hR5 := hR.below hb5
      have hT5 := hT.below hb5
      obtain ⟨hL5, hbl5⟩ := lit1 w5 A n c xs h5 hz (by omega)
      have hbl := hb5.trans (hbl5.mono hb5.size)
      have hV5 := RVectors_any _ _ _ _ _ hL5
      rw [vecs1] at hV5
      have hV5 := Lib.hid hV5
      have hk0 := hk
      rw [hcod.out] at hk
      have hall : (vecB xs && (okB 1 256 (m : Int) && (vecsB us && decide (n = (us.headD []).length)))) = true := by
        cases hq : (vecB xs && (okB 1 256 (m : Int) && (vecsB us && decide (n = (us.headD []).length)))) with
        | true => rfl
        | false => rw [hq] at hk; cases hk
      simp only [Bool.and_eq_true, decide_eq_true_eq] at hall
      obtain ⟨q1, q2, q3, q4⟩ := hall
      obtain ⟨k1, k2, k3, k4, k5, k6, k7⟩ := codC_ok hk0
      have hx9 := vecB_all q1
      rw [← q4] at k4 k5 k7
      have hm9 := okB_iff.1 q2
      have hq4 := Lib.hid q4
      have hbook := Lib.hid (show (okB 1 256 (m : Int) && vecsB us) = true by rw [q2, q3]; rfl)
      have q1 := Lib.hid q1
      have hx2 := Lib.hid hx9.2.2
      have hk7 := Lib.hid k7
      clear hk hk0 q2 q3 q4 k1 k2 k3 k6 k7 hx9
      rw [q1.out] at hV5
      go_wp2_with fail
      refine hV5.out.mono ?_
      rintro e w6 ⟨rfl, r6, hw6⟩
      have hb6 : Below w.heap.size w w6 := by rw [hw6]; exact bel_drewN hbl r6
      clear hw6 hV5 hL5 hbl5 hbl
      have hT6 := hT.below hb6
      have hR6 := hR.below hb6
      have hB6 := Lib.hid (RBook_any _ _ _ _ _ hR6)
      rw [hbook.out] at hB6
      go_wp2_with fail
      refine hB6.out.mono ?_
      rintro e w8 ⟨rfl, r8, hw8⟩
      have hb8 : Below w.heap.size w w8 := by rw [hw8]; exact bel_drewN hb6 r8
      clear hw8 hB6
      have hT8 := hT.below hb8
      have hR8 := hR.below hb8
      have h8 := h.below hb8
      obtain ⟨ad0, B0, L0, C0, y0, e0, hc0, hy0, hS0, hLb0⟩ := rr_head hR8 (by omega)
      have hyl0 := Lib.hid hS0.len
      have hn0 : 0 < m := by omega
      have hn01 : (0 : Int) < (m : Int) := by omega
      subst e0
      have hL0 : L0 = n := by rw [← hyl0.out, ← hy0]; exact hq4.out.symm
      subst hL0
      have hnb := Lib.hid (nrS_bd hx2.out (by rw [hl.out]; exact k5) (fun u hu => by rw [hl.out]; exact hk7.out u hu) (k := m) (by rw [hlu.out]; exact Nat.le_refl _))
      have hna := Lib.hid (nrS_at hx2.out (by rw [hl.out]; exact k5) (fun u hu => by rw [hl.out]; exact hk7.out u hu) (k := m) (by omega) (by rw [hlu.out]; exact Nat.le_refl _))
      have hnb2 := (hnb.out.2.2.2 (by omega)).2
      have hRN := Lib.hid (RNearest_any _ _ _ _ _ _ _ _ _ h8 hR8 hx2.out k5 (by omega) (fun u hu => hk7.out u hu))
      clear hy0 hnb
      generalize hK : (nrS xs us m).1 = K at *
      generalize hE : (nrS xs us m).2 = E at *
      have hK := Lib.hid hK
      have hE := Lib.hid hE
      go_wp2_with fail
      refine hRN.out.mono ?_
      rintro e w9 ⟨rfl, r9, hw9⟩
      have hb9 : Below w.heap.size w w9 := by rw [hw9]; exact bel_drewN hb8 r9
      clear hw9 hRN
      have hR9 := hR.below hb9
      have h9 := h.below hb9
      obtain ⟨ad9, B9, L9, C9, y9, e9, hc9, hy9, hS9, _, hLb9⟩ := hR9.at_ hnb2
      have hu9 := hk7.out y9 (List.mem_of_getElem? hy9.out)
      have hL9 : L9 = L0 := by rw [← hS9.len]; exact hu9.1
      subst hL9
      have hdE := Lib.hid (show dist xs y9 = E by rw [hna.out, getD_some hy9.out])
      have hRD := Lib.hid (RDistance_any _ _ _ _ _ _ _ _ h9 hS9 k5 hx2.out hu9.2)
      rw [hdE.out] at hRD
      clear hu9
      have i9 : (0 : Int) ≤ (K : Int) := by omega
      have i9' : (K : Int) < (m : Int) := by omega
      injection e9 with e9
      subst e9
      go_wp2_with fail
      refine hRD.out.mono ?_
      rintro e w10 ⟨rfl, r10, hw10⟩
      have hb10 : Below w.heap.size w w10 := by rw [hw10]; exact bel_drewN hb9 r10
      clear hw10 hRD
      have hT10 := hT.below hb10
      go_wp2_with fail
      refine (known_any _ hT10).mono ?_
      rintro e w7 ⟨rfl, hb7⟩
      go_wp2
      go_ret
      exact ⟨rfl, hb10.trans (hb7.mono hb10.size)⟩
    · have hb5 := hb4.trans (hb45.mono hb4.size)
      have h5 := h.below hb5
      have hR5 := hR.below hb5
      have hT5 := hT.below hb5
      obtain ⟨hL5, hbl5⟩ := lit1 w5 A n c xs h5 hz (by omega)
      have hbl := hb5.trans (hbl5.mono hb5.size)
      have hV5 := RVectors_any _ _ _ _ _ hL5
      rw [vecs1] at hV5
      have hV5 := Lib.hid hV5
      have hk2 : codC [xs] us = 2 := by
        rw [hcod.out] at hk ⊢
        split at hk
        · exact absurd rfl hk
        · rename_i hq; rw [if_neg hq]
      have hall : (vecB xs && (okB 1 256 (m : Int) && (vecsB us && decide (n = (us.headD []).length)))) = false := by
        cases hq : (vecB xs && (okB 1 256 (m : Int) && (vecsB us && decide (n = (us.headD []).length)))) with
        | false => rfl
        | true => rw [hcod.out, hq] at hk2; cases hk2
      rw [hk2]
      clear hk hk2
      cases q1 : vecB xs with
      | false =>
        clear hall
        rw [q1] at hV5
        go_wp2_with fail
        refine hV5.out.mono ?_
        rintro e w6 ⟨rfl, r6, hw6⟩
        have hb6 : Below w.heap.size w w6 := by rw [hw6]; exact bel_drewN hbl r6
        clear hw6 hV5 hL5 hbl5 hbl
        have hT6 := hT.below hb6
        go_wp2_with fail
        refine (known_any _ hT6).mono ?_
        rintro e w7 ⟨rfl, hb7⟩
        go_wp2
        go_ret
        exact ⟨rfl, hb6.trans (hb7.mono hb6.size)⟩
      | true =>
        rw [q1, Bool.true_and] at hall
        cases q2 : (okB 1 256 (m : Int) && vecsB us) with
        | false =>
          clear hall
          rw [q1] at hV5
          go_wp2_with fail
          refine hV5.out.mono ?_
          rintro e w6 ⟨rfl, r6, hw6⟩
          have hb6 : Below w.heap.size w w6 := by rw [hw6]; exact bel_drewN hbl r6
          clear hw6 hV5 hL5 hbl5 hbl
          have hT6 := hT.below hb6
          have hR6 := hR.below hb6
          have hB6 := Lib.hid (RBook_any _ _ _ _ _ hR6)
          rw [q2] at hB6
          go_wp2_with fail
          refine hB6.out.mono ?_
          rintro e w8 ⟨rfl, r8, hw8⟩
          have hb8 : Below w.heap.size w w8 := by rw [hw8]; exact bel_drewN hb6 r8
          clear hw8 hB6
          have hT8 := hT.below hb8
          have hR8 := hR.below hb8
          have h8 := h.below hb8
          go_wp2_with fail
          refine (known_any _ hT8).mono ?_
          rintro e w7 ⟨rfl, hb7⟩
          go_wp2
          go_ret
          exact ⟨rfl, hb8.trans (hb7.mono hb8.size)⟩
        | true =>
          rw [← Bool.and_assoc, q2, Bool.true_and] at hall
          have hne := of_decide_eq_false hall
          have q3 : okB 1 256 (m : Int) = true := by
            simp only [Bool.and_eq_true] at q2
            exact q2.1
          have hm9 := okB_iff.1 q3
          clear hall q3
          rw [q1] at hV5
          go_wp2_with fail
          refine hV5.out.mono ?_
          rintro e w6 ⟨rfl, r6, hw6⟩
          have hb6 : Below w.heap.size w w6 := by rw [hw6]; exact bel_drewN hbl r6
          clear hw6 hV5 hL5 hbl5 hbl
          have hT6 := hT.below hb6
          have hR6 := hR.below hb6
          have hB6 := Lib.hid (RBook_any _ _ _ _ _ hR6)
          rw [q2] at hB6
          go_wp2_with fail
          refine hB6.out.mono ?_
          rintro e w8 ⟨rfl, r8, hw8⟩
          have hb8 : Below w.heap.size w w8 := by rw [hw8]; exact bel_drewN hb6 r8
          clear hw8 hB6
          have hT8 := hT.below hb8
          have hR8 := hR.below hb8
          have h8 := h.below hb8
          obtain ⟨ad0, B0, L0, C0, y0, e0, hc0, hy0, hS0, hLb0⟩ := rr_head hR8 (by omega)
          have hyl0 := Lib.hid hS0.len
          have hn0 : 0 < m := by omega
          have hn01 : (0 : Int) < (m : Int) := by omega
          rw [hy0, hyl0.out] at hne
          have d3 : ((n : Int) == (L0 : Int)) = false := by rw [beq_eq_false_iff_ne]; omega
          have d4 : ((n : Int) != (L0 : Int)) = true := by rw [bne_iff_ne]; omega
          have d5 : ¬ (n : Int) = (L0 : Int) := by omega
          subst e0
          clear q1 q2
          go_wp2_with fail
          refine (known_any _ hT8).mono ?_
          rintro e w7 ⟨rfl, hb7⟩
          go_wp2
          go_ret
          exact ⟨rfl, hb8.trans (hb7.mono hb8.size)⟩
  · have h2 := h.below hb2
    have h2' := h'.below hb2
    obtain ⟨hL2, hbl2⟩ := lit2 w2 A A' n c n' c' xs ys h2 h2' hz hz' (by omega) (by omega)
    have hbl := hb2.trans (hbl2.mono hb2.size)
    have hV2 := Lib.hid (RVectors_any _ _ _ _ _ hL2)
    have hv := Lib.hid hv
    rw [hv.out] at hV2
    go_wp2_with fail
    refine hV2.out.mono ?_
    rintro e w3 ⟨rfl, r3, hw3⟩
    have hb3 : Below w.heap.size w w3 := by rw [hw3]; exact bel_drewN hbl r3
    clear hw3 hV2 hL2 hbl2 hbl
    have h3 := h.below hb3
    have hb4 := hb3
    have h4 := h.below hb4
    have hR4 := hR.below hb4
    go_wp2_with fail
    refine (hN0.out _ h4 hR4).mono ?_
    rintro e w5 (⟨hk, rfl, hb45⟩ | ⟨hk, rfl, hb45⟩)
    · have hb5 := hb4.trans (hb45.mono hb4.size)
      have h5 := h.below hb5
      have hR5 := hR.below hb5
      have hT5 := hT.below hb5
      obtain ⟨hL5, hbl5⟩ := lit1 w5 A n c xs h5 hz (by omega)
      have hbl := hb5.trans (hbl5.mono hb5.size)
      have hV5 := RVectors_any _ _ _ _ _ hL5
      rw [vecs1] at hV5
      have hV5 := Lib.hid hV5
      have hk0 := hk
      rw [hcod.out] at hk
      have hall : (vecB xs && (okB 1 256 (m : Int) && (vecsB us && decide (n = (us.headD []).length)))) = true := by
        cases hq : (vecB xs && (okB 1 256 (m : Int) && (vecsB us && decide (n = (us.headD []).length)))) with
        | true => rfl
        | false => rw [hq] at hk; cases hk
      simp only [Bool.and_eq_true, decide_eq_true_eq] at hall
      obtain ⟨q1, q2, q3, q4⟩ := hall
      obtain ⟨k1, k2, k3, k4, k5, k6, k7⟩ := codC_ok hk0
      have hx9 := vecB_all q1
      rw [← q4] at k4 k5 k7
      have hm9 := okB_iff.1 q2
      have hq4 := Lib.hid q4
      have hbook := Lib.hid (show (okB 1 256 (m : Int) && vecsB us) = true by rw [q2, q3]; rfl)
      have q1 := Lib.hid q1
      have hx2 := Lib.hid hx9.2.2
      have hk7 := Lib.hid k7
      clear hk hk0 q2 q3 q4 k1 k2 k3 k6 k7 hx9
      rw [q1.out] at hV5
      go_wp2_with fail
      refine hV5.out.mono ?_
      rintro e w6 ⟨rfl, r6, hw6⟩
      have hb6 : Below w.heap.size w w6 := by rw [hw6]; exact bel_drewN hbl r6
      clear hw6 hV5 hL5 hbl5 hbl
      have hT6 := hT.below hb6
      have hR6 := hR.below hb6
      have hB6 := Lib.hid (RBook_any _ _ _ _ _ hR6)
      rw [hbook.out] at hB6
      go_wp2_with fail
      refine hB6.out.mono ?_
      rintro e w8 ⟨rfl, r8, hw8⟩
      have hb8 : Below w.heap.size w w8 := by rw [hw8]; exact bel_drewN hb6 r8
      clear hw8 hB6
      have hT8 := hT.below hb8
      have hR8 := hR.below hb8
      have h8 := h.below hb8
      obtain ⟨ad0, B0, L0, C0, y0, e0, hc0, hy0, hS0, hLb0⟩ := rr_head hR8 (by omega)
      have hyl0 := Lib.hid hS0.len
      have hn0 : 0 < m := by omega
      have hn01 : (0 : Int) < (m : Int) := by omega
      subst e0
      have hL0 : L0 = n := by rw [← hyl0.out, ← hy0]; exact hq4.out.symm
      subst hL0
      have hnb := Lib.hid (nrS_bd hx2.out (by rw [hl.out]; exact k5) (fun u hu => by rw [hl.out]; exact hk7.out u hu) (k := m) (by rw [hlu.out]; exact Nat.le_refl _))
      have hna := Lib.hid (nrS_at hx2.out (by rw [hl.out]; exact k5) (fun u hu => by rw [hl.out]; exact hk7.out u hu) (k := m) (by omega) (by rw [hlu.out]; exact Nat.le_refl _))
      have hnb2 := (hnb.out.2.2.2 (by omega)).2
      have hRN := Lib.hid (RNearest_any _ _ _ _ _ _ _ _ _ h8 hR8 hx2.out k5 (by omega) (fun u hu => hk7.out u hu))
      clear hy0 hnb
      generalize hK : (nrS xs us m).1 = K at *
      generalize hE : (nrS xs us m).2 = E at *
      have hK := Lib.hid hK
      have hE := Lib.hid hE
      go_wp2_with fail
      refine hRN.out.mono ?_
      rintro e w9 ⟨rfl, r9, hw9⟩
      have hb9 : Below w.heap.size w w9 := by rw [hw9]; exact bel_drewN hb8 r9
      clear hw9 hRN
      have hR9 := hR.below hb9
      have h9 := h.below hb9
      obtain ⟨ad9, B9, L9, C9, y9, e9, hc9, hy9, hS9, _, hLb9⟩ := hR9.at_ hnb2
      have hu9 := hk7.out y9 (List.mem_of_getElem? hy9.out)
      have hL9 : L9 = L0 := by rw [← hS9.len]; exact hu9.1
      subst hL9
      have hdE := Lib.hid (show dist xs y9 = E by rw [hna.out, getD_some hy9.out])
      have hRD := Lib.hid (RDistance_any _ _ _ _ _ _ _ _ h9 hS9 k5 hx2.out hu9.2)
      rw [hdE.out] at hRD
      clear hu9
      have i9 : (0 : Int) ≤ (K : Int) := by omega
      have i9' : (K : Int) < (m : Int) := by omega
      injection e9 with e9
      subst e9
      go_wp2_with fail
      refine hRD.out.mono ?_
      rintro e w10 ⟨rfl, r10, hw10⟩
      have hb10 : Below w.heap.size w w10 := by rw [hw10]; exact bel_drewN hb9 r10
      clear hw10 hRD
      have hT10 := hT.below hb10
      go_wp2_with fail
      refine (known_any _ hT10).mono ?_
      rintro e w7 ⟨rfl, hb7⟩
      go_wp2
      go_ret
      exact ⟨rfl, hb10.trans (hb7.mono hb10.size)⟩
    · have hb5 := hb4.trans (hb45.mono hb4.size)
      have h5 := h.below hb5
      have hR5 := hR.below hb5
      have hT5 := hT.below hb5
      obtain ⟨hL5, hbl5⟩ := lit1 w5 A n c xs h5 hz (by omega)
      have hbl := hb5.trans (hbl5.mono hb5.size)
      have hV5 := RVectors_any _ _ _ _ _ hL5
      rw [vecs1] at hV5
      have hV5 := Lib.hid hV5
      have hk2 : codC [xs] us = 2 := by
        rw [hcod.out] at hk ⊢
        split at hk
        · exact absurd rfl hk
        · rename_i hq; rw [if_neg hq]
      have hall : (vecB xs && (okB 1 256 (m : Int) && (vecsB us && decide (n = (us.headD []).length)))) = false := by
        cases hq : (vecB xs && (okB 1 256 (m : Int) && (vecsB us && decide (n = (us.headD []).length)))) with
        | false => rfl
        | true => rw [hcod.out, hq] at hk2; cases hk2
      rw [hk2]
      clear hk hk2
      cases q1 : vecB xs with
      | false =>
        clear hall
        rw [q1] at hV5
        go_wp2_with fail
        refine hV5.out.mono ?_
        rintro e w6 ⟨rfl, r6, hw6⟩
        have hb6 : Below w.heap.size w w6 := by rw [hw6]; exact bel_drewN hbl r6
        clear hw6 hV5 hL5 hbl5 hbl
        have hT6 := hT.below hb6
        go_wp2_with fail
        refine (known_any _ hT6).mono ?_
        rintro e w7 ⟨rfl, hb7⟩
        go_wp2
        go_ret
        exact ⟨rfl, hb6.trans (hb7.mono hb6.size)⟩
      | true =>
        rw [q1, Bool.true_and] at hall
        cases q2 : (okB 1 256 (m : Int) && vecsB us) with
        | false =>
          clear hall
          rw [q1] at hV5
          go_wp2_with fail
          refine hV5.out.mono ?_
          rintro e w6 ⟨rfl, r6, hw6⟩
          have hb6 : Below w.heap.size w w6 := by rw [hw6]; exact bel_drewN hbl r6
          clear hw6 hV5 hL5 hbl5 hbl
          have hT6 := hT.below hb6
          have hR6 := hR.below hb6
          have hB6 := Lib.hid (RBook_any _ _ _ _ _ hR6)
          rw [q2] at hB6
          go_wp2_with fail
          refine hB6.out.mono ?_
          rintro e w8 ⟨rfl, r8, hw8⟩
          have hb8 : Below w.heap.size w w8 := by rw [hw8]; exact bel_drewN hb6 r8
          clear hw8 hB6
          have hT8 := hT.below hb8
          have hR8 := hR.below hb8
          have h8 := h.below hb8
          go_wp2_with fail
          refine (known_any _ hT8).mono ?_
          rintro e w7 ⟨rfl, hb7⟩
          go_wp2
          go_ret
          exact ⟨rfl, hb8.trans (hb7.mono hb8.size)⟩
        | true =>
          rw [← Bool.and_assoc, q2, Bool.true_and] at hall
          have hne := of_decide_eq_false hall
          have q3 : okB 1 256 (m : Int) = true := by
            simp only [Bool.and_eq_true] at q2
            exact q2.1
          have hm9 := okB_iff.1 q3
          clear hall q3
          rw [q1] at hV5
          go_wp2_with fail
          refine hV5.out.mono ?_
          rintro e w6 ⟨rfl, r6, hw6⟩
          have hb6 : Below w.heap.size w w6 := by rw [hw6]; exact bel_drewN hbl r6
          clear hw6 hV5 hL5 hbl5 hbl
          have hT6 := hT.below hb6
          have hR6 := hR.below hb6
          have hB6 := Lib.hid (RBook_any _ _ _ _ _ hR6)
          rw [q2] at hB6
          go_wp2_with fail
          refine hB6.out.mono ?_
          rintro e w8 ⟨rfl, r8, hw8⟩
          have hb8 : Below w.heap.size w w8 := by rw [hw8]; exact bel_drewN hb6 r8
          clear hw8 hB6
          have hT8 := hT.below hb8
          have hR8 := hR.below hb8
          have h8 := h.below hb8
          obtain ⟨ad0, B0, L0, C0, y0, e0, hc0, hy0, hS0, hLb0⟩ := rr_head hR8 (by omega)
          have hyl0 := Lib.hid hS0.len
          have hn0 : 0 < m := by omega
          have hn01 : (0 : Int) < (m : Int) := by omega
          rw [hy0, hyl0.out] at hne
          have d3 : ((n : Int) == (L0 : Int)) = false := by rw [beq_eq_false_iff_ne]; omega
          have d4 : ((n : Int) != (L0 : Int)) = true := by rw [bne_iff_ne]; omega
          have d5 : ¬ (n : Int) = (L0 : Int) := by omega
          subst e0
          clear q1 q2
          go_wp2_with fail
          refine (known_any _ hT8).mono ?_
          rintro e w7 ⟨rfl, hb7⟩
          go_wp2
          go_ret
          exact ⟨rfl, hb8.trans (hb7.mono hb8.size)⟩
end Go.Proofs.YtoljffghaklpdaaDoor
