/- Seeds: the law's walk. -/
import Derived.Test.YtoljffghaklpdaaGreatDoorQX
namespace Go.Proofs.YtoljffghaklpdaaGreatDoor
open Go.RowKit

theorem dist_self (x : List Int) : dist x x = 0 := by
  unfold dist
  rw [sm_eqv (g := fun _ => 0) (fun i _ => by unfold dsF; rw [Int.sub_self]; rfl), sm_none]
theorem sdS_at (vs : List (List Int)) {b : Nat} : ∀ j, b < j → (sdS vs j).getD b [] = vs.getD (sdN vs b) [] := by
  intro j
  induction j with
  | zero => intro h; omega
  | succ j ih =>
    intro h
    rw [sdS_succ]
    rcases Nat.lt_or_ge b j with h1 | h1
    · rw [List.getD_eq_getElem?_getD, List.getElem?_append_left (by rw [sdS_len]; exact h1), ← List.getD_eq_getElem?_getD, ih h1]
    · obtain rfl : b = j := by omega
      rw [List.getD_eq_getElem?_getD, List.getElem?_append_right (by rw [sdS_len]; exact Nat.le_refl _), sdS_len, Nat.sub_self]
      rfl
theorem sd_ne {vs : List (List Int)} {a b j : Nat} (hab : a < b) (hbj : b < j) (hp : 0 < sdD vs b (sdN vs b)) : (sdS vs j).getD b [] ≠ (sdS vs j).getD a [] := by
  intro e
  rw [sdS_at vs j hbj, sdS_at vs j (by omega)] at e
  have h1 := nrS_le (vs.getD (sdN vs b) []) (sdS vs b) b a hab
  rw [sdS_at vs b hab, ← e, dist_self] at h1
  unfold sdD at hp
  omega
theorem sd_pos {vs : List (List Int)} {K j : Nat} (h : SdP vs K j) (hK : 1 ≤ K) : 1 ≤ j := by
  rcases Nat.eq_zero_or_pos j with e | e
  · subst e
    have := h.2.2 (by omega)
    rw [sdD_zero] at this
    omega
  · exact e
theorem sd_cost {vs : List (List Int)} {j : Nat} (hj : 1 ≤ j) (hn : 1 ≤ vs.length) (h : sdD vs j (sdN vs j) ≤ 0) : cst vs (sdS vs j) = 0 := by
  unfold cst
  rw [sm_eqv (g := fun _ => 0) (fun i hi => ?_), sm_none]
  have e1 : cstF vs (sdS vs j) i = sdD vs j i := by unfold cstF sdD; rw [sdS_len]
  rw [e1]
  have h1 := sdD_nn vs j i
  have h2 := (fs_prop (sdD vs j) vs.length hn).2.1 i hi
  have h3 : sdN vs j = fs (sdD vs j) vs.length := by unfold sdN; rw [if_neg (by omega)]
  rw [h3] at h
  omega

set_option maxHeartbeats 6400000 in
set_option maxRecDepth 100000 in
theorem seeds_law (A : Option Addr) (N c : Nat) (vs : List (List Int)) (k : Int) (w : World) (h : Rr w A N c vs) (hT : Tab w) :
    Calls Tryz.prog 7 #[.slice A N c, .int .i64 k] w (YesF w) := by
  have hl := Lib.hid h.len
  have hcap := h.cap
  have htop := h.top
  have hF := Lib.hid (few_any A N c 30 vs w h (by decide))
  have hWr := fun w9 h9 => RWrong_any A N c vs w9 h9
  by_cases h0 : chk1 vs = 0
  · rw [h0] at hWr
    have hWr := Lib.hid hWr
    obtain ⟨k1, k2, k3⟩ := chk1_ok h0
    rw [hl.out] at k1 k3
    have h0 := Lib.hid h0
    rcases Int.lt_or_le k 1 with hk1 | hk1
    · have hSa := Lib.hid (fun w9 h9 => Seeds_arg A N c k vs w9 h9 h0.out (.inr (by
        cases q : okB 1 256 k with
        | false => rfl
        | true => rw [okB_iff] at q; omega)))
      have d1 : decide (k < 1) = true := decide_eq_true hk1
      go_enter Tryz.func7, Tryz.ntmps7
      go_wp2_with fail
      refine hF.out.mono ?_
      rintro e w1 ⟨⟨b, rfl⟩, hw1⟩
      rw [hw1]
      clear hw1
      cases b
      · go_wp2_with fail
        refine (known_any _ hT).mono ?_
        rintro e w99 ⟨rfl, hb99⟩
        go_wp2
        go_ret
        exact ⟨rfl, hb99⟩
      go_wp2_with fail
      refine (hSa.out w h).mono ?_
      rintro e w2 ⟨rfl, hb2⟩
      go_wp2_with fail
      refine (hWr.out w2 (h.below hb2)).mono ?_
      rintro e w3 ⟨rfl, r3, hw3⟩
      have hb3 : Below w.heap.size w w3 := by rw [hw3]; exact bel_drewN hb2 r3
      clear hw3
      have hT3 := hT.below hb3
      go_wp2_with fail
      refine (known_any _ hT3).mono ?_
      rintro e w99 ⟨rfl, hb99⟩
      go_wp2
      go_ret
      exact ⟨rfl, hb3.trans (hb99.mono hb3.size)⟩
    rcases Int.lt_or_le 256 k with hk2 | hk2
    · have hSa := Lib.hid (fun w9 h9 => Seeds_arg A N c k vs w9 h9 h0.out (.inr (by
        cases q : okB 1 256 k with
        | false => rfl
        | true => rw [okB_iff] at q; omega)))
      have d1 : decide (k < 1) = false := decide_eq_false (by omega)
      have d2 : decide (256 < k) = true := decide_eq_true hk2
      go_enter Tryz.func7, Tryz.ntmps7
      go_wp2_with fail
      refine hF.out.mono ?_
      rintro e w1 ⟨⟨b, rfl⟩, hw1⟩
      rw [hw1]
      clear hw1
      cases b
      · go_wp2_with fail
        refine (known_any _ hT).mono ?_
        rintro e w99 ⟨rfl, hb99⟩
        go_wp2
        go_ret
        exact ⟨rfl, hb99⟩
      go_wp2_with fail
      refine (hSa.out w h).mono ?_
      rintro e w2 ⟨rfl, hb2⟩
      go_wp2_with fail
      refine (hWr.out w2 (h.below hb2)).mono ?_
      rintro e w3 ⟨rfl, r3, hw3⟩
      have hb3 : Below w.heap.size w w3 := by rw [hw3]; exact bel_drewN hb2 r3
      clear hw3
      have hT3 := hT.below hb3
      go_wp2_with fail
      refine (known_any _ hT3).mono ?_
      rintro e w99 ⟨rfl, hb99⟩
      go_wp2
      go_ret
      exact ⟨rfl, hb3.trans (hb99.mono hb3.size)⟩
    have d1 : decide (k < 1) = false := decide_eq_false (by omega)
    have d2 : decide (256 < k) = false := decide_eq_false (by omega)
    rcases Nat.eq_zero_or_pos N with hz | hN
    · subst hz
      have hSa := Lib.hid (fun w9 h9 => Seeds_arg A 0 c k vs w9 h9 h0.out (.inl rfl))
      go_enter Tryz.func7, Tryz.ntmps7
      go_wp2_with fail
      refine hF.out.mono ?_
      rintro e w1 ⟨⟨b, rfl⟩, hw1⟩
      rw [hw1]
      clear hw1
      cases b
      · go_wp2_with fail
        refine (known_any _ hT).mono ?_
        rintro e w99 ⟨rfl, hb99⟩
        go_wp2
        go_ret
        exact ⟨rfl, hb99⟩
      go_wp2_with fail
      refine (hSa.out w h).mono ?_
      rintro e w2 ⟨rfl, hb2⟩
      go_wp2_with fail
      refine (hWr.out w2 (h.below hb2)).mono ?_
      rintro e w3 ⟨rfl, r3, hw3⟩
      have hb3 : Below w.heap.size w w3 := by rw [hw3]; exact bel_drewN hb2 r3
      clear hw3
      have hT3 := hT.below hb3
      go_wp2_with fail
      refine (known_any _ hT3).mono ?_
      rintro e w99 ⟨rfl, hb99⟩
      go_wp2
      go_ret
      exact ⟨rfl, hb3.trans (hb99.mono hb3.size)⟩
    obtain ⟨K, rfl⟩ : ∃ K : Nat, k = K := ⟨k.toNat, by omega⟩
    have hK1 : 1 ≤ K := by omega
    have hK2 : K ≤ 256 := by omega
    have hN0 : ((N : Int) == 0) = false := by rw [beq_eq_false_iff_ne]; omega
    have hN1 : ¬ N = 0 := by omega
    obtain ⟨m, hm⟩ : ∃ m, (vs.headD []).length = m := ⟨_, rfl⟩
    have hm1 := (k3 hN).1
    have hm2 := (k3 hN).2
    rw [hm] at k2 hm1 hm2
    have hsv := Lib.hid (fun j => sd_vec k2 (by rw [hl.out]; exact hN) j)
    have k2 := Lib.hid k2
    clear k3 hm
    go_enter Tryz.func7, Tryz.ntmps7
    go_wp2_with fail
    refine hF.out.mono ?_
    rintro e w1 ⟨⟨b, rfl⟩, hw1⟩
    rw [hw1]
    clear hw1
    cases b
    · go_wp2_with fail
      refine (known_any _ hT).mono ?_
      rintro e w99 ⟨rfl, hb99⟩
      go_wp2
      go_ret
      exact ⟨rfl, hb99⟩
    go_wp2_with fail
    refine (Seeds_any A N c K vs w h h0.out hN hK1 hK2).mono ?_
    rintro e w2 ⟨j, hSd, A2, c2, rfl, hR2, hb2⟩
    have hj1 := sd_pos hSd hK1
    have hjK := hSd.1
    go_wp2_with fail
    refine (hWr.out w2 (h.below hb2)).mono ?_
    rintro e w3 ⟨rfl, r3, hw3⟩
    have hb23 : Below w2.heap.size w2 w3 := by rw [hw3]; exact bel_drewN (Below.refl _ _) r3
    clear hw3
    have hb3 := hb2.trans (hb23.mono hb2.size)
    have hR3 := hR2.below hb23
    go_wp2_with fail
    refine (RSeeds_any A N c K m vs w3 (h.below hb3) hN k1 hm2 k2.out hK1 hK2).mono ?_
    rintro e w4 ⟨j2, hSd2, A4, c4, rfl, hR4, hb34⟩
    have hjj : j2 = j := hSd2.one hSd
    subst hjj
    have hb4 := hb3.trans (hb34.mono hb3.size)
    have hR34 := hR3.below hb34
    go_wp2_with fail
    refine (SameL_eq _ _ _ _ _ _ _ _ _ hR34 hR4 rfl).mono ?_
    rintro e w5 ⟨rfl, r5, hw5⟩
    have hb45 : Below w4.heap.size w4 w5 := by rw [hw5]; exact bel_drewN (Below.refl _ _) r5
    clear hw5
    have hb5 := hb4.trans (hb45.mono hb4.size)
    have hR5 := hR34.below hb45
    have hne := Lib.hid (fun a b (hab : a < b) (hbj : b < j2) => sd_ne (vs := vs) hab hbj (hSd.2.1 b hbj))
    have hcz := Lib.hid (fun (hlt : j2 < K) => sd_cost (vs := vs) hj1 (by rw [hl.out]; exact hN) (hSd.2.2 hlt))
    have hcod := Lib.hid (show codC vs (sdS vs j2) = 0 from codC_of (by rw [hl.out]; exact k1) (by rw [sdS_len]; exact hj1) (by rw [sdS_len]; omega) hm1 hm2 k2.out (hsv.out j2))
    have hcap5 := hR5.cap
    have htop5 := hR5.top
    clear hR2 hR3 hR4 hR34 hb23 hb34 hb45 hSd hSd2
    go_wp2
    go_loopw [8] (fun iv wr' => ∃ (i : Nat) (wr : World), wr = wr' ∧ iv = .int .i64 i ∧ i ≤ j2 ∧ Below w5.heap.size w5 wr) (fun iv _ => j2 - (intOf iv).toNat)
    case atStart => exact ⟨0, _, rfl, rfl, Nat.zero_le _, Below.refl _ _⟩
    case round =>
      obtain ⟨i, wr, rfl, rfl, hij, hbr⟩ := hrel
      rcases Nat.lt_or_ge i j2 with hil | hig
      · go_wp2
        go_loopw [9] (fun tv wx' => ∃ (t : Nat) (wx : World), wx = wx' ∧ tv = .int .i64 t ∧ t ≤ i ∧ Below w5.heap.size w5 wx) (fun tv _ => i - (intOf tv).toNat)
        case atStart => exact ⟨0, _, rfl, rfl, Nat.zero_le _, hbr⟩
        case round =>
          obtain ⟨t, wx, rfl, rfl, hti, hbx⟩ := hrel
          rcases Nat.lt_or_ge t i with htl | htg
          · have hRx := hR5.below hbx
            obtain ⟨ad, B, L, C, x, rfl, hcx, hx, hS, _⟩ := hRx.at_ hil
            obtain ⟨ad2, B2, L2, C2, y, e2, hcy, hy, hS2, _⟩ := hRx.at_ (show t < j2 by omega)
            injection e2 with e2
            subst e2
            have hxy : x ≠ y := by
              have q := hne.out t i htl hil
              rw [getD_some hx.out, getD_some hy.out] at q
              exact q
            have hE := Lib.hid (fun (q : Nat) => show Calls Tryz.prog 29 #[.slice B L C, .slice B2 L2 C2] (wx.drewN q) (fun e w' => e = .returned (.bool false) ∧ ∃ j, w' = (wx.drewN q).drewN j) from (Same_any _ _ _ _ _ _ _ _ _ (hS.drewN q) (hS2.drewN q)).mono fun e w' ⟨j, h1, h2⟩ => by
              rw [sameB_no hxy] at h1
              exact ⟨h1, j, h2⟩)
            have i0 : (0 : Int) ≤ (i : Int) := by omega
            have i1 : (i : Int) < (j2 : Int) := by omega
            have i2 : (0 : Int) ≤ (t : Int) := by omega
            have i3 : (t : Int) < (j2 : Int) := by omega
            clear hxy hS hS2
            go_wp2
            go_quiet (first | (go_at_call 29; exact Calls.quiet_of (hE.out _)))
            have hbz := bel_drewN hbx nq
            generalize wx.drewN nq = wz at *
            go_wp2
            go_roundw
            case rel => exact ⟨t + 1, _, rfl, by go_num, htl, hbz⟩
            case measure => simp [intOf]; omega
          · have hti' : i = t := by omega
            subst hti'
            go_wp2
            go_roundw
            case rel => exact ⟨i + 1, _, rfl, by go_num, hil, hbx⟩
            case measure => simp [intOf]; omega
      · have hij' : j2 = i := by omega
        subst hij'
        have hbe := hb5.trans (hbr.mono hb5.size)
        have hRe := hR5.below hbr
        have hTe := hT.below hbe
        rcases Nat.lt_or_ge j2 K with hlt | hge
        · have hc0 := hcz.out hlt
          have hq1 : ((j2 : Int) == (K : Int)) = false := by rw [beq_eq_false_iff_ne]; omega
          have hq2 : ¬ j2 = K := by omega
          have hC := Lib.hid (Cost_any A A2 N c j2 c2 vs (sdS vs j2) wr (h.below hbe) hRe)
          rw [hc0] at hC
          have hC := Lib.hid hC
          clear hc0
          go_wp2_with fail
          refine hC.out.mono ?_
          intro e w6 hh
          obtain ⟨rfl, hb6⟩ := (hh.resolve_right (fun q => q.1 hcod.out)).2
          clear hh
          have hb7 := hbe.trans (hb6.mono hbe.size)
          have hT7 := hT.below hb7
          go_wp2_with fail
          refine (known_any _ hT7).mono ?_
          rintro e w99 ⟨rfl, hb99⟩
          go_wp2
          go_ret
          exact ⟨rfl, hb7.trans (hb99.mono hb7.size)⟩
        · have hK' : j2 = K := by omega
          have hq1 : ((j2 : Int) == (K : Int)) = true := by simp; omega
          subst hK'
          go_wp2_with fail
          refine (known_any _ hTe).mono ?_
          rintro e w99 ⟨rfl, hb99⟩
          go_wp2
          go_ret
          exact ⟨rfl, hbe.trans (hb99.mono hbe.size)⟩
  · rcases chk1_cases vs with ⟨hc, _⟩ | ⟨hc, _⟩ | ⟨hc, _⟩
    · rw [hc] at hWr
      have hWr := Lib.hid hWr
      have hSb := fun w9 h9 => Seeds_bad A N c k vs w9 h9 h0
      rw [hc] at hSb
      have hSa := Lib.hid hSb
      clear hc h0
      go_enter Tryz.func7, Tryz.ntmps7
      go_wp2_with fail
      refine hF.out.mono ?_
      rintro e w1 ⟨⟨b, rfl⟩, hw1⟩
      rw [hw1]
      clear hw1
      cases b
      · go_wp2_with fail
        refine (known_any _ hT).mono ?_
        rintro e w99 ⟨rfl, hb99⟩
        go_wp2
        go_ret
        exact ⟨rfl, hb99⟩
      go_wp2_with fail
      refine (hSa.out w h).mono ?_
      rintro e w2 ⟨rfl, hb2⟩
      go_wp2_with fail
      refine (hWr.out w2 (h.below hb2)).mono ?_
      rintro e w3 ⟨rfl, r3, hw3⟩
      have hb3 : Below w.heap.size w w3 := by rw [hw3]; exact bel_drewN hb2 r3
      clear hw3
      have hT3 := hT.below hb3
      go_wp2_with fail
      refine (known_any _ hT3).mono ?_
      rintro e w99 ⟨rfl, hb99⟩
      go_wp2
      go_ret
      exact ⟨rfl, hb3.trans (hb99.mono hb3.size)⟩
    · rw [hc] at hWr
      have hWr := Lib.hid hWr
      have hSb := fun w9 h9 => Seeds_bad A N c k vs w9 h9 h0
      rw [hc] at hSb
      have hSa := Lib.hid hSb
      clear hc h0
      go_enter Tryz.func7, Tryz.ntmps7
      go_wp2_with fail
      refine hF.out.mono ?_
      rintro e w1 ⟨⟨b, rfl⟩, hw1⟩
      rw [hw1]
      clear hw1
      cases b
      · go_wp2_with fail
        refine (known_any _ hT).mono ?_
        rintro e w99 ⟨rfl, hb99⟩
        go_wp2
        go_ret
        exact ⟨rfl, hb99⟩
      go_wp2_with fail
      refine (hSa.out w h).mono ?_
      rintro e w2 ⟨rfl, hb2⟩
      go_wp2_with fail
      refine (hWr.out w2 (h.below hb2)).mono ?_
      rintro e w3 ⟨rfl, r3, hw3⟩
      have hb3 : Below w.heap.size w w3 := by rw [hw3]; exact bel_drewN hb2 r3
      clear hw3
      have hT3 := hT.below hb3
      go_wp2_with fail
      refine (known_any _ hT3).mono ?_
      rintro e w99 ⟨rfl, hb99⟩
      go_wp2
      go_ret
      exact ⟨rfl, hb3.trans (hb99.mono hb3.size)⟩
    · exact absurd hc h0
end Go.Proofs.YtoljffghaklpdaaGreatDoor
