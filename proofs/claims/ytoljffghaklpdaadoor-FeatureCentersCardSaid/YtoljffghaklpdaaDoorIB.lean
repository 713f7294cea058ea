/- Sums of centered vectors, and of differences: the law's walk. -/
import Derived.Test.YtoljffghaklpdaaDoorIA
namespace Go.Proofs.YtoljffghaklpdaaDoor
open Go.RowKit

set_option maxHeartbeats 6400000 in
set_option maxRecDepth 100000 in
theorem centers_law (A : Option Addr) (n c : Nat) (vs : List (List Int)) (w : World) (h : Rr w A n c vs) (hT : Tab w) :
    Calls Tryd.prog 12 #[.slice A n c] w (YesF w) := by
  have hl := Lib.hid h.len
  have hcap := h.cap
  have htop := h.top
  have hF := Lib.hid (few_any A n c 40 vs w h (by decide))
  have hW := Lib.hid (RWrong_any A n c vs w h)
  by_cases hc : chk1 vs = 0
  · obtain ⟨k1, k2, k3⟩ := chk1_ok hc
    rw [hl.out] at k1 k3
    obtain ⟨m, hmm⟩ : ∃ m, (vs.headD []).length = m := ⟨_, rfl⟩
    rw [hmm] at k2 k3
    rw [hc] at hW
    have hc := Lib.hid hc
    have hmm := Lib.hid hmm
    have k2 := Lib.hid k2
    rcases Nat.eq_zero_or_pos n with hz | hpos
    · subst hz
      go_enter Tryd.func12, Tryd.ntmps12
      go_wp2_with fail
      refine hF.out.mono ?_
      rintro e w1 ⟨⟨b, rfl⟩, hw1⟩
      rw [hw1]
      clear hw1
      cases b
      · go_wp2_with fail
        refine (known_any _ hT).mono ?_
        rintro e w99 ⟨rfl, hb99⟩
        go_wp2
        go_ret
        exact ⟨rfl, hb99⟩
      go_wp2_with fail
      refine hW.out.mono ?_
      rintro e w1 ⟨rfl, r1, hw1⟩
      have hb1 : Below w.heap.size w w1 := by rw [hw1]; exact bel_drewN (Below.refl _ _) r1
      clear hw1
      have hT1 := hT.below hb1
      go_wp2_with fail
      refine (known_any _ hT1).mono ?_
      rintro e w99 ⟨rfl, hb99⟩
      go_wp2
      go_ret
      exact ⟨rfl, hb1.trans (hb99.mono hb1.size)⟩
    have hm1 := (k3 hpos).1
    have hm2 := (k3 hpos).2
    clear k3
    have hn0 : ((n : Int) == 0) = false := by rw [beq_eq_false_iff_ne]; omega
    obtain ⟨ad, B0, L0, C0, x0, rfl, hc0, hx0, hS0, _⟩ := h.at_ hpos
    have hc0 : w.cell? ad = some (.slice B0 L0 C0) := by rw [show ad.add 0 = ad from by unfold Addr.add; simp] at hc0; exact hc0
    have hL0 : L0 = m := by rw [← hS0.len]; exact (k2.out x0 (List.mem_of_getElem? hx0.out)).1
    subst hL0
    by_cases hcc : cenC vs = 0
    · have hcc := Lib.hid hcc
      go_enter Tryd.func12, Tryd.ntmps12
      go_wp2_with fail
      refine hF.out.mono ?_
      rintro e w1 ⟨⟨b, rfl⟩, hw1⟩
      rw [hw1]
      clear hw1
      cases b
      · go_wp2_with fail
        refine (known_any _ hT).mono ?_
        rintro e w99 ⟨rfl, hb99⟩
        go_wp2
        go_ret
        exact ⟨rfl, hb99⟩
      go_wp2_with fail
      refine hW.out.mono ?_
      rintro e w1 ⟨rfl, r1, hw1⟩
      have hb1 : Below w.heap.size w w1 := by rw [hw1]; exact bel_drewN (Below.refl _ _) r1
      clear hw1
      have h1 := h.below hb1
      go_wp2_with fail
      refine (Center_any _ n c vs w1 h1).mono ?_
      intro e w2 hh
      obtain ⟨A2, c2, rfl, hR2, hb12⟩ := (hh.resolve_right (fun q => q.1 hcc.out)).2
      clear hh
      have hb2 := hb1.trans (hb12.mono hb1.size)
      have hcell := hR2.cap
      go_wp2_with fail
      refine (Center_any _ n c2 (cenL vs) w2 hR2).mono ?_
      intro e w3 hh
      obtain ⟨A3, n3, c3, code, rfl, hcode, hb23⟩ : ∃ A3 n3 c3 code, e = .returned (.tuple #[.slice A3 n3 c3, .int .i64 code]) ∧ (cenC (cenL vs) = 0 → code = 0 ∧ n3 = n ∧ Rr w3 A3 n3 c3 (cenL (cenL vs))) ∧ Below w2.heap.size w2 w3 := by
        rcases hh with ⟨q, A3, c3, rfl, hR, hb⟩ | ⟨q, rfl, hb⟩
        · exact ⟨A3, n, c3, 0, rfl, fun _ => ⟨rfl, rfl, hR⟩, hb⟩
        · exact ⟨none, 0, 0, _, rfl, fun e => absurd e q, hb⟩
      clear hh
      have hcode := Lib.hid hcode
      have hb3 := hb2.trans (hb23.mono hb2.size)
      have hR3 := hR2.below hb23
      have hc03 := (hb3.cell (World.block_lt_of_cell? _ _ hc0)).trans hc0
      have hck := Lib.hid (show chk1 (cenL vs) = 0 from by
          have := hcc.out
          unfold cenC at this
          rw [if_pos hc.out] at this
          by_cases q : chk1 (cenL vs) = 0
          · exact q
          · rw [if_neg q] at this; cases this)
      have hvc := Lib.hid (show VecS L0 (cenL vs) from by
        have := (chk1_ok hck.out).2.1
        rw [cen_head hmm.out (by rw [hl.out]; exact hpos)] at this
        exact this)
      have hbd := Lib.hid (fun k t => colS_bd (M := 1048576) (by decide) (fun x hx => (hvc.out x hx).2) k t)
      have hnear := Lib.hid (fun k (hk : k < L0) => by have q := col_near hmm.out hk (by rw [hl.out]; exact hpos); rw [hl.out] at q; exact q)
      have hcap3 := hR3.cap
      have htop3 := hR3.top
      go_wp2
      go_loop [7] (fun iv => ∃ k : Nat, iv = .int .i64 k ∧ k ≤ L0 ∧ Hid (∀ j, j < k → -(n : Int) < 2 * colS (cenL vs) j n ∧ 2 * colS (cenL vs) j n < n)) (fun iv => L0 - (intOf iv).toNat)
      case atStart => exact ⟨0, rfl, Nat.zero_le _, fun j hj => absurd hj (Nat.not_lt_zero j)⟩
      case round =>
        obtain ⟨k, rfl, hk, hdone⟩ := hrel
        rcases Nat.lt_or_ge k L0 with hkl | hkg
        · go_wp2
          go_loop [8, 9] (fun sv tv => ∃ t : Nat, tv = .int .i64 t ∧ sv = .int .i64 (colS (cenL vs) k t) ∧ t ≤ n) (fun _ tv => n - (intOf tv).toNat)
          case atStart => exact ⟨0, rfl, rfl, Nat.zero_le _⟩
          case round =>
            obtain ⟨t, rfl, rfl, htn⟩ := hrel
            rcases Nat.lt_or_ge t n with htl | htg
            · obtain ⟨ad2, B2, L2, C2, x, rfl, hcx, hx, hSx, _⟩ := hR3.at_ htl
              have hxv := hvc.out x (List.mem_of_getElem? hx.out)
              have hL2 : L2 = L0 := by rw [← hSx.len]; exact hxv.1
              subst hL2
              obtain ⟨ax, y, rfl, hcy, hy⟩ := hSx.at_ hkl
              have hyb := allB_get hxv.2 (by rw [hxv.1]; exact hkl) hy.out
              have hsb := hbd.out k t
              have hstep := Lib.hid (show colS (cenL vs) k (t + 1) = colS (cenL vs) k t + y by show colS (cenL vs) k t + ((cenL vs).getD t []).getD k 0 = _; rw [getD_some hx.out, hy.out])
              generalize hs : colS (cenL vs) k t = s at *
              have e3 : IntKind.i64.wrap (s + y) = s + y := IntWalk.i64_in _ (by omega)
              have i2 : (0 : Int) ≤ (t : Int) := by omega
              have i3 : (t : Int) < (n : Int) := by omega
              have i0 : (0 : Int) ≤ (k : Int) := by omega
              have i1 : (k : Int) < (L2 : Int) := by omega
              have hs := Lib.hid hs
              clear hyb hsb hxv
              go_wp2
              go_round
              case rel => exact ⟨t + 1, by go_num, by rw [hstep.out], htl⟩
              case measure => simp [intOf]; omega
            · have htn' : t = n := by omega
              subst htn'
              have hne := hnear.out k hkl
              obtain ⟨s, hs⟩ : ∃ s, colS (cenL vs) k t = s := ⟨_, rfl⟩
              rw [hs] at hne
              rw [hs]
              have hs := Lib.hid hs
              have hbs : -1000000 ≤ s ∧ s ≤ 1000000 := by omega
              obtain ⟨M, hM⟩ : ∃ M, max s (-s) = M := ⟨_, rfl⟩
              have hM1 : (if s < -s then -s else s) = M := by rw [← hM]; omega
              have hMb : 2 * M ≤ t ∧ 0 ≤ M ∧ M ≤ 1000000 := by omega
              have w1e : IntKind.i64.wrap (-s) = -s := IntWalk.i64_in _ (by omega)
              have w2e : IntKind.i64.wrap (2 * M) = 2 * M := IntWalk.i64_in _ (by omega)
              by_cases hq : 2 * M = (t : Int)
              · go_wp2_with fail
                have hT3 := hT.below hb3
                refine (known_any _ hT3).mono ?_
                rintro e w99 ⟨rfl, hb99⟩
                go_wp2
                go_ret
                exact ⟨rfl, hb3.trans (hb99.mono hb3.size)⟩
              · have hlt2 : -(t : Int) < 2 * s ∧ 2 * s < t := by omega
                have hd2 := Lib.hid (show ∀ j, j < k + 1 → -(t : Int) < 2 * colS (cenL vs) j t ∧ 2 * colS (cenL vs) j t < t from fun j hj => by
                  rcases Nat.lt_or_ge j k with h9 | h9
                  · exact hdone.out j h9
                  · rw [show j = k by omega, hs.out]; exact hlt2)
                clear hlt2
                go_wp2
                go_round
                case rel => exact ⟨k + 1, by go_num, hkl, hd2.out⟩
                case measure => simp [intOf]; omega
        · have hkn : L0 = k := by omega
          subst hkn
          have hag := Lib.hid (cen_again hmm.out (by rw [hl.out]; exact hpos) (fun j hj => by have q := hdone.out j hj; rw [hl.out]; exact q))
          obtain ⟨hz1, hz2, hR9⟩ := hcode.out (by unfold cenC; rw [if_pos hck.out, hag.out, if_pos hck.out])
          rw [hag.out] at hR9
          clear hcode
          have hz2 := hz2.symm
          subst hz2
          rw [hz1]
          clear hz1 hcap3 htop3
          go_wp2_with fail
          refine (SameL_eq _ _ _ _ _ _ _ _ _ hR9 hR3 rfl).mono ?_
          rintro e w4 ⟨rfl, r4, hw4⟩
          have hb4 : Below w.heap.size w w4 := by rw [hw4]; exact bel_drewN hb3 r4
          clear hw4 hR9 hR3 hR2 hb23 hb3 hc03
          have hP := h.below hb4
          go_wp2_with fail
          refine (Differences_any _ n c vs w4 hP).mono ?_
          rintro e w10 (⟨q, A10, c10, rfl, hRd, hbd10⟩ | ⟨q, rfl, hbd10⟩)
          · have hq := Lib.hid q
            clear q
            have hb10 := hb4.trans (hbd10.mono hb4.size)
            have hvd := Lib.hid (show ∀ x ∈ difL vs, x.length = L0 + L0 ∧ allB (-1048576) 1048576 x = true from by
              have e : chk1 (difL vs) = 0 := by
                have := hq.out
                unfold difC at this
                rw [if_pos hc.out] at this
                by_cases q : chk1 (difL vs) = 0
                · exact q
                · rw [if_neg q] at this; cases this
              have e1 := (chk1_ok e).2.1
              have e2 : ((difL vs).headD []).length = L0 + L0 := by
                have e3 : (difL vs).headD [] = (difL vs).getD 0 [] := by cases difL vs <;> rfl
                rw [e3, dif_getD hmm.out (by rw [hl.out]; exact hpos)]
                unfold difR
                rw [List.length_append, tab_len, (k2.out _ (mem_getD (by rw [hl.out]; exact hpos))).1]
              rw [e2] at e1
              exact e1)
            have hbdd := Lib.hid (fun k t => colS_bd (M := 1048576) (by decide) (fun x hx => (hvd.out x hx).2) k t)
            have hcol := Lib.hid (fun k (hk : k < L0) (h2n : 2 ≤ n) => by have q := col_dif hmm.out k2.out hk (by rw [hl.out]; exact h2n); rw [hl.out] at q; exact q)
            have hc010 := (hb10.cell (World.block_lt_of_cell? _ _ hc0)).trans hc0
            have hcap10 := hRd.cap
            have htop10 := hRd.top
            go_wp2
            go_loopw [13] (fun iv wr' => ∃ (k : Nat) (wr : World), wr = wr' ∧ iv = .int .i64 k ∧ k ≤ L0 ∧ Below w10.heap.size w10 wr) (fun iv _ => L0 - (intOf iv).toNat)
            case atStart => exact ⟨0, _, rfl, rfl, Nat.zero_le _, Below.refl _ _⟩
            case round =>
              obtain ⟨k, wr, rfl, rfl, hk, hbr⟩ := hrel
              have hcr := (hbr.cell (World.block_lt_of_cell? _ _ hc010)).trans hc010
              rcases Nat.lt_or_ge k L0 with hkl | hkg
              · go_wp2
                go_loopw [14, 15] (fun sv tv wx' => ∃ (t : Nat) (wx : World), wx = wx' ∧ tv = .int .i64 t ∧ sv = .int .i64 (colS (difL vs) (L0 + k) t) ∧ t ≤ n ∧ Below w10.heap.size w10 wx) (fun _ tv _ => n - (intOf tv).toNat)
                case atStart => exact ⟨0, _, rfl, rfl, rfl, Nat.zero_le _, hbr⟩
                case round =>
                  obtain ⟨t, wx, rfl, rfl, rfl, htn, hbx⟩ := hrel
                  rcases Nat.lt_or_ge t n with htl | htg
                  · have hRx := hRd.below hbx
                    obtain ⟨ad2, B2, L2, C2, x, rfl, hcx, hx, hSx, _⟩ := hRx.at_ htl
                    have hxv := hvd.out x (List.mem_of_getElem? hx.out)
                    have hL2 : L2 = L0 + L0 := by rw [← hSx.len]; exact hxv.1
                    obtain ⟨p, hp⟩ : ∃ p, L0 + k = p := ⟨_, rfl⟩
                    have hpl : p < L2 := by omega
                    obtain ⟨ax, y, rfl, hcy, hy⟩ := hSx.at_ hpl
                    have hyb := allB_get hxv.2 (by rw [hxv.1]; omega) hy.out
                    have hsb := hbdd.out p t
                    rw [hp]
                    have hstep := Lib.hid (show colS (difL vs) p (t + 1) = colS (difL vs) p t + y by show colS (difL vs) p t + ((difL vs).getD t []).getD p 0 = _; rw [getD_some hx.out, hy.out])
                    generalize hs : colS (difL vs) p t = s at *
                    have hs := Lib.hid hs
                    have e3 : IntKind.i64.wrap (s + y) = s + y := IntWalk.i64_in _ (by omega)
                    have e4 : IntKind.i64.wrap (2 * (L0 : Int)) = (L2 : Int) := by rw [IntWalk.i64_in _ (by omega)]; omega
                    have e5 : IntKind.i64.wrap ((L0 : Int) + (k : Int)) = (p : Int) := by rw [IntWalk.i64_in _ (by omega)]; omega
                    have i2 : (0 : Int) ≤ (t : Int) := by omega
                    have i3 : (t : Int) < (n : Int) := by omega
                    have i0 : (0 : Int) ≤ (p : Int) := by omega
                    have i1 : (p : Int) < (L2 : Int) := by omega
                    have hcx0 := (hbx.cell (World.block_lt_of_cell? _ _ hc010)).trans hc010
                    have hp := Lib.hid hp
                    have hL2 := Lib.hid hL2
                    clear hyb hsb hxv hcr hbr hRx
                    go_wp2
                    go_quiet (fail)
                    have hby := bel_drewN hbx nq
                    have hcx2 := (bel_drewN (Below.refl wx.heap.size wx) nq).cell (World.block_lt_of_cell? _ _ hcx) |>.trans hcx
                    have hcy2 := (bel_drewN (Below.refl wx.heap.size wx) nq).cell (World.block_lt_of_cell? _ _ hcy) |>.trans hcy
                    have hcx02 := (bel_drewN (Below.refl wx.heap.size wx) nq).cell (World.block_lt_of_cell? _ _ hcx0) |>.trans hcx0
                    generalize wx.drewN nq = wy at *
                    clear e4
                    go_wp2
                    go_quiet (fail)
                    have hbz := bel_drewN hby nq
                    generalize wy.drewN nq = wz at *
                    go_wp2
                    go_roundw
                    case rel => exact ⟨t + 1, _, rfl, by go_num, by rw [hstep.out], htl, hbz⟩
                    case measure => simp [intOf]; omega
                  · have htn' : n = t := by omega
                    subst htn'
                    have hcx0 := (hbx.cell (World.block_lt_of_cell? _ _ hc010)).trans hc010
                    have hPx := hP.below (hbd10.trans (hbx.mono hbd10.size))
                    obtain ⟨r, hr⟩ : ∃ r, n - 1 = r := ⟨_, rfl⟩
                    have hrl : r < n := by omega
                    obtain ⟨ad2, B2, L2, C2, x, e2, hcx, hx, hSx, _⟩ := hPx.at_ hrl
                    injection e2 with e2
                    subst e2
                    have hxv := k2.out x (List.mem_of_getElem? hx.out)
                    have hL2 : L0 = L2 := by rw [← hSx.len]; exact hxv.1.symm
                    subst hL2
                    obtain ⟨ax, y, rfl, hcy, hy⟩ := hSx.at_ hkl
                    have hyb := allB_get hxv.2 (by rw [hxv.1]; exact hkl) hy.out
                    have hS0x := (hS0.below hb4).below (hbd10.trans (hbx.mono hbd10.size))
                    have hx0v := k2.out x0 (List.mem_of_getElem? hx0.out)
                    obtain ⟨az, z, rfl, hcz, hz⟩ := hS0x.at_ hkl
                    have hzb := allB_get hx0v.2 (by rw [hx0v.1]; exact hkl) hz.out
                    have hwant := Lib.hid (fun h2n => show colS (difL vs) (L0 + k) n = y + y - z - z by
                      rw [hcol.out k hkl h2n, hr, getD_some hx.out, hy.out, getD_some hx0.out, hz.out])
                    have e4 : IntKind.i64.wrap ((n : Int) - 1) = (r : Int) := by rw [IntWalk.i64_in _ (by omega)]; omega
                    have e5 : IntKind.i64.wrap (y + y) = y + y := IntWalk.i64_in _ (by omega)
                    have e6 : IntKind.i64.wrap (y + y - z) = y + y - z := IntWalk.i64_in _ (by omega)
                    have i2 : (0 : Int) ≤ (r : Int) := by omega
                    have i3 : (r : Int) < (n : Int) := by omega
                    have i0 : (0 : Int) ≤ (k : Int) := by omega
                    have i1 : (k : Int) < (L0 : Int) := by omega
                    have hsb := hbdd.out (L0 + k) n
                    have hr := Lib.hid hr
                    generalize colS (difL vs) (L0 + k) n = s at *
                    rcases Nat.lt_or_ge 1 n with h1t | h1t
                    · have e7 : IntKind.i64.wrap (y + y - z - z) = s := by rw [IntWalk.i64_in _ (by omega), hwant.out h1t]
                      clear hyb hzb hxv hx0v hcr hbr hPx hsb hwant
                      go_wp2
                      go_quiet (fail)
                      have hbz := bel_drewN hbx nq
                      generalize wx.drewN nq = wz at *
                      go_wp2
                      go_roundw
                      case rel => exact ⟨k + 1, _, rfl, by go_num, hkl, hbz⟩
                      case measure => simp [intOf]; omega
                    · have e7 : IntKind.i64.wrap (y + y - z - z) = y + y - z - z := IntWalk.i64_in _ (by omega)
                      clear hyb hzb hxv hx0v hcr hbr hPx hsb hwant
                      go_wp2
                      go_quiet (fail)
                      have hbz := bel_drewN hbx nq
                      generalize wx.drewN nq = wz at *
                      have ht1 : ¬ (1 : Int) < (n : Int) := by omega
                      go_wp2
                      go_roundw
                      case rel => exact ⟨k + 1, _, rfl, by go_num, hkl, hbz⟩
                      case measure => simp [intOf]; omega
              · have hkn : L0 = k := by omega
                subst hkn
                have hb11 := hb10.trans (hbr.mono hb10.size)
                have hT11 := hT.below hb11
                go_wp2_with fail
                refine (known_any _ hT11).mono ?_
                rintro e w99 ⟨rfl, hb99⟩
                go_wp2
                go_ret
                exact ⟨rfl, hb11.trans (hb99.mono hb11.size)⟩
          · have hne : (difC vs != 0) = true := by simp [q]
            have hne2 : (difC vs == 0) = false := by simp [q]
            have hb10 := hb4.trans (hbd10.mono hb4.size)
            have hT10 := hT.below hb10
            generalize difC vs = q9 at *
            go_wp2_with fail
            refine (known_any _ hT10).mono ?_
            rintro e w99 ⟨rfl, hb99⟩
            go_wp2
            go_ret
            exact ⟨rfl, hb10.trans (hb99.mono hb10.size)⟩
    · have hne : (cenC vs != 0) = true := by simp [hcc]
      have hne2 : (cenC vs == 0) = false := by simp [hcc]
      have hcc := Lib.hid hcc
      go_enter Tryd.func12, Tryd.ntmps12
      go_wp2_with fail
      refine hF.out.mono ?_
      rintro e w1 ⟨⟨b, rfl⟩, hw1⟩
      rw [hw1]
      clear hw1
      cases b
      · go_wp2_with fail
        refine (known_any _ hT).mono ?_
        rintro e w99 ⟨rfl, hb99⟩
        go_wp2
        go_ret
        exact ⟨rfl, hb99⟩
      go_wp2_with fail
      refine hW.out.mono ?_
      rintro e w1 ⟨rfl, r1, hw1⟩
      have hb1 : Below w.heap.size w w1 := by rw [hw1]; exact bel_drewN (Below.refl _ _) r1
      clear hw1
      have h1 := h.below hb1
      go_wp2_with fail
      refine (Center_any _ n c vs w1 h1).mono ?_
      intro e w2 hh
      obtain ⟨rfl, hb12⟩ := (hh.resolve_left (fun q => hcc.out q.1)).2
      clear hh
      generalize cenC vs = q8 at *
      have hb2 := hb1.trans (hb12.mono hb1.size)
      have hP := h.below hb2
      go_wp2_with fail
      refine (Differences_any _ n c vs w2 hP).mono ?_
      rintro e w10 (⟨q, A10, c10, rfl, hRd, hbd10⟩ | ⟨q, rfl, hbd10⟩)
      · have hq := Lib.hid q
        clear q
        have hb10 := hb2.trans (hbd10.mono hb2.size)
        have hvd := Lib.hid (show ∀ x ∈ difL vs, x.length = L0 + L0 ∧ allB (-1048576) 1048576 x = true from by
          have e : chk1 (difL vs) = 0 := by
            have := hq.out
            unfold difC at this
            rw [if_pos hc.out] at this
            by_cases q : chk1 (difL vs) = 0
            · exact q
            · rw [if_neg q] at this; cases this
          have e1 := (chk1_ok e).2.1
          have e2 : ((difL vs).headD []).length = L0 + L0 := by
            have e3 : (difL vs).headD [] = (difL vs).getD 0 [] := by cases difL vs <;> rfl
            rw [e3, dif_getD hmm.out (by rw [hl.out]; exact hpos)]
            unfold difR
            rw [List.length_append, tab_len, (k2.out _ (mem_getD (by rw [hl.out]; exact hpos))).1]
          rw [e2] at e1
          exact e1)
        have hbdd := Lib.hid (fun k t => colS_bd (M := 1048576) (by decide) (fun x hx => (hvd.out x hx).2) k t)
        have hcol := Lib.hid (fun k (hk : k < L0) (h2n : 2 ≤ n) => by have q := col_dif hmm.out k2.out hk (by rw [hl.out]; exact h2n); rw [hl.out] at q; exact q)
        have hc010 := (hb10.cell (World.block_lt_of_cell? _ _ hc0)).trans hc0
        have hcap10 := hRd.cap
        have htop10 := hRd.top
        go_wp2
        go_loopw [13] (fun iv wr' => ∃ (k : Nat) (wr : World), wr = wr' ∧ iv = .int .i64 k ∧ k ≤ L0 ∧ Below w10.heap.size w10 wr) (fun iv _ => L0 - (intOf iv).toNat)
        case atStart => exact ⟨0, _, rfl, rfl, Nat.zero_le _, Below.refl _ _⟩
        case round =>
          obtain ⟨k, wr, rfl, rfl, hk, hbr⟩ := hrel
          have hcr := (hbr.cell (World.block_lt_of_cell? _ _ hc010)).trans hc010
          rcases Nat.lt_or_ge k L0 with hkl | hkg
          · go_wp2
            go_loopw [14, 15] (fun sv tv wx' => ∃ (t : Nat) (wx : World), wx = wx' ∧ tv = .int .i64 t ∧ sv = .int .i64 (colS (difL vs) (L0 + k) t) ∧ t ≤ n ∧ Below w10.heap.size w10 wx) (fun _ tv _ => n - (intOf tv).toNat)
            case atStart => exact ⟨0, _, rfl, rfl, rfl, Nat.zero_le _, hbr⟩
            case round =>
              obtain ⟨t, wx, rfl, rfl, rfl, htn, hbx⟩ := hrel
              rcases Nat.lt_or_ge t n with htl | htg
              · have hRx := hRd.below hbx
                obtain ⟨ad2, B2, L2, C2, x, rfl, hcx, hx, hSx, _⟩ := hRx.at_ htl
                have hxv := hvd.out x (List.mem_of_getElem? hx.out)
                have hL2 : L2 = L0 + L0 := by rw [← hSx.len]; exact hxv.1
                obtain ⟨p, hp⟩ : ∃ p, L0 + k = p := ⟨_, rfl⟩
                have hpl : p < L2 := by omega
                obtain ⟨ax, y, rfl, hcy, hy⟩ := hSx.at_ hpl
                have hyb := allB_get hxv.2 (by rw [hxv.1]; omega) hy.out
                have hsb := hbdd.out p t
                rw [hp]
                have hstep := Lib.hid (show colS (difL vs) p (t + 1) = colS (difL vs) p t + y by show colS (difL vs) p t + ((difL vs).getD t []).getD p 0 = _; rw [getD_some hx.out, hy.out])
                generalize hs : colS (difL vs) p t = s at *
                have hs := Lib.hid hs
                have e3 : IntKind.i64.wrap (s + y) = s + y := IntWalk.i64_in _ (by omega)
                have e4 : IntKind.i64.wrap (2 * (L0 : Int)) = (L2 : Int) := by rw [IntWalk.i64_in _ (by omega)]; omega
                have e5 : IntKind.i64.wrap ((L0 : Int) + (k : Int)) = (p : Int) := by rw [IntWalk.i64_in _ (by omega)]; omega
                have i2 : (0 : Int) ≤ (t : Int) := by omega
                have i3 : (t : Int) < (n : Int) := by omega
                have i0 : (0 : Int) ≤ (p : Int) := by omega
                have i1 : (p : Int) < (L2 : Int) := by omega
                have hcx0 := (hbx.cell (World.block_lt_of_cell? _ _ hc010)).trans hc010
                have hp := Lib.hid hp
                have hL2 := Lib.hid hL2
                clear hyb hsb hxv hcr hbr hRx
                go_wp2
                go_quiet (fail)
                have hby := bel_drewN hbx nq
                have hcx2 := (bel_drewN (Below.refl wx.heap.size wx) nq).cell (World.block_lt_of_cell? _ _ hcx) |>.trans hcx
                have hcy2 := (bel_drewN (Below.refl wx.heap.size wx) nq).cell (World.block_lt_of_cell? _ _ hcy) |>.trans hcy
                have hcx02 := (bel_drewN (Below.refl wx.heap.size wx) nq).cell (World.block_lt_of_cell? _ _ hcx0) |>.trans hcx0
                generalize wx.drewN nq = wy at *
                clear e4
                go_wp2
                go_quiet (fail)
                have hbz := bel_drewN hby nq
                generalize wy.drewN nq = wz at *
                go_wp2
                go_roundw
                case rel => exact ⟨t + 1, _, rfl, by go_num, by rw [hstep.out], htl, hbz⟩
                case measure => simp [intOf]; omega
              · have htn' : n = t := by omega
                subst htn'
                have hcx0 := (hbx.cell (World.block_lt_of_cell? _ _ hc010)).trans hc010
                have hPx := hP.below (hbd10.trans (hbx.mono hbd10.size))
                obtain ⟨r, hr⟩ : ∃ r, n - 1 = r := ⟨_, rfl⟩
                have hrl : r < n := by omega
                obtain ⟨ad2, B2, L2, C2, x, e2, hcx, hx, hSx, _⟩ := hPx.at_ hrl
                injection e2 with e2
                subst e2
                have hxv := k2.out x (List.mem_of_getElem? hx.out)
                have hL2 : L0 = L2 := by rw [← hSx.len]; exact hxv.1.symm
                subst hL2
                obtain ⟨ax, y, rfl, hcy, hy⟩ := hSx.at_ hkl
                have hyb := allB_get hxv.2 (by rw [hxv.1]; exact hkl) hy.out
                have hS0x := (hS0.below hb2).below (hbd10.trans (hbx.mono hbd10.size))
                have hx0v := k2.out x0 (List.mem_of_getElem? hx0.out)
                obtain ⟨az, z, rfl, hcz, hz⟩ := hS0x.at_ hkl
                have hzb := allB_get hx0v.2 (by rw [hx0v.1]; exact hkl) hz.out
                have hwant := Lib.hid (fun h2n => show colS (difL vs) (L0 + k) n = y + y - z - z by
                  rw [hcol.out k hkl h2n, hr, getD_some hx.out, hy.out, getD_some hx0.out, hz.out])
                have e4 : IntKind.i64.wrap ((n : Int) - 1) = (r : Int) := by rw [IntWalk.i64_in _ (by omega)]; omega
                have e5 : IntKind.i64.wrap (y + y) = y + y := IntWalk.i64_in _ (by omega)
                have e6 : IntKind.i64.wrap (y + y - z) = y + y - z := IntWalk.i64_in _ (by omega)
                have i2 : (0 : Int) ≤ (r : Int) := by omega
                have i3 : (r : Int) < (n : Int) := by omega
                have i0 : (0 : Int) ≤ (k : Int) := by omega
                have i1 : (k : Int) < (L0 : Int) := by omega
                have hsb := hbdd.out (L0 + k) n
                have hr := Lib.hid hr
                generalize colS (difL vs) (L0 + k) n = s at *
                rcases Nat.lt_or_ge 1 n with h1t | h1t
                · have e7 : IntKind.i64.wrap (y + y - z - z) = s := by rw [IntWalk.i64_in _ (by omega), hwant.out h1t]
                  clear hyb hzb hxv hx0v hcr hbr hPx hsb hwant
                  go_wp2
                  go_quiet (fail)
                  have hbz := bel_drewN hbx nq
                  generalize wx.drewN nq = wz at *
                  go_wp2
                  go_roundw
                  case rel => exact ⟨k + 1, _, rfl, by go_num, hkl, hbz⟩
                  case measure => simp [intOf]; omega
                · have e7 : IntKind.i64.wrap (y + y - z - z) = y + y - z - z := IntWalk.i64_in _ (by omega)
                  clear hyb hzb hxv hx0v hcr hbr hPx hsb hwant
                  go_wp2
                  go_quiet (fail)
                  have hbz := bel_drewN hbx nq
                  generalize wx.drewN nq = wz at *
                  have ht1 : ¬ (1 : Int) < (n : Int) := by omega
                  go_wp2
                  go_roundw
                  case rel => exact ⟨k + 1, _, rfl, by go_num, hkl, hbz⟩
                  case measure => simp [intOf]; omega
          · have hkn : L0 = k := by omega
            subst hkn
            have hb11 := hb10.trans (hbr.mono hb10.size)
            have hT11 := hT.below hb11
            go_wp2_with fail
            refine (known_any _ hT11).mono ?_
            rintro e w99 ⟨rfl, hb99⟩
            go_wp2
            go_ret
            exact ⟨rfl, hb11.trans (hb99.mono hb11.size)⟩
      · have hne : (difC vs != 0) = true := by simp [q]
        have hne2 : (difC vs == 0) = false := by simp [q]
        have hb10 := hb2.trans (hbd10.mono hb2.size)
        have hT10 := hT.below hb10
        generalize difC vs = q9 at *
        go_wp2_with fail
        refine (known_any _ hT10).mono ?_
        rintro e w99 ⟨rfl, hb99⟩
        go_wp2
        go_ret
        exact ⟨rfl, hb10.trans (hb99.mono hb10.size)⟩
  · have hne : (chk1 vs != 0) = true := by simp [hc]
    have hne2 : (chk1 vs == 0) = false := by simp [hc]
    generalize chk1 vs = q7 at *
    go_enter Tryd.func12, Tryd.ntmps12
    go_wp2_with fail
    refine hF.out.mono ?_
    rintro e w1 ⟨⟨b, rfl⟩, hw1⟩
    rw [hw1]
    clear hw1
    cases b
    · go_wp2_with fail
      refine (known_any _ hT).mono ?_
      rintro e w99 ⟨rfl, hb99⟩
      go_wp2
      go_ret
      exact ⟨rfl, hb99⟩
    go_wp2_with fail
    refine hW.out.mono ?_
    rintro e w1 ⟨rfl, r1, hw1⟩
    have hb1 : Below w.heap.size w w1 := by rw [hw1]; exact bel_drewN (Below.refl _ _) r1
    clear hw1
    have hT1 := hT.below hb1
    go_wp2_with fail
    refine (known_any _ hT1).mono ?_
    rintro e w99 ⟨rfl, hb99⟩
    go_wp2
    go_ret
    exact ⟨rfl, hb1.trans (hb99.mono hb1.size)⟩
end Go.Proofs.YtoljffghaklpdaaDoor
