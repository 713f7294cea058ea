/- The improved and the trained codebook: the document's training, and the law's walk. -/
import Derived.Test.YtoljffghaklpdaaGreatDoorLA
namespace Go.Proofs.YtoljffghaklpdaaGreatDoor
open Go.RowKit

set_option maxHeartbeats 6400000 in
set_option maxRecDepth 100000 in
theorem RTrain_any (A A' : Option Addr) (N c n c' m R : Nat) (vs us : List (List Int)) (w : World) (h : Rr w A N c vs) (h' : Rr w A' n c' us) (hN : N ≤ 10000) (hn2 : n ≤ 256) (hm : m ≤ 64) (hv : VecS m vs) (hu : VecS m us) (hn1 : 1 ≤ n) (hR : R ≤ 1000) :
    Calls Tryz.prog 25 #[.slice A N c, .slice A' n c', .int .i64 (R : Int)] w fun e w' => ∃ k, Stop m vs us R k ∧ ∃ A2 c2, e = .returned (.tuple #[.slice A2 n c2, .int .i64 (k : Int)]) ∧ Rr w' A2 n c2 (itr m vs us k) ∧ Below w.heap.size w w' := by
  have hl := Lib.hid h.len
  have hl' := Lib.hid h'.len
  have hcap := h.cap
  have htop := h.top
  have hcap' := h'.cap
  have htop' := h'.top
  have hIl := Lib.hid (fun k => show (itr m vs us k).length = n by rw [itr_len, hl'.out])
  have hIv := Lib.hid (fun k => itr_vec hv hu k)
  have hv := Lib.hid hv
  have hu := Lib.hid hu
  obtain ⟨i0, hi, hz0, hz1, hz2⟩ := info_parts info_sl
  obtain ⟨j0, hj, hj0, hj1, hj2⟩ := info_parts info_int
  go_enter Tryz.func25, Tryz.ntmps25
  go_wp2
  go_loopw [1, 8] (fun bv nv wr' => ∃ (k : Nat) (A1 : Option Addr) (c1 : Nat) (wr : World), wr = wr' ∧ nv = .int .i64 k ∧ bv = .slice A1 n c1 ∧ k ≤ R ∧ Rr wr A1 n c1 (itr m vs us k) ∧ Hid (∀ j, j < k → itr m vs us (j + 1) ≠ itr m vs us j) ∧ Below w.heap.size w wr) (fun _ nv _ => R - (intOf nv).toNat)
  case atStart => exact ⟨0, _, _, _, rfl, rfl, rfl, Nat.zero_le _, h', fun j hj => absurd hj (Nat.not_lt_zero j), Below.refl _ _⟩
  case round =>
    obtain ⟨k, A1, c1, wr, rfl, rfl, rfl, hkR, hRk, hd, hbr⟩ := hrel
    have hcap1 := hRk.cap
    have htop1 := hRk.top
    rcases Nat.lt_or_ge k R with hlt | hge
    · have hvr := h.below hbr
      go_wp2_with fail
      refine (RImprove_any A A1 N c n c1 m vs (itr m vs us k) wr hvr hRk hN hn2 hm hv.out (hIv.out k) hn1).mono ?_
      rintro e w5 ⟨A5, c5, rfl, hRn, hb5⟩
      have hRn : Rr w5 A5 n c5 (itr m vs us (k + 1)) := hRn
      have hRk5 := hRk.below hb5
      have hb6 := hbr.trans (hb5.mono hbr.size)
      go_wp2_with fail
      refine (SameL_any _ _ _ _ _ _ _ _ _ hRn hRk5).mono ?_
      rintro e w7 ⟨b, r7, rfl, hbe, hw7⟩
      have hb57 : Below w5.heap.size w5 w7 := by rw [hw7]; exact bel_drewN (Below.refl _ _) r7
      clear hw7
      have hb7 := hb6.trans (hb57.mono hb6.size)
      have hRn7 := hRn.below hb57
      have hRk := hRk5.below hb57
      cases b with
      | true =>
        have he := Lib.hid (hbe.1 rfl)
        clear hbe hRn7 hRk5 hRn
        go_wp2
        go_loopw [10, 11] (fun ov iv wx' => ∃ (t : Nat) (V : Value) (news : List Value) (wx : World), wx = wx' ∧ iv = .int .i64 t ∧ V = ov ∧ t ≤ n ∧ OwnRr wx w7.heap.size V t news ((itr m vs us k).take t) ∧ Below w7.heap.size w7 wx) (fun _ iv _ => n - (intOf iv).toNat)
        case atStart => exact ⟨0, _, [], _, rfl, rfl, rfl, Nat.zero_le _, OwnRr.nil_ _ _, Below.refl _ _⟩
        case round =>
          obtain ⟨t, V, news, wx, rfl, rfl, rfl, htn, hO, hbx⟩ := hrel
          obtain ⟨AV, cV, rfl⟩ := own_slice hO.own
          rcases Nat.lt_or_ge t n with htl | htg
          · obtain ⟨ad, B, L, C, x, rfl, hc, hx, hS, hB0, hL0⟩ := (hRk.below hbx).at_ htl
            have hxl := (hIv.out k x (List.mem_of_getElem? hx.out)).1
            have hLm : L = m := by rw [← hS.len]; exact hxl
            subst hLm
            have hsx := Lib.hid (Src.of_sl hS hB0)
            have i0' : (0 : Int) ≤ (t : Int) := by omega
            have i1 : (t : Int) < (n : Int) := by omega
            have hrow := Lib.hid (fun (w9 : World) (hO9 : OwnRr w9 w7.heap.size (.slice AV t cV) t news ((itr L vs us k).take t)) q (hq : (Value.slice AV t cV).ownBlock = some q) => (hO9.own.lt q hq).1)
            have htk := Lib.hid (take_snocL hx.out)
            go_wp2_with (first
              | (at_builtin; refine wpList_append_any rfl (.const (.slice none 0 0)) (.tmp 34) 28 rfl wx.heap.size 3 j0 (.int .i64 0) 1 8 Tryz.underlying28 hj hj0 hj1 hj2 rfl (by decide) (.slice none 0 0) 0 [] rfl (World.ownsRow_nil _ _ _ _) B L C (ivs .i64 x) rfl hsx.out (by unfold maxLen; omega) (by omega) (Nat.le_refl _) ?_; intro V3 w3 g1 g2 g3; obtain ⟨A3, c3, rfl⟩ := own_slice g1; have hb3 : Below wx.heap.size wx w3 := (Below.refl wx.heap.size wx).grown g2 (Nat.le_refl _) (fun q e => by cases e); have hs3 : w3.ownsRow w7.heap.size 3 1 (.slice A3 L c3) L (ivs .i64 x) := own_mono (by simpa using g1) hbx.size; have hO5 := hO.below hb3; have hbel5 := hbx.trans (hb3.mono hbx.size); have hsrc := Lib.hid (src_lit w3 28 A3 L c3); have hbz : w7.heap.size ≤ (w3.alloc (.cells #[.slice A3 L c3] 28)).heap.size := (by have := hbel5.size; simp; omega); clear g1 g2 g3)
              | (at_builtin; refine wpList_append_any rfl (.tmp 30) (.tmp 36) 34 rfl w7.heap.size 28 i0 nilV 1 24 Tryz.underlying34 hi hz0 hz1 hz2 rfl (by decide) (.slice AV t cV) t news rfl (hO5.own.alloc _) (some ⟨w3.heap.size, 0, none⟩) 1 1 [.slice A3 L c3] rfl hsrc.out (by unfold maxLen; omega) (by omega) hbz ?_; intro V4 w5 g4 g5 g6; have hO6 := OwnRr.push hO5 (x := x) (by rw [hxl]; exact hs3) (by rw [hxl]; omega) g4 g5; obtain ⟨A4, c4, rfl⟩ := own_slice g4; have hb7 : Below w7.heap.size w7 w5 := (hbel5.alloc hbel5.size _).grown g5 hbz (hrow.out w3 hO5); clear g4 g5 g6))
            go_wp2
            go_roundw
            case rel => exact ⟨t + 1, _, _, _, rfl, by go_num, rfl, htl, by rw [htk.out]; exact hO6, hb7⟩
            case measure => simp [intOf]; omega
          · have htn' : n = t := by omega
            subst htn'
            have htk := Lib.hid (show (itr m vs us k).take n = itr m vs us k from List.take_of_length_le (by rw [hIl.out]; exact Nat.le_refl _))
            rw [htk.out] at hO
            obtain ⟨A9, c9, e9, hR⟩ := hO.rr
            injection e9 with e91 e92 e93
            subst e91 e93
            go_wp2
            go_ret2
            exact ⟨k, ⟨hkR, hd.out, fun _ => he.out⟩, _, _, rfl, hR, hb7.trans (hbx.mono hb7.size)⟩
      | false =>
        have hne := Lib.hid (show itr m vs us (k + 1) ≠ itr m vs us k from fun e => by have := hbe.2 e; cases this)
        clear hbe
        have hd2 := Lib.hid (show ∀ j, j < k + 1 → itr m vs us (j + 1) ≠ itr m vs us j from fun j hj => by
          rcases Nat.lt_or_ge j k with h9 | h9
          · exact hd.out j h9
          · rw [show j = k by omega]; exact hne.out)
        go_wp2
        go_roundw
        case rel => exact ⟨k + 1, _, _, _, rfl, by go_num, rfl, hlt, hRn7, hd2.out, hb7⟩
        case measure => simp [intOf]; omega
    · have hkR' : R = k := by omega
      subst hkR'
      go_wp2
      go_loopw [10, 11] (fun ov iv wx' => ∃ (t : Nat) (V : Value) (news : List Value) (wx : World), wx = wx' ∧ iv = .int .i64 t ∧ V = ov ∧ t ≤ n ∧ OwnRr wx wr.heap.size V t news ((itr m vs us R).take t) ∧ Below wr.heap.size wr wx) (fun _ iv _ => n - (intOf iv).toNat)
      case atStart => exact ⟨0, _, [], _, rfl, rfl, rfl, Nat.zero_le _, OwnRr.nil_ _ _, Below.refl _ _⟩
      case round =>
        obtain ⟨t, V, news, wx, rfl, rfl, rfl, htn, hO, hbx⟩ := hrel
        obtain ⟨AV, cV, rfl⟩ := own_slice hO.own
        rcases Nat.lt_or_ge t n with htl | htg
        · obtain ⟨ad, B, L, C, x, rfl, hc, hx, hS, hB0, hL0⟩ := (hRk.below hbx).at_ htl
          have hxl := (hIv.out R x (List.mem_of_getElem? hx.out)).1
          have hLm : L = m := by rw [← hS.len]; exact hxl
          subst hLm
          have hsx := Lib.hid (Src.of_sl hS hB0)
          have i0' : (0 : Int) ≤ (t : Int) := by omega
          have i1 : (t : Int) < (n : Int) := by omega
          have hrow := Lib.hid (fun (w9 : World) (hO9 : OwnRr w9 wr.heap.size (.slice AV t cV) t news ((itr L vs us R).take t)) q (hq : (Value.slice AV t cV).ownBlock = some q) => (hO9.own.lt q hq).1)
          have htk := Lib.hid (take_snocL hx.out)
          go_wp2_with (first
            | (at_builtin; refine wpList_append_any rfl (.const (.slice none 0 0)) (.tmp 34) 28 rfl wx.heap.size 3 j0 (.int .i64 0) 1 8 Tryz.underlying28 hj hj0 hj1 hj2 rfl (by decide) (.slice none 0 0) 0 [] rfl (World.ownsRow_nil _ _ _ _) B L C (ivs .i64 x) rfl hsx.out (by unfold maxLen; omega) (by omega) (Nat.le_refl _) ?_; intro V3 w3 g1 g2 g3; obtain ⟨A3, c3, rfl⟩ := own_slice g1; have hb3 : Below wx.heap.size wx w3 := (Below.refl wx.heap.size wx).grown g2 (Nat.le_refl _) (fun q e => by cases e); have hs3 : w3.ownsRow wr.heap.size 3 1 (.slice A3 L c3) L (ivs .i64 x) := own_mono (by simpa using g1) hbx.size; have hO5 := hO.below hb3; have hbel5 := hbx.trans (hb3.mono hbx.size); have hsrc := Lib.hid (src_lit w3 28 A3 L c3); have hbz : wr.heap.size ≤ (w3.alloc (.cells #[.slice A3 L c3] 28)).heap.size := (by have := hbel5.size; simp; omega); clear g1 g2 g3)
            | (at_builtin; refine wpList_append_any rfl (.tmp 30) (.tmp 36) 34 rfl wr.heap.size 28 i0 nilV 1 24 Tryz.underlying34 hi hz0 hz1 hz2 rfl (by decide) (.slice AV t cV) t news rfl (hO5.own.alloc _) (some ⟨w3.heap.size, 0, none⟩) 1 1 [.slice A3 L c3] rfl hsrc.out (by unfold maxLen; omega) (by omega) hbz ?_; intro V4 w5 g4 g5 g6; have hO6 := OwnRr.push hO5 (x := x) (by rw [hxl]; exact hs3) (by rw [hxl]; omega) g4 g5; obtain ⟨A4, c4, rfl⟩ := own_slice g4; have hb7 : Below wr.heap.size wr w5 := (hbel5.alloc hbel5.size _).grown g5 hbz (hrow.out w3 hO5); clear g4 g5 g6))
          go_wp2
          go_roundw
          case rel => exact ⟨t + 1, _, _, _, rfl, by go_num, rfl, htl, by rw [htk.out]; exact hO6, hb7⟩
          case measure => simp [intOf]; omega
        · have htn' : n = t := by omega
          subst htn'
          have htk := Lib.hid (show (itr m vs us R).take n = itr m vs us R from List.take_of_length_le (by rw [hIl.out]; exact Nat.le_refl _))
          rw [htk.out] at hO
          obtain ⟨A9, c9, e9, hR⟩ := hO.rr
          injection e9 with e91 e92 e93
          subst e91 e93
          go_wp2
          go_ret2
          exact ⟨R, ⟨Nat.le_refl _, hd.out, fun e => absurd e (Nat.lt_irrefl _)⟩, _, _, rfl, hR, hbr.trans (hbx.mono hbr.size)⟩

set_option maxHeartbeats 6400000 in
set_option maxRecDepth 100000 in
theorem improves_law (A : Option Addr) (N c : Nat) (vs : List (List Int)) (A' : Option Addr) (n c' : Nat) (us : List (List Int)) (rr : Int) (w : World) (h : Rr w A N c vs) (h' : Rr w A' n c' us) (hT : Tab w) :
    Calls Tryz.prog 6 #[.slice A N c, .slice A' n c', .int .i64 rr] w (YesF w) := by
  have hl := Lib.hid h.len
  have hl' := Lib.hid h'.len
  have hcap := h.cap
  have htop := h.top
  have hcap' := h'.cap
  have htop' := h'.top
  have hF := Lib.hid (few_any A N c 30 vs w h (by decide))
  have hF' := Lib.hid (few_any A' n c' 12 us w h' (by decide))
  rcases Nat.lt_or_ge 12 n with hn | hn
  · have q1 : decide ((12 : Int) < (n : Int)) = true := decide_eq_true (by omega)
    go_enter Tryz.func6, Tryz.ntmps6
    go_wp2_with fail
    refine hF.out.mono ?_
    rintro e w1 ⟨⟨b, rfl⟩, hw1⟩
    rw [hw1]
    clear hw1
    cases b
    · go_wp2_with fail
      refine (known_any _ hT).mono ?_
      rintro e w99 ⟨rfl, hb99⟩
      go_wp2
      go_ret
      exact ⟨rfl, hb99⟩
    go_wp2_with fail
    refine hF'.out.mono ?_
    rintro e w1 ⟨⟨b, rfl⟩, hw1⟩
    rw [hw1]
    clear hw1
    cases b
    · go_wp2_with fail
      refine (known_any _ hT).mono ?_
      rintro e w99 ⟨rfl, hb99⟩
      go_wp2
      go_ret
      exact ⟨rfl, hb99⟩
    go_wp2_with fail
    refine (known_any _ hT).mono ?_
    rintro e w99 ⟨rfl, hb99⟩
    go_wp2
    go_ret
    exact ⟨rfl, hb99⟩
  by_cases hmid : 20 < rr ∧ rr ≤ 1000
  · have q1 : decide ((12 : Int) < (n : Int)) = false := decide_eq_false (by omega)
    have q2 : decide (20 < rr) = true := decide_eq_true hmid.1
    have q3 : decide (rr ≤ 1000) = true := decide_eq_true hmid.2
    clear hmid
    go_enter Tryz.func6, Tryz.ntmps6
    go_wp2_with fail
    refine hF.out.mono ?_
    rintro e w1 ⟨⟨b, rfl⟩, hw1⟩
    rw [hw1]
    clear hw1
    cases b
    · go_wp2_with fail
      refine (known_any _ hT).mono ?_
      rintro e w99 ⟨rfl, hb99⟩
      go_wp2
      go_ret
      exact ⟨rfl, hb99⟩
    go_wp2_with fail
    refine hF'.out.mono ?_
    rintro e w1 ⟨⟨b, rfl⟩, hw1⟩
    rw [hw1]
    clear hw1
    cases b
    · go_wp2_with fail
      refine (known_any _ hT).mono ?_
      rintro e w99 ⟨rfl, hb99⟩
      go_wp2
      go_ret
      exact ⟨rfl, hb99⟩
    go_wp2_with fail
    refine (known_any _ hT).mono ?_
    rintro e w99 ⟨rfl, hb99⟩
    go_wp2
    go_ret
    exact ⟨rfl, hb99⟩
  by_cases h0 : codC vs us = 0
  · obtain ⟨k1, k2, k3, k4, k5, k6, k7⟩ := codC_ok h0
    rw [hl.out] at k1
    rw [hl'.out] at k2 k3
    have hft := fun w9 h9 h9' => RFits_any A A' N c n c' vs us w9 h9 h9' (by omega)
    rw [h0] at hft
    have hft := Lib.hid hft
    obtain ⟨m, hm⟩ : ∃ m, (us.headD []).length = m := ⟨_, rfl⟩
    rw [hm] at k4 k5 k6 k7
    have hm := Lib.hid hm
    have k6 := Lib.hid k6
    have k7 := Lib.hid k7
    have h0' := Lib.hid h0
    have q1 : decide ((12 : Int) < (n : Int)) = false := decide_eq_false (by omega)
    clear h0
    cases hr : okB 0 1000 rr with
    | false =>
      have hout : rr < 0 ∨ 1000 < rr := by
        rcases Int.lt_or_le rr 0 with e | e
        · exact .inl e
        · refine .inr ?_
          rcases Int.lt_or_le 1000 rr with e2 | e2
          · exact e2
          · have : okB 0 1000 rr = true := okB_iff.2 ⟨e, e2⟩
            rw [hr] at this; cases this
      have hTl := Lib.hid (fun w9 h9 h9' => Train_long A A' N c n c' vs us rr w9 h9 h9' h0'.out hr)
      clear hr
      rcases Int.lt_or_le rr 0 with e | e
      · have q2 : decide (20 < rr) = false := decide_eq_false (by omega)
        have q3 : decide (rr < 0) = true := decide_eq_true e
        clear hmid hout
        go_enter Tryz.func6, Tryz.ntmps6
        go_wp2_with fail
        refine hF.out.mono ?_
        rintro e w1 ⟨⟨b, rfl⟩, hw1⟩
        rw [hw1]
        clear hw1
        cases b
        · go_wp2_with fail
          refine (known_any _ hT).mono ?_
          rintro e w99 ⟨rfl, hb99⟩
          go_wp2
          go_ret
          exact ⟨rfl, hb99⟩
        go_wp2_with fail
        refine hF'.out.mono ?_
        rintro e w1 ⟨⟨b, rfl⟩, hw1⟩
        rw [hw1]
        clear hw1
        cases b
        · go_wp2_with fail
          refine (known_any _ hT).mono ?_
          rintro e w99 ⟨rfl, hb99⟩
          go_wp2
          go_ret
          exact ⟨rfl, hb99⟩
        go_wp2_with fail
        refine (Improve_any A A' N c n c' vs us w h h').mono ?_
        intro e w3 hh
        obtain ⟨A3, c3, rfl, hR3, hb3⟩ := (hh.resolve_right (fun q => q.1 h0'.out)).2
        clear hh
        rw [hm.out] at hR3
        go_wp2_with fail
        refine (hTl.out w3 (h.below hb3) (h'.below hb3)).mono ?_
        rintro e w4 ⟨rfl, hb34⟩
        have hR4 := hR3.below hb34
        have hb4 := hb3.trans (hb34.mono hb3.size)
        go_wp2_with fail
        refine (hft.out w4 (h.below hb4) (h'.below hb4)).mono ?_
        rintro e w5 ⟨rfl, r5, hw5⟩
        have hb45 : Below w4.heap.size w4 w5 := by rw [hw5]; exact bel_drewN (Below.refl _ _) r5
        clear hw5
        have hb5 := hb4.trans (hb45.mono hb4.size)
        go_wp2_with fail
        refine (RImprove_any A A' N c n c' m vs us w5 (h.below hb5) (h'.below hb5) k1 k2 k5 k6.out k7.out k3).mono ?_
        rintro e w6 ⟨A6, c6, rfl, hR6, hb56⟩
        have hb6 := hb5.trans (hb56.mono hb5.size)
        have hR46 := (hR4.below hb45).below hb56
        go_wp2_with fail
        refine (SameL_eq _ _ _ _ _ _ _ _ _ hR46 hR6 rfl).mono ?_
        rintro e w7 ⟨rfl, r7, hw7⟩
        have hb67 : Below w6.heap.size w6 w7 := by rw [hw7]; exact bel_drewN (Below.refl _ _) r7
        clear hw7
        have hb7 := hb6.trans (hb67.mono hb6.size)
        have hT7 := hT.below hb7
        go_wp2_with fail
        refine (known_any _ hT7).mono ?_
        rintro e w99 ⟨rfl, hb99⟩
        go_wp2
        go_ret
        exact ⟨rfl, hb7.trans (hb99.mono hb7.size)⟩
      · have e2 : 1000 < rr := by omega
        have q2 : decide (20 < rr) = true := decide_eq_true (by omega)
        have q3 : decide (rr < 0) = false := decide_eq_false (by omega)
        have q4 : decide (rr ≤ 1000) = false := decide_eq_false (by omega)
        have q5 : decide (1000 < rr) = true := decide_eq_true e2
        clear hmid hout
        go_enter Tryz.func6, Tryz.ntmps6
        go_wp2_with fail
        refine hF.out.mono ?_
        rintro e w1 ⟨⟨b, rfl⟩, hw1⟩
        rw [hw1]
        clear hw1
        cases b
        · go_wp2_with fail
          refine (known_any _ hT).mono ?_
          rintro e w99 ⟨rfl, hb99⟩
          go_wp2
          go_ret
          exact ⟨rfl, hb99⟩
        go_wp2_with fail
        refine hF'.out.mono ?_
        rintro e w1 ⟨⟨b, rfl⟩, hw1⟩
        rw [hw1]
        clear hw1
        cases b
        · go_wp2_with fail
          refine (known_any _ hT).mono ?_
          rintro e w99 ⟨rfl, hb99⟩
          go_wp2
          go_ret
          exact ⟨rfl, hb99⟩
        go_wp2_with fail
        refine (Improve_any A A' N c n c' vs us w h h').mono ?_
        intro e w3 hh
        obtain ⟨A3, c3, rfl, hR3, hb3⟩ := (hh.resolve_right (fun q => q.1 h0'.out)).2
        clear hh
        rw [hm.out] at hR3
        go_wp2_with fail
        refine (hTl.out w3 (h.below hb3) (h'.below hb3)).mono ?_
        rintro e w4 ⟨rfl, hb34⟩
        have hR4 := hR3.below hb34
        have hb4 := hb3.trans (hb34.mono hb3.size)
        go_wp2_with fail
        refine (hft.out w4 (h.below hb4) (h'.below hb4)).mono ?_
        rintro e w5 ⟨rfl, r5, hw5⟩
        have hb45 : Below w4.heap.size w4 w5 := by rw [hw5]; exact bel_drewN (Below.refl _ _) r5
        clear hw5
        have hb5 := hb4.trans (hb45.mono hb4.size)
        go_wp2_with fail
        refine (RImprove_any A A' N c n c' m vs us w5 (h.below hb5) (h'.below hb5) k1 k2 k5 k6.out k7.out k3).mono ?_
        rintro e w6 ⟨A6, c6, rfl, hR6, hb56⟩
        have hb6 := hb5.trans (hb56.mono hb5.size)
        have hR46 := (hR4.below hb45).below hb56
        go_wp2_with fail
        refine (SameL_eq _ _ _ _ _ _ _ _ _ hR46 hR6 rfl).mono ?_
        rintro e w7 ⟨rfl, r7, hw7⟩
        have hb67 : Below w6.heap.size w6 w7 := by rw [hw7]; exact bel_drewN (Below.refl _ _) r7
        clear hw7
        have hb7 := hb6.trans (hb67.mono hb6.size)
        have hT7 := hT.below hb7
        go_wp2_with fail
        refine (known_any _ hT7).mono ?_
        rintro e w99 ⟨rfl, hb99⟩
        go_wp2
        go_ret
        exact ⟨rfl, hb7.trans (hb99.mono hb7.size)⟩
    | true =>
      have hrb := okB_iff.1 hr
      have hr1 : rr ≤ 20 := by omega
      obtain ⟨R, rfl⟩ : ∃ R : Nat, rr = R := ⟨rr.toNat, by omega⟩
      have hR20 : R ≤ 20 := by omega
      have q2 : decide (20 < (R : Int)) = false := decide_eq_false (by omega)
      have q3 : decide ((R : Int) < 0) = false := decide_eq_false (by omega)
      have q5 : decide (1000 < (R : Int)) = false := decide_eq_false (by omega)
      clear hmid hrb hr hr1
      go_enter Tryz.func6, Tryz.ntmps6
      go_wp2_with fail
      refine hF.out.mono ?_
      rintro e w1 ⟨⟨b, rfl⟩, hw1⟩
      rw [hw1]
      clear hw1
      cases b
      · go_wp2_with fail
        refine (known_any _ hT).mono ?_
        rintro e w99 ⟨rfl, hb99⟩
        go_wp2
        go_ret
        exact ⟨rfl, hb99⟩
      go_wp2_with fail
      refine hF'.out.mono ?_
      rintro e w1 ⟨⟨b, rfl⟩, hw1⟩
      rw [hw1]
      clear hw1
      cases b
      · go_wp2_with fail
        refine (known_any _ hT).mono ?_
        rintro e w99 ⟨rfl, hb99⟩
        go_wp2
        go_ret
        exact ⟨rfl, hb99⟩
      go_wp2_with fail
      refine (Improve_any A A' N c n c' vs us w h h').mono ?_
      intro e w3 hh
      obtain ⟨A3, c3, rfl, hR3, hb3⟩ := (hh.resolve_right (fun q => q.1 h0'.out)).2
      clear hh
      rw [hm.out] at hR3
      go_wp2_with fail
      refine (Train_any A A' N c n c' R vs us w3 (h.below hb3) (h'.below hb3) h0'.out (by omega)).mono ?_
      rw [hm.out]
      rintro e w4 ⟨p, hSt, A4, c4, rfl, hRt, hb34⟩
      have hR4 := hR3.below hb34
      have hb4 := hb3.trans (hb34.mono hb3.size)
      go_wp2_with fail
      refine (hft.out w4 (h.below hb4) (h'.below hb4)).mono ?_
      rintro e w5 ⟨rfl, r5, hw5⟩
      have hb45 : Below w4.heap.size w4 w5 := by rw [hw5]; exact bel_drewN (Below.refl _ _) r5
      clear hw5
      have hb5 := hb4.trans (hb45.mono hb4.size)
      go_wp2_with fail
      refine (RImprove_any A A' N c n c' m vs us w5 (h.below hb5) (h'.below hb5) k1 k2 k5 k6.out k7.out k3).mono ?_
      rintro e w6 ⟨A6, c6, rfl, hR6, hb56⟩
      have hb6 := hb5.trans (hb56.mono hb5.size)
      have hR46 := (hR4.below hb45).below hb56
      go_wp2_with fail
      refine (SameL_eq _ _ _ _ _ _ _ _ _ hR46 hR6 rfl).mono ?_
      rintro e w7 ⟨rfl, r7, hw7⟩
      have hb67 : Below w6.heap.size w6 w7 := by rw [hw7]; exact bel_drewN (Below.refl _ _) r7
      clear hw7
      have hb7 := hb6.trans (hb67.mono hb6.size)
      have hRt7 := ((hRt.below hb45).below hb56).below hb67
      go_wp2_with fail
      refine (RTrain_any A A' N c n c' m R vs us w7 (h.below hb7) (h'.below hb7) k1 k2 k5 k6.out k7.out k3 (by omega)).mono ?_
      rintro e w8 ⟨p2, hSt2, A8, c8, rfl, hR8, hb78⟩
      have hpp : p2 = p := hSt2.one hSt
      subst hpp
      have hb8 := hb7.trans (hb78.mono hb7.size)
      have hRt8 := hRt7.below hb78
      go_wp2_with fail
      refine (SameL_eq _ _ _ _ _ _ _ _ _ hRt8 hR8 rfl).mono ?_
      rintro e w9 ⟨rfl, r9, hw9⟩
      have hb9 : Below w.heap.size w w9 := by rw [hw9]; exact bel_drewN hb8 r9
      clear hw9
      have hT9 := hT.below hb9
      go_wp2_with fail
      refine (known_any _ hT9).mono ?_
      rintro e w99 ⟨rfl, hb99⟩
      go_wp2
      go_ret
      exact ⟨rfl, hb9.trans (hb99.mono hb9.size)⟩
  · have hne : (codC vs us != 0) = true := by simp [h0]
    have hne2 : (codC vs us == 0) = false := by simp [h0]
    have h00 := Lib.hid h0
    have hft := Lib.hid (fun w9 h9 h9' => RFits_any A A' N c n c' vs us w9 h9 h9' (by omega))
    have hIm := Lib.hid (Improve_any A A' N c n c' vs us w h h')
    have hTr := Lib.hid (fun w9 h9 h9' => Train_bad A A' N c n c' vs us rr w9 h9 h9' h0)
    generalize hq : codC vs us = q at *
    have hq := Lib.hid hq
    have q1 : decide ((12 : Int) < (n : Int)) = false := decide_eq_false (by omega)
    have q2 : (decide (20 < rr) && decide (rr ≤ 1000)) = false := by
      rw [Bool.and_eq_false_iff]
      rcases Int.lt_or_le 20 rr with e | e
      · exact .inr (decide_eq_false (fun q => hmid ⟨e, q⟩))
      · exact .inl (decide_eq_false (by omega))
    rcases Int.lt_or_le 20 rr with e | e
    · have q4 : decide (20 < rr) = true := decide_eq_true e
      have q5 : decide (rr ≤ 1000) = false := decide_eq_false (fun q => hmid ⟨e, q⟩)
      clear hmid q2
      go_enter Tryz.func6, Tryz.ntmps6
      go_wp2_with fail
      refine hF.out.mono ?_
      rintro e w1 ⟨⟨b, rfl⟩, hw1⟩
      rw [hw1]
      clear hw1
      cases b
      · go_wp2_with fail
        refine (known_any _ hT).mono ?_
        rintro e w99 ⟨rfl, hb99⟩
        go_wp2
        go_ret
        exact ⟨rfl, hb99⟩
      go_wp2_with fail
      refine hF'.out.mono ?_
      rintro e w1 ⟨⟨b, rfl⟩, hw1⟩
      rw [hw1]
      clear hw1
      cases b
      · go_wp2_with fail
        refine (known_any _ hT).mono ?_
        rintro e w99 ⟨rfl, hb99⟩
        go_wp2
        go_ret
        exact ⟨rfl, hb99⟩
      go_wp2_with fail
      refine hIm.out.mono ?_
      intro e w3 hh
      obtain ⟨rfl, hb3⟩ := (hh.resolve_left (fun q => h00.out q.1)).2
      clear hh
      go_wp2_with fail
      refine (hTr.out w3 (h.below hb3) (h'.below hb3)).mono ?_
      rintro e w4 ⟨rfl, hb34⟩
      have hb4 := hb3.trans (hb34.mono hb3.size)
      go_wp2_with fail
      refine (hft.out w4 (h.below hb4) (h'.below hb4)).mono ?_
      rintro e w5 ⟨rfl, r5, hw5⟩
      have hb5 : Below w.heap.size w w5 := by rw [hw5]; exact bel_drewN hb4 r5
      clear hw5
      have hT5 := hT.below hb5
      go_wp2_with fail
      refine (known_any _ hT5).mono ?_
      rintro e w99 ⟨rfl, hb99⟩
      go_wp2
      go_ret
      exact ⟨rfl, hb5.trans (hb99.mono hb5.size)⟩
    · have q4 : decide (20 < rr) = false := decide_eq_false (by omega)
      clear hmid q2
      go_enter Tryz.func6, Tryz.ntmps6
      go_wp2_with fail
      refine hF.out.mono ?_
      rintro e w1 ⟨⟨b, rfl⟩, hw1⟩
      rw [hw1]
      clear hw1
      cases b
      · go_wp2_with fail
        refine (known_any _ hT).mono ?_
        rintro e w99 ⟨rfl, hb99⟩
        go_wp2
        go_ret
        exact ⟨rfl, hb99⟩
      go_wp2_with fail
      refine hF'.out.mono ?_
      rintro e w1 ⟨⟨b, rfl⟩, hw1⟩
      rw [hw1]
      clear hw1
      cases b
      · go_wp2_with fail
        refine (known_any _ hT).mono ?_
        rintro e w99 ⟨rfl, hb99⟩
        go_wp2
        go_ret
        exact ⟨rfl, hb99⟩
      go_wp2_with fail
      refine hIm.out.mono ?_
      intro e w3 hh
      obtain ⟨rfl, hb3⟩ := (hh.resolve_left (fun q => h00.out q.1)).2
      clear hh
      go_wp2_with fail
      refine (hTr.out w3 (h.below hb3) (h'.below hb3)).mono ?_
      rintro e w4 ⟨rfl, hb34⟩
      have hb4 := hb3.trans (hb34.mono hb3.size)
      go_wp2_with fail
      refine (hft.out w4 (h.below hb4) (h'.below hb4)).mono ?_
      rintro e w5 ⟨rfl, r5, hw5⟩
      have hb5 : Below w.heap.size w w5 := by rw [hw5]; exact bel_drewN hb4 r5
      clear hw5
      have hT5 := hT.below hb5
      go_wp2_with fail
      refine (known_any _ hT5).mono ?_
      rintro e w99 ⟨rfl, hb99⟩
      go_wp2
      go_ret
      exact ⟨rfl, hb5.trans (hb99.mono hb5.size)⟩
end Go.Proofs.YtoljffghaklpdaaGreatDoor
