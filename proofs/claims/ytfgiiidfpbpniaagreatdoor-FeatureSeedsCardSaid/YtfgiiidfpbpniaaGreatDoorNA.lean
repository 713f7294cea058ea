/- Improved codebooks: the document's. -/
import Derived.Test.YtfgiiidfpbpniaaGreatDoorMC
namespace Go.Proofs.YtfgiiidfpbpniaaGreatDoor
open Go.RowKit

theorem Stop.one {m : Nat} {vs us : List (List Int)} {r k k' : Nat} (h : Stop m vs us r k) (h' : Stop m vs us r k') : k = k' := by
  rcases Nat.lt_trichotomy k k' with e | e | e
  · exact absurd (h.2.2 (by have := h'.1; omega)) (h'.2.1 k e)
  · exact e
  · exact absurd (h'.2.2 (by have := h.1; omega)) (h.2.1 k' e)

set_option maxHeartbeats 1600000 in
theorem SameL_any (A A' : Option Addr) (n c n' c' : Nat) (vs us : List (List Int)) (w : World) (h : Rr w A n c vs) (h' : Rr w A' n' c' us) :
    Calls Tryz.prog 13 #[.slice A n c, .slice A' n' c'] w fun e w' => ∃ b r, e = .returned (.bool b) ∧ (b = true ↔ vs = us) ∧ w' = w.drewN r := by
  have hl := Lib.hid h.len
  have hl' := Lib.hid h'.len
  have hcap := h.cap
  have htop := h.top
  have hcap' := h'.cap
  by_cases hn : n = n'
  · subst hn
    go_enter Tryz.func13, Tryz.ntmps13
    go_wp2
    go_loopw [5] (fun iv wr' => ∃ (k r : Nat) (wr : World), wr = wr' ∧ iv = .int .i64 k ∧ k ≤ n ∧ Hid (vs.take k = us.take k) ∧ Hid (wr = w.drewN r) ∧ Below w.heap.size w wr) (fun iv _ => n - (intOf iv).toNat)
    case atStart => exact ⟨0, 0, _, rfl, rfl, Nat.zero_le _, rfl, rfl, Below.refl _ _⟩
    case round =>
      obtain ⟨k, r, wr, rfl, rfl, hk, he, hw, hbr⟩ := hrel
      have hr := h.below hbr
      have hr' := h'.below hbr
      rcases Nat.lt_or_ge k n with hlt | hge
      · obtain ⟨ad, B, L, C, x, rfl, hc, hx, hS, _⟩ := hr.at_ hlt
        obtain ⟨ad', B', L', C', y, rfl, hc', hy, hS', _⟩ := hr'.at_ hlt
        have i0 : (0 : Int) ≤ (k : Int) := by omega
        have i1 : (k : Int) < (n : Int) := by omega
        by_cases hxy : x = y
        · have hE := Lib.hid (fun (i : Nat) => show Calls Tryz.prog 19 #[.slice B L C, .slice B' L' C'] (wr.drewN i) (fun e w' => e = .returned (.bool true) ∧ ∃ j, w' = (wr.drewN i).drewN j) from (Same_any _ _ _ _ _ _ _ _ _ (hS.drewN i) (hS'.drewN i)).mono fun e w' ⟨j, h1, h2⟩ => by
            rw [sameB_yes hxy] at h1
            exact ⟨h1, j, h2⟩)
          have hs := Lib.hid (show vs.take (k + 1) = us.take (k + 1) by rw [take_snocL hx.out, take_snocL hy.out, he.out, hxy])
          clear hxy hS hS'
          go_wp2
          go_quiet (first | (go_at_call 19; exact Calls.quiet_of (hE.out _)))
          have hb2 := bel_drewN hbr nq
          have hw3 := Lib.hid (show wr.drewN nq = w.drewN (r + nq) by rw [hw.out]; exact dr_add w r nq)
          generalize wr.drewN nq = w2 at *
          go_wp2
          go_roundw
          case rel => exact ⟨k + 1, r + nq, _, rfl, by go_num, hlt, hs.out, hw3.out, hb2⟩
          case measure => simp [intOf]; omega
        · have hE := Lib.hid (fun (i : Nat) => show Calls Tryz.prog 19 #[.slice B L C, .slice B' L' C'] (wr.drewN i) (fun e w' => e = .returned (.bool false) ∧ ∃ j, w' = (wr.drewN i).drewN j) from (Same_any _ _ _ _ _ _ _ _ _ (hS.drewN i) (hS'.drewN i)).mono fun e w' ⟨j, h1, h2⟩ => by
            rw [sameB_no hxy] at h1
            exact ⟨h1, j, h2⟩)
          have hno := Lib.hid (show vs ≠ us from fun e => hxy (by have a := hx.out; rw [e, hy.out] at a; injection a with a; exact a.symm))
          clear hxy hS hS'
          go_wp2
          go_quiet (first | (go_at_call 19; exact Calls.quiet_of (hE.out _)))
          have hw3 := Lib.hid (show wr.drewN nq = w.drewN (r + nq) by rw [hw.out]; exact dr_add w r nq)
          generalize wr.drewN nq = w2 at *
          go_wp2
          go_ret
          exact ⟨false, r + nq, rfl, ⟨(fun e => by cases e), fun e => absurd e hno.out⟩, hw3.out⟩
      · have hkn : n = k := by omega
        subst hkn
        have hs := Lib.hid (show vs = us by have := he.out; rw [List.take_of_length_le (by rw [hl.out]; exact Nat.le_refl _), List.take_of_length_le (by rw [hl'.out]; exact Nat.le_refl _)] at this; exact this)
        go_wp2
        go_ret
        exact ⟨true, r, rfl, ⟨fun _ => hs.out, fun _ => rfl⟩, hw.out⟩
  · have hno := Lib.hid (show vs ≠ us from fun e => hn (by rw [← hl.out, ← hl'.out, e]))
    have hb : ((n : Int) != (n' : Int)) = true := by simp; omega
    have hb2 : decide (n = n') = false := by simpa using hn
    go_enter Tryz.func13, Tryz.ntmps13
    go_wp2
    go_ret
    exact ⟨false, 0, rfl, ⟨(fun e => by cases e), fun e => absurd e hno.out⟩, rfl⟩

set_option maxHeartbeats 6400000 in
set_option maxRecDepth 100000 in
theorem RImprove_any (A A' : Option Addr) (N c n c' m : Nat) (vs us : List (List Int)) (w : World) (h : Rr w A N c vs) (h' : Rr w A' n c' us) (hN : N ≤ 10000) (hn2 : n ≤ 256) (hm : m ≤ 64) (hv : VecS m vs) (hu : VecS m us) (hn1 : 1 ≤ n) :
    Calls Tryz.prog 14 #[.slice A N c, .slice A' n c'] w (RetRr w n (impL m vs us)) := by
  have hl := Lib.hid h.len
  have hl' := Lib.hid h'.len
  have hcap := h.cap
  have htop := h.top
  have hcap' := h'.cap
  have htop' := h'.top
  have hRq := Lib.hid (RQuantize_any A A' N c n c' m vs us w h h' hN hm hv hu hn1)
  have hv := Lib.hid hv
  have hu := Lib.hid hu
  have hgl := Lib.hid (fun k => show (grpL us k vs).length ≤ N by have := grpL_len us k vs; rw [hl.out] at this; exact this)
  obtain ⟨i0, hi, hz0, hz1, hz2⟩ := info_parts info_sl
  obtain ⟨j0, hj, hj0, hj1, hj2⟩ := info_parts info_int
  go_enter Tryz.func14, Tryz.ntmps14
  go_wp2_with fail
  refine hRq.out.mono ?_
  rintro e w2 ⟨A2, c2, rfl, hSq, hb2⟩
  go_wp2
  go_loopw [6, 7] (fun ov iv wr' => ∃ (k : Nat) (V : Value) (news : List Value) (wr : World), wr = wr' ∧ iv = .int .i64 k ∧ V = ov ∧ k ≤ n ∧ OwnRr wr w2.heap.size V k news ((List.range k).map (impK m vs us)) ∧ Below w2.heap.size w2 wr) (fun _ iv _ => n - (intOf iv).toNat)
  case atStart => exact ⟨0, _, [], _, rfl, rfl, rfl, Nat.zero_le _, OwnRr.nil_ _ _, Below.refl _ _⟩
  case round =>
    obtain ⟨k, V, news, wr, rfl, rfl, rfl, hkn, hO, hbel⟩ := hrel
    obtain ⟨AV, cV, rfl⟩ := own_slice hO.own
    have hbw := hb2.trans (hbel.mono hb2.size)
    rcases Nat.lt_or_ge k n with hlt | hge
    · go_wp2
      go_loopw [8, 9] (fun ov iv wx' => ∃ (t : Nat) (V8 : Value) (news8 : List Value) (wx : World), wx = wx' ∧ iv = .int .i64 t ∧ V8 = ov ∧ t ≤ N ∧ wx.ownsRow wr.heap.size 44 1 V8 (grpL us k (vs.take t)).length news8 ∧ RowL w news8 (grpL us k (vs.take t)) ∧ Below wr.heap.size wr wx) (fun _ iv _ => N - (intOf iv).toNat)
      case atStart => exact ⟨0, _, [], _, rfl, rfl, rfl, Nat.zero_le _, World.ownsRow_nil _ _ _ _, RowL.nil _, Below.refl _ _⟩
      case round =>
        obtain ⟨t, V8, news8, wx, rfl, rfl, rfl, htN, hown, hRow, hbx⟩ := hrel
        obtain ⟨A8, c8, rfl⟩ := own_slice hown
        have hbwx := hbw.trans (hbx.mono hbw.size)
        rcases Nat.lt_or_ge t N with htl | htg
        · obtain ⟨ad, B, L, C, x, rfl, hc0, hx, hS, hB0, hL0⟩ := h.at_ htl
          have hc := (hbwx.cell (World.block_lt_of_cell? _ _ hc0)).trans hc0
          obtain ⟨aq, yq, rfl, hcq, hyq⟩ := (hSq.below (hbel.trans (hbx.mono hbel.size))).at_ htl
          obtain ⟨ii, hii⟩ : ∃ ii, (nrS x us n).1 = ii := ⟨_, rfl⟩
          have hyq2 : yq = (ii : Int) := by
            have := hyq.out
            rw [tab_getD htl, getD_some hx.out, hii] at this
            exact this.symm
          subst hyq2
          have hstep := Lib.hid (show grpL us k (vs.take (t + 1)) = if k = ii then grpL us k (vs.take t) ++ [x] else grpL us k (vs.take t) by
            rw [take_snocL hx.out, grpL_snoc, hl'.out, hii])
          have i0' : (0 : Int) ≤ (t : Int) := by omega
          have i1 : (t : Int) < (N : Int) := by omega
          have hii := Lib.hid hii
          by_cases hki : k = ii
          · subst hki
            have hstep2 := Lib.hid (show grpL us k (vs.take (t + 1)) = grpL us k (vs.take t) ++ [x] by rw [hstep.out, if_pos rfl])
            have hglen := Lib.hid (show (grpL us k (vs.take t)).length ≤ 10000 by have := grpL_len us k (vs.take t); rw [List.length_take] at this; omega)
            have hsrc := Lib.hid (src_lit wx 44 B L C)
            have hszz := hbx.size
            have hbz : wr.heap.size ≤ (wx.alloc (.cells #[.slice B L C] 44)).heap.size := by simp; omega
            have hrow := Lib.hid (fun q (hq : (Value.slice A8 (grpL us k (vs.take t)).length c8).ownBlock = some q) => (hown.lt q hq).1)
            have hRow2 := Lib.hid (hRow.app (RowL.one hS hB0 hL0))
            clear hstep
            go_wp2_with (at_builtin; refine wpList_append_any rfl (.tmp 31) (.tmp 36) 28 rfl wr.heap.size 44 i0 nilV 1 24 Tryz.underlying28 hi hz0 hz1 hz2 rfl (by decide) (.slice A8 (grpL us k (vs.take t)).length c8) (grpL us k (vs.take t)).length news8 rfl (hown.alloc _) (some ⟨wx.heap.size, 0, none⟩) 1 1 [.slice B L C] rfl hsrc.out (by have := hglen.out; unfold maxLen; omega) (by have := hglen.out; omega) hbz ?_)
            intro V9 w9 g1 g2 g3
            have hb9 : Below wr.heap.size wr w9 := (hbx.alloc hszz _).grown g2 hbz hrow.out
            have hown9 : w9.ownsRow wr.heap.size 44 1 V9 (grpL us k (vs.take (t + 1))).length (news8 ++ [.slice B L C]) := by rw [hstep2.out, List.length_append]; exact g1
            clear g1 g2 g3 hsrc
            go_wp2
            go_roundw
            case rel => exact ⟨t + 1, V9, _, _, rfl, by go_num, rfl, htl, hown9, by rw [hstep2.out]; exact hRow2.out, hb9⟩
            case measure => simp [intOf]; omega
          · have hstep2 : grpL us k (vs.take (t + 1)) = grpL us k (vs.take t) := by rw [hstep.out, if_neg hki]
            rw [← hstep2] at hown hRow
            have hki1 : ((ii : Int) == (k : Int)) = false := by rw [beq_eq_false_iff_ne]; omega
            have hki2 : ¬ ii = k := fun q => hki q.symm
            have hki3 : (ii == k) = false := by simpa using hki2
            have hlen9 : (grpL us k (vs.take t)).length = (grpL us k (vs.take (t + 1))).length := by rw [hstep2]
            rw [hlen9] at *
            have hown := Lib.hid hown
            have hRow := Lib.hid hRow
            clear hstep hstep2 hlen9
            go_wp2
            go_roundw
            case rel => exact ⟨t + 1, _, _, _, rfl, by go_num, rfl, htl, hown.out, hRow.out, hbx⟩
            case measure => simp [intOf]; omega
        · have htN' : N = t := by omega
          subst htN'
          rw [List.take_of_length_le (by rw [hl.out]; exact Nat.le_refl _)] at hown hRow
          have htk : (grpL us k (vs.take N)).length = (grpL us k vs).length := by rw [List.take_of_length_le (by rw [hl.out]; exact Nat.le_refl _)]
          rw [htk]
          clear htk
          have hO4 := hO.below hbx
          have hbz2 := hbwx
          have hbel4 := hbel.trans (hbx.mono hbel.size)
          have hrow := Lib.hid (fun q (hq : (Value.slice AV k cV).ownBlock = some q) => (hO4.own.lt q hq).1)
          by_cases h0 : grpL us k vs = []
          · have hk0 := Lib.hid (show impK m vs us k = us.getD k [] by unfold impK; rw [if_pos h0])
            have hlen0 : (grpL us k vs).length = 0 := by rw [h0]; rfl
            rw [hlen0]
            clear h0 hlen0 hown hRow
            obtain ⟨ad, B, L, C, x, rfl, hc0, hx, hS, hB0, hL0⟩ := h'.at_ hlt
            have hc := (hbwx.cell (World.block_lt_of_cell? _ _ hc0)).trans hc0
            have hxl := (hu.out x (List.mem_of_getElem? hx.out)).1
            have hLm : L = m := by rw [← hS.len]; exact hxl
            subst hLm
            have hsx := Lib.hid (Src.of_sl (hS.below hbwx) hB0)
            have i0' : (0 : Int) ≤ (k : Int) := by omega
            have i1 : (k : Int) < (n : Int) := by omega
            have hkx := Lib.hid (show impK L vs us k = x by rw [hk0.out, getD_some hx.out])
            clear hk0
            go_wp2_with (first
              | (at_builtin; refine wpList_append_any rfl (.const (.slice none 0 0)) (.tmp 45) 44 rfl wx.heap.size 3 j0 (.int .i64 0) 1 8 Tryz.underlying44 hj hj0 hj1 hj2 rfl (by decide) (.slice none 0 0) 0 [] rfl (World.ownsRow_nil _ _ _ _) B L C (ivs .i64 x) rfl hsx.out (by unfold maxLen; omega) (by omega) (Nat.le_refl _) ?_; intro V3 w3 g1 g2 g3; obtain ⟨A3, c3, rfl⟩ := own_slice g1; have hb3 : Below wx.heap.size wx w3 := (Below.refl wx.heap.size wx).grown g2 (Nat.le_refl _) (fun q e => by cases e); have hs3 : w3.ownsRow w2.heap.size 3 1 (.slice A3 L c3) L (ivs .i64 x) := own_mono (by simpa using g1) hbel4.size; have hO5 := hO4.below hb3; have hbel5 := hbel4.trans (hb3.mono hbel4.size); have hsrc := Lib.hid (src_lit w3 44 A3 L c3); have hbz : w2.heap.size ≤ (w3.alloc (.cells #[.slice A3 L c3] 44)).heap.size := (by have := hbel5.size; simp; omega); clear g1 g2 g3)
              | (at_builtin; refine wpList_append_any rfl (.tmp 41) (.tmp 47) 28 rfl w2.heap.size 44 i0 nilV 1 24 Tryz.underlying28 hi hz0 hz1 hz2 rfl (by decide) (.slice AV k cV) k news rfl (hO5.own.alloc _) (some ⟨w3.heap.size, 0, none⟩) 1 1 [.slice A3 L c3] rfl hsrc.out (by unfold maxLen; omega) (by omega) hbz ?_; intro V4 w5 g4 g5 g6; have hO6 := OwnRr.push hO5 (x := x) (by rw [hxl]; exact hs3) (by rw [hxl]; omega) g4 g5; obtain ⟨A4, c4, rfl⟩ := own_slice g4; have hb7 : Below w2.heap.size w2 w5 := (hbel5.alloc hbel5.size _).grown g5 hbz hrow.out; clear g4 g5 g6))
            go_wp2
            go_roundw
            case rel => exact ⟨k + 1, _, _, _, rfl, by go_num, rfl, hlt, by rw [List.range_succ, List.map_append]; have e9 := hkx.out; rw [List.map_singleton, e9]; exact hO6, hb7⟩
            case measure => simp [intOf]; omega
          · have hk0 := Lib.hid (show impK m vs us k = meanL m (grpL us k vs) by unfold impK; rw [if_neg h0])
            obtain ⟨Q, hQ⟩ : ∃ Q, (grpL us k vs).length = Q := ⟨_, rfl⟩
            have hQ1 : 1 ≤ Q := by
              rcases Nat.eq_zero_or_pos Q with e | e
              · exact absurd (List.eq_nil_of_length_eq_zero (hQ.trans e)) h0
              · exact e
            have hQN : Q ≤ N := by rw [← hQ]; exact hgl.out k
            rw [hQ] at hown ⊢
            have hQ := Lib.hid hQ
            have hQ0 : ((Q : Int) == 0) = false := by rw [beq_eq_false_iff_ne]; omega
            have hQ2 : ¬ Q = 0 := by omega
            clear h0
            obtain ⟨A9, c9, e9, hRr⟩ := Rr.of_own hown (hRow.below hbwx)
            injection e9 with e91 e92 e93
            subst e91 e93
            clear hown hRow
            go_wp2_with fail
            refine (Rmean_any A8 Q c8 m (grpL us k vs) wx hRr hQ1 (by omega) hm (fun u h9 => hv.out u (grpL_sub h9))).mono ?_
            rintro e w3 ⟨g, rfl, hM3, hb3, hg3⟩
            have hml : (meanL m (grpL us k vs)).length = m := tab_len _ _
            have hs3 := own_mk (base := w2.heap.size) hM3 (Nat.le_trans hbel4.size hg3) (by omega)
            rw [hml, ← hk0.out] at hs3
            have hO5 := hO4.below hb3
            have hbel5 := hbel4.trans (hb3.mono hbel4.size)
            have hsrc := Lib.hid (src_lit w3 44 (some ⟨g, 0, none⟩) m m)
            have hbz : w2.heap.size ≤ (w3.alloc (.cells #[.slice (some ⟨g, 0, none⟩) m m] 44)).heap.size := by have := hbel5.size; simp; omega
            have hil : (impK m vs us k).length = m := by rw [hk0.out]; exact hml
            have hil := Lib.hid hil
            clear hml hM3
            go_wp2_with (at_builtin; refine wpList_append_any rfl (.tmp 49) (.tmp 52) 28 rfl w2.heap.size 44 i0 nilV 1 24 Tryz.underlying28 hi hz0 hz1 hz2 rfl (by decide) (.slice AV k cV) k news rfl (hO5.own.alloc _) (some ⟨w3.heap.size, 0, none⟩) 1 1 [.slice (some ⟨g, 0, none⟩) m m] rfl hsrc.out (by unfold maxLen; omega) (by omega) hbz ?_)
            intro V4 w5 g4 g5 g6
            have hO6 := OwnRr.push hO5 (x := impK m vs us k) (by rw [hil.out]; exact hs3) (by rw [hil.out]; omega) g4 g5
            have hb7 : Below w2.heap.size w2 w5 := (hbel5.alloc hbel5.size _).grown g5 hbz hrow.out
            clear g4 g5 g6 hsrc
            go_wp2
            go_roundw
            case rel => exact ⟨k + 1, V4, _, _, rfl, by go_num, rfl, hlt, by rw [List.range_succ, List.map_append]; exact hO6, hb7⟩
            case measure => simp [intOf]; omega
    · have hkn' : n = k := by omega
      subst hkn'
      obtain ⟨A9, c9, e9, hR⟩ := hO.rr
      injection e9 with e91 e92 e93
      subst e91 e93
      have hfin := Lib.hid (show impL m vs us = (List.range n).map (impK m vs us) by unfold impL; rw [hl'.out])
      go_wp2
      go_ret
      exact ⟨_, _, rfl, by rw [hfin.out]; exact hR, hbw⟩
end Go.Proofs.YtfgiiidfpbpniaaGreatDoor
