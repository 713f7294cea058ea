/- The improved codebook: the walk. -/
import Derived.Test.YtjpdgnbdbpgnmaaDoorGH
namespace Go.Proofs.YtjpdgnbdbpgnmaaDoor
open Go.RowKit

/-- vectors of m components -/
def VecS (m : Nat) (vs : List (List Int)) : Prop := ∀ u ∈ vs, u.length = m ∧ allB (-1048576) 1048576 u = true
theorem Near.congr {w wr : World} {gn n : Nat} {VV : Nat → Value} {gv : Nat → List Value} {G G' : Nat → List (List Int)} (h : Near w wr gn n VV gv G) (e : ∀ i, i < n → G i = G' i) : Near w wr gn n VV gv G' :=
  ⟨h.blk, fun i hi => by rw [← e i hi]; exact h.own i hi, fun i hi => by rw [← e i hi]; exact h.row i hi, h.sep, h.bel, h.new⟩

theorem own_slice {w : World} {base e size n : Nat} {v : Value} {xs : List Value} (h : w.ownsRow base e size v n xs) : ∃ A c, v = Value.slice A n c := by
  rcases h.2 with ⟨rfl, rfl⟩ | ⟨g, cap, cur, rfl, _⟩
  · exact ⟨none, 0, rfl⟩
  · exact ⟨_, _, rfl⟩

set_option maxHeartbeats 4000000 in
set_option maxRecDepth 100000 in
theorem improve_any (A A' : Option Addr) (N c n c' m : Nat) (vs us : List (List Int)) (w : World) (h : Rr w A N c vs) (h' : Rr w A' n c' us) (hN : N ≤ 10000) (hn : n ≤ 10000) (hm1 : 1 ≤ m) (hm : m ≤ 64) (hv : VecS m vs) (hu : VecS m us) (hn1 : 1 ≤ n) :
    Calls Tryd.prog 85 #[.slice A N c, .slice A' n c'] w (RetB w n (impL m vs us)) := by
  have hl := Lib.hid h.len
  have hl' := Lib.hid h'.len
  have hcap := h.cap
  have htop := h.top
  have hcap' := h'.cap
  have htop' := h'.top
  have hv := Lib.hid hv
  have hu := Lib.hid hu
  have hmk := make_near n (by omega)
  obtain ⟨i0, hi, hz0, hz1, hz2⟩ := info_parts info_sl
  go_enter Tryd.func85, Tryd.ntmps85
  go_wp2
  clear hmk
  have hst := Near.start (w := w) (n := n)
  go_loopw [18] (fun iv wr => ∃ (t : Nat) (VV : Nat → Value) (gv : Nat → List Value), iv = .int .i64 t ∧ t ≤ N ∧ Near w wr w.heap.size n VV gv (fun i => grpL us i (vs.take t))) (fun iv _ => N - (intOf iv).toNat)
  case atStart => exact ⟨0, _, _, rfl, Nat.zero_le _, hst⟩
  case round =>
    obtain ⟨t, VV, gv, rfl, ht, hNe⟩ := hrel
    clear hst
    have hr := h.below hNe.bel
    have hr' := h'.below hNe.bel
    rcases Nat.lt_or_ge t N with hlt | hge
    · obtain ⟨ad, B, L, C, x, rfl, hc0, hx, hS, hB0, hL0⟩ := h.at_ hlt
      have hc := (hNe.bel.cell (World.block_lt_of_cell? _ _ hc0)).trans hc0
      have hxv := Lib.hid (hv.out x (List.mem_of_getElem? hx.out))
      have hLm : L = m := by rw [← hS.len]; exact hxv.out.1
      subst hLm
      have hSr := hS.below hNe.bel
      go_wp2_with fail
      refine (nearest_any _ _ _ _ _ _ _ _ _ hSr hr' hxv.out.2 hm1 hm hu.out).mono ?_
      rintro e w2 ⟨rfl, q, rfl⟩
      have hnb := nrS_bd hxv.out.2 (by rw [hxv.out.1]; exact hm) (fun u h9 => by rw [hxv.out.1]; exact hu.out u h9) (k := n) (by rw [hl'.out]; exact Nat.le_refl _)
      have hii := (hnb.2.2.2 (by omega)).2
      have hstep := Lib.hid (fun i => show grpL us i (vs.take (t + 1)) = if i = (nrS x us n).1 then grpL us i (vs.take t) ++ [x] else grpL us i (vs.take t) by
        have hkl := lt_of_some hx.out
        have hx2 := hx.out
        rw [List.getElem?_eq_getElem hkl] at hx2
        injection hx2 with hx2
        rw [take_snoc hkl, hx2, grpL_snoc, hl'.out])
      have hrow1 := RowL.one hS hB0 hL0
      have hNq := hNe.below (bel_drewN (Below.refl wr.heap.size wr) q)
      generalize wr.drewN q = w3 at *
      generalize (nrS x us n).2 = dd at *
      generalize (nrS x us n).1 = ii at *
      clear hnb hS hSr hr hr' hc0
      have hci := hNq.cell hii
      have hoi := (hNq.own ii hii).alloc (.cells #[.slice B L C] 30)
      have hsrc := Lib.hid (src_lit w3 30 B L C)
      have hlen := Lib.hid (show (grpL us ii (vs.take t)).length ≤ 10000 by have := grpL_len us ii (vs.take t); rw [List.length_take] at this; omega)
      have hbz : w.heap.size ≤ (w3.alloc (.cells #[.slice B L C] 30)).heap.size := by have := hNq.bel.size; simp; omega
      have i0' : (0 : Int) ≤ (ii : Int) := by omega
      have i1' : (ii : Int) < (n : Int) := by omega
      have hown := Lib.hid hoi
      obtain ⟨V, hV⟩ : ∃ V, VV ii = V := ⟨_, rfl⟩
      rw [hV] at hci
      have hown : (w3.alloc (.cells #[.slice B L C] 30)).ownsRow w.heap.size 30 1 V (grpL us ii (vs.take t)).length (gv ii) := by rw [← hV]; exact hoi
      have hV := Lib.hid hV
      clear hoi
      go_wp2_with (at_builtin; refine wpList_append_any rfl (.tmp 33) (.tmp 35) 46 rfl w.heap.size 30 i0 nilV 1 24 Tryd.underlying46 hi hz0 hz1 hz2 rfl (by decide) V (grpL us ii (vs.take t)).length (gv ii) rfl hown (some ⟨w3.heap.size, 0, none⟩) 1 1 [.slice B L C] rfl hsrc.out (by have := hlen.out; unfold maxLen; omega) (by have := hlen.out; omega) hbz ?_; intro V2 w4 h1 h2 h3; obtain ⟨A9, c9, rfl⟩ := own_slice h1; have hblk := (hNq.blk.alloc (.cells #[.slice B L C] 30)).grown (hV.out ▸ h2) (blk_row hNq.blk (hNq.own ii hii) (by decide)); have hcc : w4.cell? ⟨w.heap.size, ii, none⟩ = some (VV ii) := (by rw [hblk.cell ii]; simp [hii]); have hff := hblk.frozen ii; have hN4 := Lib.hid (Near.push (s := .slice B L C) (x := x) hNq hii h1 (hV.out ▸ h2) (hV.out ▸ h3) hrow1))
      go_wp2
      go_roundw
      case rel => exact ⟨t + 1, _, _, by go_num, hlt, hN4.out.congr fun i hi => by
        rw [hstep.out i]
        by_cases e : i = ii
        · subst e; simp
        · simp [e]⟩
      case measure => simp [intOf]; omega
    · have htN : t = N := by omega
      subst htN
      have hG := hNe.congr (G' := fun i => grpL us i vs) (fun i hi => by rw [List.take_of_length_le (by rw [hl.out]; exact Nat.le_refl _)])
      clear hNe
      have hw1 := hG.bel
      go_wp2_with fail
      refine (copyVectors_any _ _ _ m _ _ hr' hn hm1 hm (fun u h9 => (hu.out u h9).1)).mono ?_
      rintro e w5 ⟨gb, nb, rfl, hBb, hRb, hb5, hg5⟩
      have hmix : (List.range n).map (fun k => if k < 0 then impK m vs us k else us.getD k []) = us := by
        apply List.ext_getElem
        · simp [hl'.out]
        · intro i a1 a2
          simp [List.getD_eq_getElem?_getD, a2]
      go_wp2
      go_loopw [43] (fun iv w6' => ∃ (j : Nat) (nb : List Value) (w6 : World), w6 = w6' ∧ iv = .int .i64 j ∧ j ≤ n ∧ Blk w6 gb 30 nb.toArray ∧ RowL w6 nb ((List.range n).map fun k => if k < j then impK m vs us k else us.getD k []) ∧ Below wr.heap.size wr w6) (fun iv _ => n - (intOf iv).toNat)
      case atStart => exact ⟨0, nb, _, rfl, rfl, Nat.zero_le _, hBb, by rw [hmix]; exact hRb, hb5⟩
      case round =>
        obtain ⟨j, nb2, w6, rfl, rfl, hj, hB6, hR6, hb6⟩ := hrel
        rcases Nat.lt_or_ge j n with hjl | hjg
        · have hG6 := hG.below hb6
          have hcj := hG6.cell hjl
          obtain ⟨Aj, cj, hVj, hRj⟩ := Rr.of_own (hG6.own j hjl) ((hG6.row j hjl).below hG6.bel)
          rw [hVj] at hcj
          have hcapj := hRj.cap
          have htopj := hRj.top
          have hlj := Lib.hid hRj.len
          have hglen := grpL_len us j vs
          rw [hl.out] at hglen
          have hnl : nb2.length = n := by rw [hR6.1]; simp
          have hcb : w6.cell? ⟨gb, j, none⟩ = some (nb2[j]'(by omega)) := by rw [hB6.cell j]; simp [hnl, hjl]
          have hfb := hB6.frozen j
          have hgv := Lib.hid (show VecS m (grpL us j vs) from fun u h9 => hv.out u (grpL_sub h9))
          by_cases h0 : grpL us j vs = []
          · have hz : (grpL us j vs).length = 0 := by rw [h0]; rfl
            have hk := Lib.hid (show impK m vs us j = us.getD j [] by unfold impK; rw [if_pos h0])
            have hR7 := Lib.hid (show RowL w6 nb2 ((List.range n).map fun k => if k < j + 1 then impK m vs us k else us.getD k []) by
              have e : (List.range n).map (fun k => if k < j + 1 then impK m vs us k else us.getD k []) = (List.range n).map fun k => if k < j then impK m vs us k else us.getD k [] := by
                apply List.map_congr_left
                intro k hk9
                by_cases e1 : k < j
                · rw [if_pos e1, if_pos (by omega)]
                · rw [if_neg e1]
                  by_cases e2 : k = j
                  · subst e2; rw [if_pos (by omega), hk.out]
                  · rw [if_neg (by omega)]
              rw [e]; exact hR6)
            rw [hz] at hcj
            clear h0
            go_wp2
            go_roundw
            case rel => exact ⟨j + 1, nb2, _, rfl, by go_num, hjl, hB6, hR7.out, hb6⟩
            case measure => simp [intOf]; omega
          · have hz : 1 ≤ (grpL us j vs).length := by
              rcases Nat.eq_zero_or_pos (grpL us j vs).length with e | e
              · exact absurd (List.eq_nil_of_length_eq_zero e) h0
              · exact e
            have hk := Lib.hid (show impK m vs us j = meanL m (grpL us j vs) by unfold impK; rw [if_neg h0])
            clear h0
            generalize hQ : (grpL us j vs).length = Q at *
            have hQ := Lib.hid hQ
            have hdq : decide ((0 : Int) < (Q : Int)) = true := decide_eq_true (by omega)
            go_wp2_with fail
            refine (mean_any _ _ _ m _ _ hRj hz (by omega) hm hgv.out).mono ?_
            rintro e w7 ⟨g7, rfl, hM7, hb7, hg7⟩
            have hB7 := hB6.below hb7
            have hcb7 : w7.cell? ⟨gb, j, none⟩ = some (nb2[j]'(by omega)) := by rw [hB7.cell j]; simp [hnl, hjl]
            have hfb7 := hB7.frozen j
            have hb8 := hb6.trans (hb7.mono hb6.size)
            have hml : (meanL m (grpL us j vs)).length = m := tab_len _ _
            have hR8 := Lib.hid ((hR6.below hb7).replace hB7 (i := j) (hM7.sl hml (by omega)) (fun e => by cases e) (by omega))
            have hB8 := Lib.hid (show Blk (w7.setCell ⟨gb, j, none⟩ (.slice (some ⟨g7, 0, none⟩) m m)) gb 30 (nb2.set j (.slice (some ⟨g7, 0, none⟩) m m)).toArray by
              have := hB7.set_ j (.slice (some ⟨g7, 0, none⟩) m m)
              rwa [List.setIfInBounds_toArray] at this)
            have hset := Lib.hid (show ((List.range n).map fun k => if k < j then impK m vs us k else us.getD k []).set j (meanL m (grpL us j vs)) = (List.range n).map fun k => if k < j + 1 then impK m vs us k else us.getD k [] by
              apply List.ext_getElem
              · simp
              · intro k a1 a2
                rw [List.getElem_set]
                by_cases e1 : j = k
                · subst e1; simp [hk.out]
                · by_cases e2 : k < j
                  · simp [e1, e2, show k < j + 1 by omega]
                  · simp [e1, e2, show ¬ k < j + 1 by omega])
            go_wp2
            go_roundw
            case rel => exact ⟨j + 1, _, _, rfl, by go_num, hjl, hB8.out, by rw [← hset.out]; exact hR8.out, hb8.setCell (p := ⟨gb, j, none⟩) hg5 _⟩
            case measure => simp [intOf]; omega
        · have hjn : j = n := by omega
          subst hjn
          have he := Lib.hid (show ((List.range j).map fun k => if k < j then impK m vs us k else us.getD k []) = impL m vs us by
            unfold impL
            rw [hl'.out]
            apply List.map_congr_left
            intro k hk9
            rw [if_pos (List.mem_range.1 hk9)])
          rw [he.out] at hR6
          have hbw := hw1.trans (hb6.mono hw1.size)
          have hgw : w.heap.size ≤ gb := Nat.le_trans hw1.size hg5
          go_wp2
          go_ret
          exact ⟨gb, nb2, rfl, hB6, hR6, hbw, hgw⟩

theorem codC_ok {vs us : List (List Int)} (h : codC vs us = 0) : vs.length ≤ 10000 ∧ us.length ≤ 256 ∧ 1 ≤ us.length ∧ 1 ≤ (us.headD []).length ∧ (us.headD []).length ≤ 64 ∧ VecS (us.headD []).length vs ∧ VecS (us.headD []).length us := by
  unfold codC at h
  split at h
  · rename_i h0
    split at h
    · rename_i hk
      obtain ⟨k1, k2⟩ := okB_iff.1 hk
      unfold chk2 at h0
      split at h0
      · cases h0
      · rename_i hlen
        split at h0
        · rename_i hv
          have hall : ∀ x ∈ vs ++ us, vecB x = true ∧ x.length = ((vs ++ us).headD []).length := fun x hx => by
            have := List.all_eq_true.1 hv x hx
            unfold rowOk at this
            simpa using this
          have hvec : ∀ x, vecB x = true → 1 ≤ x.length ∧ x.length ≤ 64 ∧ allB (-1048576) 1048576 x = true := fun x hx => by
            unfold vecB at hx
            simp only [Bool.and_eq_true] at hx
            have := okB_iff.1 hx.1
            exact ⟨by omega, by omega, hx.2⟩
          have hu0 : us.headD [] ∈ us := by
            cases us with
            | nil => simp at k1
            | cons y ys => simp
          have e0 := (hall _ (List.mem_append_right _ hu0)).2
          have e1 := hvec _ (hall _ (List.mem_append_right _ hu0)).1
          exact ⟨by omega, by omega, by omega, e1.1, e1.2.1, fun u hu => ⟨by rw [(hall u (List.mem_append_left _ hu)).2, e0], (hvec u (hall u (List.mem_append_left _ hu)).1).2.2⟩, fun u hu => ⟨by rw [(hall u (List.mem_append_right _ hu)).2, e0], (hvec u (hall u (List.mem_append_right _ hu)).1).2.2⟩⟩
        · cases h0
    · cases h
  · rename_i h0
    exact absurd h h0

def Ret2B (w : World) (n : Nat) (vs : List (List Int)) (e : Ending) (w' : World) : Prop :=
  ∃ A c, e = .returned (.tuple #[.slice A n c, .int .i64 0]) ∧ Rr w' A n c vs ∧ Below w.heap.size w w'
set_option maxHeartbeats 800000 in
theorem Improve_any (A A' : Option Addr) (N c n c' : Nat) (vs us : List (List Int)) (w : World) (h : Rr w A N c vs) (h' : Rr w A' n c' us) :
    Calls Tryd.prog 57 #[.slice A N c, .slice A' n c'] w fun e w' => (codC vs us = 0 ∧ Ret2B w n (impL (us.headD []).length vs us) e w') ∨ (codC vs us ≠ 0 ∧ RetN w (codC vs us) e w') := by
  have hl := Lib.hid h.len
  have hl' := Lib.hid h'.len
  by_cases h0 : codC vs us = 0
  · have hok := Lib.hid (codC_ok h0)
    rw [hl.out, hl'.out] at hok
    have h0' := Lib.hid h0
    go_enter Tryd.func57, Tryd.ntmps57
    go_wp2_with fail
    refine (checkCoding_any _ _ _ _ _ _ _ _ _ h h').mono ?_
    rintro e w1 ⟨rfl, hb1⟩
    rw [h0'.out]
    clear h0
    go_wp2_with fail
    refine (improve_any _ _ _ _ _ _ _ _ _ _ (h.below hb1) (h'.below hb1) hok.out.1 (by have := hok.out.2.1; omega) hok.out.2.2.2.1 hok.out.2.2.2.2.1 hok.out.2.2.2.2.2.1 hok.out.2.2.2.2.2.2 hok.out.2.2.1).mono ?_
    rintro e w2 ⟨g, news, rfl, hB, hR, hb2, hg⟩
    have hlen := Lib.hid (show (impL (us.headD []).length vs us).length = n by unfold impL; simp [hl'.out])
    have hRr := Rr.of_blk hB hR hlen.out (by have := h'.cap; have := h'.top; omega)
    go_wp2
    go_ret2
    exact .inl ⟨h0'.out, _, _, rfl, hRr, hb1.trans (hb2.mono hb1.size)⟩
  · have h0' := Lib.hid h0
    have hne : (codC vs us != 0) = true := by simp [h0]
    have hne2 : (codC vs us == 0) = false := by simp [h0]
    go_enter Tryd.func57, Tryd.ntmps57
    go_wp2_with fail
    refine (checkCoding_any _ _ _ _ _ _ _ _ _ h h').mono ?_
    rintro e w1 ⟨rfl, hb1⟩
    go_wp2
    go_ret2
    exact .inr ⟨h0'.out, rfl, hb1⟩
end Go.Proofs.YtjpdgnbdbpgnmaaDoor
