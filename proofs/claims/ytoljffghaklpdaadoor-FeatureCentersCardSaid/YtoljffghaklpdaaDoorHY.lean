/- The document's differences of vectors. -/
import Derived.Test.YtoljffghaklpdaaDoorHV
namespace Go.Proofs.YtoljffghaklpdaaDoor
open Go.RowKit

set_option maxHeartbeats 6400000 in
set_option maxRecDepth 100000 in
theorem RDifferences_any (A : Option Addr) (n c m : Nat) (vs : List (List Int)) (w : World) (h : Rr w A n c vs) (hn : n ≤ 10000) (hm : m ≤ 64) (hu : VecS m vs) (hmm : 0 < n → (vs.headD []).length = m) :
    Calls Tryd.prog 43 #[.slice A n c] w (RetRr w n (difL vs)) := by
  have hl := Lib.hid h.len
  have hcap := h.cap
  have htop := h.top
  have hcL := Lib.hid (show difL vs = (List.range n).map (difR m vs) by
    unfold difL
    rw [hl.out]
    rcases Nat.eq_zero_or_pos n with e | e
    · subst e; rfl
    · rw [hmm e])
  have hu := Lib.hid hu
  obtain ⟨i0, hi, hz0, hz1, hz2⟩ := info_parts info_sl
  obtain ⟨j0, hj, hj0, hj1, hj2⟩ := info_parts info_int
  clear hmm
  go_enter Tryd.func43, Tryd.ntmps43
  go_wp2
  go_loopw [3, 4] (fun ov iv wr' => ∃ (t : Nat) (V : Value) (news : List Value) (wr : World), wr = wr' ∧ iv = .int .i64 t ∧ V = ov ∧ t ≤ n ∧ OwnRr wr w.heap.size V t news ((List.range t).map (difR m vs)) ∧ Below w.heap.size w wr) (fun _ iv _ => n - (intOf iv).toNat)
  case atStart => exact ⟨0, _, [], _, rfl, rfl, rfl, Nat.zero_le _, OwnRr.nil_ _ _, Below.refl _ _⟩
  case round =>
    obtain ⟨t, V, news, wr, rfl, rfl, rfl, htn, hO, hbel⟩ := hrel
    rcases Nat.lt_or_ge t n with hlt | hge
    · have hr := h.below hbel
      obtain ⟨AV, cV, rfl⟩ := own_slice hO.own
      obtain ⟨ad, B, L, C, x, rfl, hc, hx, hS, hB0, hL0⟩ := hr.at_ hlt
      obtain ⟨p, hp⟩ : ∃ p, min (t + 1) (n - 1) = p := ⟨_, rfl⟩
      obtain ⟨q, hq⟩ : ∃ q, t - 1 = q := ⟨_, rfl⟩
      have hpn : p < n := by omega
      have hqn : q < n := by omega
      obtain ⟨ad2, B2, L2, C2, y, e2, hc2, hy, hS2, _⟩ := hr.at_ hpn
      injection e2 with e2
      subst e2
      obtain ⟨ad3, B3, L3, C3, z, e3, hc3, hz, hS3, _⟩ := hr.at_ hqn
      injection e3 with e3
      subst e3
      have hxv := Lib.hid (hu.out x (List.mem_of_getElem? hx.out))
      have hyv := Lib.hid (hu.out y (List.mem_of_getElem? hy.out))
      have hzv := Lib.hid (hu.out z (List.mem_of_getElem? hz.out))
      have hLm : L = m := by rw [← hS.len]; exact hxv.out.1
      have hLm2 : L2 = m := by rw [← hS2.len]; exact hyv.out.1
      have hLm3 : L3 = m := by rw [← hS3.len]; exact hzv.out.1
      subst hLm
      subst hLm2
      subst hLm3
      have hdif := Lib.hid (show difR L3 vs t = x ++ tab L3 fun c => y.getD c 0 - z.getD c 0 by
        unfold difR
        rw [hl.out, hp, hq, getD_some hx.out, getD_some hy.out, getD_some hz.out])
      have hmin : min ((t : Int) + 1) ((n : Int) - 1) = (p : Int) := by omega
      have hmax : max ((t : Int) - 1) 0 = (q : Int) := by omega
      have hpi0 : (0 : Int) ≤ (p : Int) := by omega
      have hpi1 : (p : Int) < (n : Int) := by omega
      have hqi0 : (0 : Int) ≤ (q : Int) := by omega
      have hqi1 : (q : Int) < (n : Int) := by omega
      have w1e : IntKind.i64.wrap ((t : Int) + 1) = (t : Int) + 1 := IntWalk.i64_in _ (by omega)
      have w2e : IntKind.i64.wrap ((n : Int) - 1) = (n : Int) - 1 := IntWalk.i64_in _ (by omega)
      have w3e : IntKind.i64.wrap ((t : Int) - 1) = (t : Int) - 1 := IntWalk.i64_in _ (by omega)
      have hsx := Lib.hid (Src.of_sl hS hB0)
      clear hp hq
      go_wp2_with (at_builtin; refine wpList_append_any rfl (.const (.slice none 0 0)) (.tmp 18) 30 rfl wr.heap.size 3 j0 (.int .i64 0) 1 8 Tryd.underlying30 hj hj0 hj1 hj2 rfl (by decide) (.slice none 0 0) 0 [] rfl (World.ownsRow_nil _ _ _ _) B L3 C (ivs .i64 x) rfl hsx.out (by unfold maxLen; omega) (by omega) (Nat.le_refl _) ?_; intro V2 w2 h1 h2 h3; obtain ⟨A2, c2, rfl⟩ := own_slice h1)
      have hb2 : Below wr.heap.size wr w2 := (Below.refl wr.heap.size wr).grown h2 (Nat.le_refl _) (fun k e => by cases e)
      have hown2 : w2.ownsRow wr.heap.size 3 1 (.slice A2 L3 c2) L3 (ivs .i64 x) := by simpa using h1
      have hcw := (hb2.cell (World.block_lt_of_cell? _ _ hc)).trans hc
      have hcw2 := (hb2.cell (World.block_lt_of_cell? _ _ hc2)).trans hc2
      have hcw3 := (hb2.cell (World.block_lt_of_cell? _ _ hc3)).trans hc3
      clear h1 h2 h3 hsx
      go_wp2
      go_quiet (fail)
      have hb3 := bel_drewN hb2 nq
      have hown3 : (w2.drewN nq).ownsRow wr.heap.size 3 1 (.slice A2 L3 c2) L3 (ivs .i64 x) := hown2
      generalize w2.drewN nq = w3 at *
      clear hcw hcw2 hcw3 hmin hmax w1e w2e w3e hpi0 hpi1 hqi0 hqi1 hown2 hb2
      go_wp2
      go_loopw [5, 8] (fun ov iv w4' => ∃ (k : Nat) (V3 : Value) (w4 : World), w4 = w4' ∧ iv = .int .i64 k ∧ V3 = ov ∧ k ≤ L3 ∧ w4.ownsRow wr.heap.size 3 1 V3 (L3 + k) (ivs .i64 (x ++ tab k fun c => y.getD c 0 - z.getD c 0)) ∧ Below wr.heap.size wr w4) (fun _ iv _ => L3 - (intOf iv).toNat)
      case atStart => exact ⟨0, _, _, rfl, rfl, rfl, Nat.zero_le _, by simpa [tab] using hown3, hb3⟩
      case round =>
        obtain ⟨k, V3, w4, rfl, rfl, rfl, hkn, hown4, hb4⟩ := hrel
        obtain ⟨A3, c3, rfl⟩ := own_slice hown4
        have hc4 := (hb4.cell (World.block_lt_of_cell? _ _ hc)).trans hc
        rcases Nat.lt_or_ge k L3 with hkl | hkg
        · obtain ⟨ax, y1, rfl, hcy, hy1⟩ := hS2.at_ hkl
          obtain ⟨az, z1, rfl, hcz, hz1'⟩ := hS3.at_ hkl
          have hyb := allB_get hyv.out.2 (by rw [hyv.out.1]; exact hkl) hy1.out
          have hzb := allB_get hzv.out.2 (by rw [hzv.out.1]; exact hkl) hz1'.out
          have e3 : IntKind.i64.wrap (y1 - z1) = y1 - z1 := IntWalk.i64_in _ (by omega)
          have hyv2 := Lib.hid (show y1 - z1 = y.getD k 0 - z.getD k 0 by rw [hy1.out, hz1'.out])
          have k0 : (0 : Int) ≤ (k : Int) := by omega
          have k1 : (k : Int) < (L3 : Int) := by omega
          clear hyb hzb
          go_wp2
          have hKeep := Lib.hid (fun (wx : World) (hb : Below wr.heap.size wr wx) => show wx.cell? (ax.add k) = some (.int .i64 y1) ∧ wx.cell? (az.add k) = some (.int .i64 z1) from ⟨(hb.cell (World.block_lt_of_cell? _ _ hcy)).trans hcy, (hb.cell (World.block_lt_of_cell? _ _ hcz)).trans hcz⟩)
          have hown5 : w4.drew.ownsRow wr.heap.size 3 1 (.slice A3 (L3 + k) c3) (L3 + k) (ivs .i64 (x ++ tab k fun c => y.getD c 0 - z.getD c 0)) := hown4
          have hb5 : Below wr.heap.size wr w4.drew := bel_drewN hb4 1
          have hsz2 : wr.heap.size ≤ w4.drew.heap.size := hb5.size
          have hsz3 : wr.heap.size ≤ w4.heap.size := hb4.size
          have hrow := Lib.hid (fun q (hq : (Value.slice A3 (L3 + k) c3).ownBlock = some q) => (hown5.lt q hq).1)
          clear hc4
          go_region_held3 (fun wx => wx.cell? (ax.add k) = some (.int .i64 y1) ∧ wx.cell? (az.add k) = some (.int .i64 z1)) (first | exact hKeep.out _ hb5 | exact hKeep.out _ (hb5.alloc hsz2 _) | exact hKeep.out _ hb6 | exact hKeep.out _ hb4 | go_keep)
            (first
              | (refine step_append_lies _ (by rfl) _ _ _ (by rfl) wr.heap.size 3 j0 (.int .i64 0) 1 8 Tryd.underlying30 hj hj0 hj1 hj2 (by rfl) (by decide) (.slice A3 (L3 + k) c3) (L3 + k) (ivs .i64 (x ++ tab k fun c => y.getD c 0 - z.getD c 0)) (by rfl) (hown5.alloc _) ⟨w4.heap.size, 0, none⟩ 1 1 [.int .i64 (y1 - z1)] (by rfl) (by rfl) (news_one _ _ _) (oneCell1 _) (by omega) (by unfold maxLen; omega) (by omega) (by simp; omega) _ rfl ?_; intro g cap w5 hown6 hgrow hat hlt5; have hb6 : Below wr.heap.size wr w5 := (hb5.alloc hsz2 _).grown hgrow (by simp; omega) hrow.out))
          have hown7 : w5.ownsRow wr.heap.size 3 1 (.slice (some ⟨g, 0, none⟩) (L3 + (k + 1)) cap) (L3 + (k + 1)) (ivs .i64 (x ++ tab (k + 1) fun c => y.getD c 0 - z.getD c 0)) := by
            rw [tab_succ, ← hyv2.out, ← List.append_assoc, ivs_snoc, ← Nat.add_assoc]; exact hown6
          clear e3 k0 k1 hown6
          go_wp2
          go_roundw
          case rel => exact ⟨k + 1, _, _, rfl, by go_num, rfl, by omega, hown7, hb6⟩
          case measure => simp [intOf]; omega
        · have hkn' : k = L3 := by omega
          subst hkn'
          have hxl : (x ++ tab k fun c => y.getD c 0 - z.getD c 0).length = k + k := by rw [List.length_append, tab_len, hxv.out.1]
          have hO4 := hO.below hb4
          have hs := own_mono hown4 hbel.size
          have hbw := hbel.trans (hb4.mono hbel.size)
          have hsrc := Lib.hid (src_lit w4 30 A3 (k + k) c3)
          have hbz : w.heap.size ≤ (w4.alloc (.cells #[.slice A3 (k + k) c3] 30)).heap.size := by have := hbw.size; simp; omega
          have hrow := Lib.hid (fun q (hq : (Value.slice AV t cV).ownBlock = some q) => (hO4.own.lt q hq).1)
          go_wp2_with (at_builtin; refine wpList_append_any rfl (.tmp 56) (.tmp 58) 46 rfl w.heap.size 30 i0 nilV 1 24 Tryd.underlying46 hi hz0 hz1 hz2 rfl (by decide) (.slice AV t cV) t news rfl (hO4.own.alloc _) (some ⟨w4.heap.size, 0, none⟩) 1 1 [.slice A3 (k + k) c3] rfl hsrc.out (by unfold maxLen; omega) (by omega) hbz ?_)
          intro V2 w5 h1 h2 h3
          have hO5 := OwnRr.push hO4 (x := x ++ tab k fun c => y.getD c 0 - z.getD c 0) (by rw [hxl]; exact hs) (by omega) h1 h2
          have hb7 : Below w.heap.size w w5 := (hbw.alloc hbw.size _).grown h2 hbz hrow.out
          clear h1 h2 h3 hsrc
          go_wp2
          go_roundw
          case rel => exact ⟨t + 1, V2, _, _, rfl, by go_num, rfl, hlt, by rw [List.range_succ, List.map_append]; have e9 := hdif.out; rw [List.map_singleton, e9]; exact hO5, hb7⟩
          case measure => simp [intOf]; omega
    · have htn' : t = n := by omega
      subst htn'
      obtain ⟨A2, c2, rfl, hR⟩ := hO.rr
      go_wp2
      go_ret
      exact ⟨A2, c2, rfl, by rw [hcL.out]; exact hR, hbel⟩
end Go.Proofs.YtoljffghaklpdaaDoor
