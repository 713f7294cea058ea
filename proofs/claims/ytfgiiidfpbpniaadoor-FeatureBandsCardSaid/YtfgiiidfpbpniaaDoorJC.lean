/- Bands: what is refused, and the document's. -/
import Derived.Test.YtfgiiidfpbpniaaDoorJB
namespace Go.Proofs.YtfgiiidfpbpniaaDoor
open Go.RowKit

set_option maxHeartbeats 3200000 in
theorem Bands_bad (A A' : Option Addr) (n c m c' : Nat) (ss es : List Int) (w : World) (h : Sl .i64 w A n c ss) (h' : Sl .i64 w A' m c' es) (hP : ¬ BnP ss es) :
    Calls Tryd.prog 14 #[.slice A n c, .slice A' m c'] w (RetN w 2) := by
  have hl := Lib.hid h.len
  have hcap := h.cap
  have htop := h.top
  have hA := allUpTo_any A n c ss 16777216 w h (by decide) (by decide)
  rcases Nat.lt_or_ge 64 n with hn | hn
  · clear hA
    go_enter Tryd.func14, Tryd.ntmps14
    go_wp2
    go_ret2
    exact ⟨rfl, Below.refl _ _⟩
  cases hb : allB (-16777216) 16777216 ss with
  | false =>
    rw [hb] at hA
    have hA := Lib.hid hA
    clear hb
    go_enter Tryd.func14, Tryd.ntmps14
    go_wp2_with fail
    refine hA.out.mono ?_
    rintro e w' ⟨rfl, rfl⟩
    go_wp2
    go_ret2
    exact ⟨rfl, Below.refl _ _⟩
  | true =>
    rw [hb] at hA
    have hA := Lib.hid hA
    have hE := Lib.hid (show ¬ EdP es n from fun hE => hP ⟨by rw [hl.out]; exact hn, hb, by rw [hl.out]; exact hE⟩)
    clear hb hP
    go_enter Tryd.func14, Tryd.ntmps14
    go_wp2_with fail
    refine hA.out.mono ?_
    rintro e w' ⟨rfl, rfl⟩
    go_wp2_with fail
    refine (areEdges_any A' m c' es n w h').mono ?_
    rintro e w2 ⟨b, r, rfl, hb, hw2⟩
    have hbt : b = false := by
      cases b
      · rfl
      · exact absurd (hb.1 rfl) hE.out
    subst hbt
    have hb2 : Below w.heap.size w w2 := by rw [hw2]; exact bel_drewN (Below.refl _ _) r
    clear hb hw2
    go_wp2
    go_ret2
    exact ⟨rfl, hb2⟩

set_option maxHeartbeats 1600000 in
theorem REnergyC (ad : Addr) (z c : Nat) (f : Nat → Int) (w : World) (hz : z ≤ 64) (hcap : z ≤ c) (htop : c ≤ 9223372036854775807) (h : ∀ j, j < z → w.cell? (ad.add j) = some (.int .i64 (f j))) (hf : ∀ j, -16777216 ≤ f j ∧ f j ≤ 16777216) :
    Calls Tryd.prog 38 #[.slice (some ad) z c] w fun e w' => e = .returned (.int .i64 (sm z fun j => f j * f j)) ∧ ∃ r, w' = w.drewN r := by
  have h := Lib.hid h
  have hbd := Lib.hid (fun j => sqi_bd (hf j).1 (hf j).2)
  have hsb := Lib.hid (fun k => sm_bd (m := 281474976710656) (n := k) (f := fun j => f j * f j) (fun i _ => ⟨by have := (sqi_bd (hf i).1 (hf i).2).1; omega, (sqi_bd (hf i).1 (hf i).2).2⟩))
  clear hf
  go_enter Tryd.func38, Tryd.ntmps38
  go_wp2
  go_loopw [3, 4] (fun sv iv wr => ∃ k r : Nat, iv = .int .i64 k ∧ k ≤ z ∧ sv = .int .i64 (sm k fun j => f j * f j) ∧ wr = w.drewN r) (fun _ iv _ => z - (intOf iv).toNat)
  case atStart => exact ⟨0, 0, rfl, Nat.zero_le _, rfl, rfl⟩
  case round =>
    obtain ⟨k, r, rfl, hk, rfl, rfl⟩ := hrel
    rcases Nat.lt_or_ge k z with hlt | hge
    · obtain ⟨x, hx⟩ : ∃ x, f k = x := ⟨_, rfl⟩
      have hc : (w.drewN r).cell? (ad.add k) = some (.int .i64 x) := by rw [← hx]; exact h.out k hlt
      have s1 := hbd.out k
      have s2 := hsb.out k
      have hstep := Lib.hid (show (sm (k + 1) fun j => f j * f j) = (sm k fun j => f j * f j) + x * x by rw [← hx]; rfl)
      rw [hx] at s1
      generalize (sm k fun j => f j * f j) = S at *
      obtain ⟨Y, hY⟩ : ∃ Y, x * x = Y := ⟨_, rfl⟩
      rw [hY] at s1 hstep
      have w1e : IntKind.i64.wrap Y = Y := IntWalk.i64_in _ (by omega)
      have w2e : IntKind.i64.wrap (S + Y) = S + Y := IntWalk.i64_in _ (by omega)
      have i0 : (0 : Int) ≤ (k : Int) := by omega
      have i1 : (k : Int) < (z : Int) := by omega
      generalize hw : w.drewN r = w1 at *
      have hw := Lib.hid hw
      have hx := Lib.hid hx
      clear s1 s2
      go_wp2
      go_quiet (fail)
      go_wp2
      go_roundw
      case rel => exact ⟨k + 1, r + nq, by go_num, hlt, by rw [hstep.out], by rw [← hw.out]; exact dr_add w r nq⟩
      case measure => simp [intOf]; omega
    · have hkz : z = k := by omega
      subst hkz
      go_wp2
      go_ret
      exact ⟨rfl, r, rfl⟩

theorem sq_part (ss : List Int) (a : Nat) : ∀ z, (sm z fun j => ss.getD (a + j) 0 * ss.getD (a + j) 0) = sq ss (a + z) - sq ss a := by
  intro z
  induction z with
  | zero => show 0 = sq ss a - sq ss a; omega
  | succ z ih =>
    show (sm z fun j => ss.getD (a + j) 0 * ss.getD (a + j) 0) + ss.getD (a + z) 0 * ss.getD (a + z) 0 = _
    rw [ih, show a + (z + 1) = (a + z) + 1 from rfl, sq_succ]
    omega
theorem in24 {ss : List Int} (h : allB (-16777216) 16777216 ss = true) (i : Nat) : -16777216 ≤ ss.getD i 0 ∧ ss.getD i 0 ≤ 16777216 := by
  rcases Nat.lt_or_ge i ss.length with hi | hi
  · exact allB_get h hi rfl
  · rw [getD_out hi]; decide

set_option maxHeartbeats 3200000 in
set_option maxRecDepth 100000 in
theorem RBands_any (A A' : Option Addr) (n c m c' : Nat) (ss es : List Int) (w : World) (h : Sl .i64 w A n c ss) (h' : Sl .i64 w A' m c' es) (hm : m ≤ 1000) (hP : BnP ss es) :
    Calls Tryd.prog 17 #[.slice A n c, .slice A' m c'] w fun e w' => ∃ A2 c2, e = .returned (.slice A2 (m - 1) c2) ∧ Sl .i64 w' A2 (m - 1) c2 (bnL ss es) ∧ Below w.heap.size w w' := by
  have hl := Lib.hid h.len
  have hl' := Lib.hid h'.len
  have hcap := h.cap
  have htop := h.top
  have hcap' := h'.cap
  have htop' := h'.top
  have hn := hP.1
  have hss := Lib.hid hP.2.1
  have hE := hP.2.2
  have hm2 := hE.1
  rw [hl.out] at hn hE
  rw [hl'.out] at hm2
  have hE1 := Lib.hid (fun i (hi : i < m) => hE.2.1 i (by rw [hl'.out]; exact hi))
  have hE2 := Lib.hid (fun i (hi : i + 1 < m) => hE.2.2 i (by rw [hl'.out]; exact hi))
  have hpos : 0 < n := by
    have e1 := hE1.out 1 (by omega)
    have e2 := hE2.out 0 (by omega)
    have e3 := hE1.out 0 (by omega)
    simp only [Nat.zero_add] at e2
    omega
  obtain ⟨q, hq⟩ : ∃ q, m - 1 = q := ⟨_, rfl⟩
  have hR := Lib.hid (show bnL ss es = tab q (bnF ss es) by unfold bnL; rw [hl'.out, hq])
  rw [hq]
  clear hP hE
  obtain ⟨ad, x0, rfl, _, _⟩ := h.at_ hpos
  obtain ⟨ad', x1, rfl, _, _⟩ := h'.at_ (show 0 < m by omega)
  obtain ⟨i0, hi, hz0, hz1, hz2⟩ := info_parts info_int
  go_enter Tryd.func17, Tryd.ntmps17
  go_wp2
  go_loopw [5, 6] (fun ov iv wr' => ∃ (b : Nat) (V : Value) (wr : World), wr = wr' ∧ iv = .int .i64 b ∧ V = ov ∧ b ≤ q ∧ wr.ownsRow w.heap.size 3 1 V b (ivs .i64 (tab b (bnF ss es))) ∧ Below w.heap.size w wr) (fun _ iv _ => q - (intOf iv).toNat)
  case atStart => exact ⟨0, _, _, rfl, rfl, rfl, Nat.zero_le _, World.ownsRow_nil _ _ _ _, Below.refl _ _⟩
  case round =>
    obtain ⟨b, V, wr, rfl, rfl, rfl, hbq, hown, hbel⟩ := hrel
    obtain ⟨AV, cV, rfl⟩ := own_slice hown
    obtain ⟨b1, hb1⟩ : ∃ b1, b + 1 = b1 := ⟨_, rfl⟩
    have e1 : IntKind.i64.wrap ((b : Int) + 1) = (b1 : Int) := by rw [IntWalk.i64_in _ (by omega)]; omega
    rcases Nat.lt_or_ge b q with hlt | hge
    · have x1 := hE1.out b (by omega)
      have x2 := hE1.out (b + 1) (by omega)
      have x3 := hE2.out b (by omega)
      obtain ⟨a, ha⟩ : ∃ a : Nat, es.getD b 0 = a := ⟨(es.getD b 0).toNat, by omega⟩
      obtain ⟨d, hd⟩ : ∃ d : Nat, es.getD (b + 1) 0 = d := ⟨(es.getD (b + 1) 0).toNat, by omega⟩
      rw [ha] at x1 x3
      rw [hd] at x2 x3
      have hKeep := Lib.hid (fun (wx : World) (hb : Below w.heap.size w wx) => show wx.cell? (ad'.add b) = some (.int .i64 (a : Int)) ∧ wx.cell? (ad'.add b1) = some (.int .i64 (d : Int)) from ⟨(h'.below hb).cellAt (by omega) ha, (h'.below hb).cellAt (by omega) (by rw [← hb1]; exact hd)⟩)
      have hdn : d ≤ n := by omega
      have had : a < d := by omega
      have i0' : (0 : Int) ≤ (b : Int) := by omega
      have i1 : (b : Int) < (m : Int) := by omega
      have i2 : (0 : Int) ≤ (b1 : Int) := by omega
      have i3 : (b1 : Int) < (m : Int) := by omega
      have i4 : (0 : Int) ≤ (a : Int) := by omega
      have i5 : (a : Int) ≤ (d : Int) := by omega
      have i6 : (d : Int) ≤ (n : Int) := by omega
      have i7 : (d : Int) ≤ (c : Int) := by omega
      have i8 : ¬ c = a := by omega
      have i10 : (b1 : Int) < (m : Int) := by omega
      have hbv := Lib.hid (show bnF ss es b = sm (d - a) fun j => ss.getD (a + j) 0 * ss.getD (a + j) 0 by
        rw [sq_part, show a + (d - a) = d by omega]
        unfold bnF; rw [ha, hd]; rfl)
      have hb1 := Lib.hid hb1
      have ha := Lib.hid ha
      have hd := Lib.hid hd
      clear x1 x2 x3
      have hEn := Lib.hid (fun (wx : World) (hb : Below w.heap.size w wx) => REnergyC (ad.add a) (d - a) (c - a) (fun j => ss.getD (a + j) 0) wx (by omega) (by omega) (by omega) (fun j hj => by
        rw [Addr.add_add]
        exact (h.below hb).cellAt (by omega) rfl) (fun j => in24 hss.out (a + j)))
      have hbd : Below w.heap.size w wr.drew := bel_drewN hbel 1
      have hownd : wr.drew.ownsRow w.heap.size 3 1 (.slice AV b cV) b (ivs .i64 (tab b (bnF ss es))) := hown
      go_wp2
      go_region_held3 (fun wx => wx.cell? (ad'.add b) = some (.int .i64 (a : Int)) ∧ wx.cell? (ad'.add b1) = some (.int .i64 (d : Int))) (first | exact hKeep.out _ hbd | exact hKeep.out _ hb5 | exact hKeep.out _ (hb5.alloc hb5.size _) | exact hKeep.out _ hb6 | exact hKeep.out _ hbel | go_keep)
        (first
          | (go_at_call 38; refine (hEn.out _ hbd).mono ?_; rintro e w5 ⟨rfl, r5, hw5⟩; have hb5 : Below w.heap.size w w5 := (by rw [hw5]; exact bel_drewN hbd r5); have hown5 : w5.ownsRow w.heap.size 3 1 (.slice AV b cV) b (ivs .i64 (tab b (bnF ss es))) := (by rw [hw5]; exact hownd); have hs5 : w.heap.size ≤ w5.heap.size := hb5.size; have hrow := Lib.hid (fun k (hk : (Value.slice AV b cV).ownBlock = some k) => (hown5.lt k hk).1); clear hw5; rw [← hbv.out])
          | (refine step_append_lies _ (by rfl) _ _ _ (by rfl) w.heap.size 3 i0 (.int .i64 0) 1 8 Tryd.underlying22 hi hz0 hz1 hz2 (by rfl) (by decide) (.slice AV b cV) b (ivs .i64 (tab b (bnF ss es))) (by rfl) (hown5.alloc _) ⟨w5.heap.size, 0, none⟩ 1 1 [.int .i64 (bnF ss es b)] (by rfl) (by rfl) (news_one _ _ _) (oneCell1 _) (by omega) (by unfold maxLen; omega) (by omega) (by simp; omega) _ rfl ?_; intro g cap w6 hown6 hgrow hat hlt6; have hb6 : Below w.heap.size w w6 := (hb5.alloc hs5 _).grown hgrow (by simp; omega) hrow.out))
      have hown7 : w6.ownsRow w.heap.size 3 1 (.slice (some ⟨g, 0, none⟩) (b + 1) cap) (b + 1) (ivs .i64 (tab (b + 1) (bnF ss es))) := by rw [tab_succ, ivs_snoc]; exact hown6
      clear e1 hown6 i0' i1 i2 i3 i4 i5 i6 i7 i8 i10
      go_wp2
      go_roundw
      case rel => exact ⟨b + 1, _, _, rfl, by go_num, rfl, hlt, by rw [← hb1.out]; exact hown7, hb6⟩
      case measure => simp [intOf]; omega
    · have hbq' : q = b := by omega
      subst hbq'
      have hno : ¬ (b1 : Int) < (m : Int) := by omega
      obtain ⟨A2, c2, e2, hS2⟩ := Sl.of_own hown
      injection e2 with e3 e4 e5
      subst e3 e5
      go_wp2
      go_ret
      exact ⟨_, _, rfl, by rw [hR.out]; exact hS2, hbel⟩
end Go.Proofs.YtfgiiidfpbpniaaDoor
