/- Emphasis and what restores it undo each other. -/
import Derived.Test.YtoljffghaklpdaaGreatDoorHM
import Derived.Test.YtoljffghaklpdaaGreatDoorJA
import Derived.Test.YtoljffghaklpdaaGreatDoorZP0
import Derived.Test.YtoljffghaklpdaaGreatDoorZK0
import Derived.Test.YtoljffghaklpdaaGreatDoorZV3
import Derived.Test.YtoljffghaklpdaaGreatDoorZP6
import Derived.IntWalk
import Derived.Deep.RegionHeld3
import Derived.Deep.AppendLies
namespace Go.Proofs.YtoljffghaklpdaaGreatDoor

theorem emC_zero {back : Bool} {xs : List Int} {num den : Int} (h : emC back xs num den = 0) : chkE xs num den = 0 ∧ valsB (tab xs.length (if back then reAt num den xs else emAt num den xs)) = true := by
  unfold emC at h
  rcases chkE_cases xs num den with ⟨h0, _⟩ | h0 | h0
  · rw [if_pos h0] at h
    refine ⟨h0, ?_⟩
    cases hv : valsB (tab xs.length (if back then reAt num den xs else emAt num den xs)) with
    | true => rfl
    | false => rw [oC_no hv] at h; cases h
  · rw [h0] at h; cases h
  · rw [h0] at h; cases h
theorem emL_zero {back : Bool} {xs : List Int} {num den : Int} (h : emC back xs num den = 0) : emL back xs num den = tab xs.length (if back then reAt num den xs else emAt num den xs) := by
  have h2 := emC_zero h
  unfold emL
  rw [if_pos h2.1, oL_yes h2.2]
/-- another list with the same length, of values, is right for the same emphasis -/
theorem chkE_again {xs ys : List Int} {num den : Int} (h : chkE xs num den = 0) (hl : ys.length = xs.length) (hv : valsB ys = true) : chkE ys num den = 0 := by
  rcases chkE_cases xs num den with ⟨_, h1, h2, h3, h4, h5, h6⟩ | h0 | h0
  · have hk : chk (-2147483647) 2147483647 ys = 0 := by
      unfold chk
      rw [if_neg (by omega), show allB (-2147483647) 2147483647 ys = true from hv]; rfl
    unfold chkE chkV_w
    rw [if_pos hk, okB_mk h3 h4, okB_mk h5 h6]; rfl
  · rw [h0] at h; cases h
  · rw [h0] at h; cases h
theorem valsB_of {xs : List Int} {num den : Int} (h : chkE xs num den = 0) : valsB xs = true := by
  rcases chkE_cases xs num den with ⟨_, _, h2, _⟩ | h0 | h0
  · exact h2
  · rw [h0] at h; cases h
  · rw [h0] at h; cases h
/-- what is restored from the emphasis -/
theorem re_em {xs : List Int} {num den : Int} : ∀ i, i < xs.length → reAt num den (tab xs.length (emAt num den xs)) i = xs.getD i 0 := by
  intro i
  induction i with
  | zero =>
    intro hi
    show (tab xs.length (emAt num den xs)).getD 0 0 + rnd (num * 0) den = _
    rw [tab_getD hi]
    show xs.getD 0 0 - rnd (num * 0) den + rnd (num * 0) den = _
    omega
  | succ k ih =>
    intro hi
    show (tab xs.length (emAt num den xs)).getD (k + 1) 0 + rnd (num * reAt num den (tab xs.length (emAt num den xs)) k) den = _
    rw [tab_getD hi, ih (by omega)]
    show xs.getD (k + 1) 0 - rnd (num * xs.getD k 0) den + rnd (num * xs.getD k 0) den = _
    omega
theorem em_re {xs : List Int} {num den : Int} : ∀ i, i < xs.length → emAt num den (tab xs.length (reAt num den xs)) i = xs.getD i 0 := by
  intro i hi
  unfold emAt
  rw [tab_getD hi]
  cases i with
  | zero =>
    show xs.getD 0 0 + rnd (num * 0) den - rnd (num * 0) den = _
    omega
  | succ k =>
    show reAt num den xs (k + 1) - rnd (num * (tab xs.length (reAt num den xs)).getD k 0) den = _
    rw [tab_getD (by omega)]
    show xs.getD (k + 1) 0 + rnd (num * reAt num den xs k) den - rnd (num * reAt num den xs k) den = _
    omega
theorem em_back {back : Bool} {xs : List Int} {num den : Int} (h : emC back xs num den = 0) : emC (!back) (emL back xs num den) num den = 0 ∧ emL (!back) (emL back xs num den) num den = xs := by
  have h1 := emC_zero h
  rw [emL_zero h]
  have hc := chkE_again h1.1 (ys := tab xs.length (if back then reAt num den xs else emAt num den xs)) (tab_len _ _) h1.2
  have e : tab (tab xs.length (if back then reAt num den xs else emAt num den xs)).length (if (!back) then reAt num den (tab xs.length (if back then reAt num den xs else emAt num den xs)) else emAt num den (tab xs.length (if back then reAt num den xs else emAt num den xs))) = xs := by
    rw [tab_len]
    conv => rhs; rw [← tab_self xs]
    refine tab_congr fun i hi => ?_
    cases back with
    | true => exact em_re i hi
    | false => exact re_em i hi
  have hv := valsB_of h1.1
  unfold emC emL
  rw [if_pos hc, if_pos hc, e, oL_yes hv, oC_yes hv]
  exact ⟨rfl, rfl⟩
end Go.Proofs.YtoljffghaklpdaaGreatDoor


/- The document's own emphasis. -/
namespace Go.Proofs.YtoljffghaklpdaaGreatDoor
open Go.RowKit

theorem vals_no {n k : Nat} {f : Nat → Int} (hk : k < n) (h : ¬ (-2147483647 ≤ f k ∧ f k ≤ 2147483647)) : valsB (tab n f) = false := by
  refine allB_no (k := k) (x := f k) (by rw [tab_len]; exact hk) (tab_getD hk) ?_
  cases hb : okB (-2147483647) 2147483647 (f k) with
  | false => rfl
  | true => exact absurd (okB_iff.1 hb) h
theorem vals_snoc {k : Nat} {f : Nat → Int} (h : valsB (tab k f) = true) (h2 : -2147483647 ≤ f k ∧ f k ≤ 2147483647) : valsB (tab (k + 1) f) = true := by
  unfold valsB at h ⊢
  rw [tab_succ, allB_snoc, h, okB_mk h2.1 h2.2]; rfl
theorem own_cell {w : World} {base e : Nat} {v : Value} {n : Nat} {xs : List Int} (h : w.ownsRow base e 1 v n (ivs .i64 xs)) {j : Nat} (hj : j < n) : ∃ g cap, v = .slice (some ⟨g, 0, none⟩) n cap ∧ n ≤ cap ∧ w.cell? ⟨g, j, none⟩ = some (.int .i64 (xs.getD j 0)) := by
  have hl := h.1
  rw [ivs_len] at hl
  rcases h.2 with ⟨_, h0⟩ | ⟨g, cap, cur, rfl, _, _, h5, _⟩
  · omega
  · refine ⟨g, cap, rfl, h5, ?_⟩
    rw [h.cellAt j (by omega), getD_in (by omega)]
    simp [ivs, show j < xs.length by omega]
theorem prev_pos {f : Nat → Int} {k : Nat} (h : 0 < k) : prev f k = f (k - 1) := by
  cases k with
  | zero => omega
  | succ j => rfl
set_option maxHeartbeats 4000000 in
set_option maxRecDepth 100000 in
theorem Emphasis_false (A : Option Addr) (n c : Nat) (xs : List Int) (num den : Int) (w : World) (h : Sl .i64 w A n c xs) :
    Calls Tryz.prog 61 #[.slice A n c, .int .i64 num, .int .i64 den, .bool false] w (RetL2 .i64 w (emL false xs num den) (emC false xs num den)) := by
  have hl := Lib.hid h.len
  have hcap := h.cap
  have htop := h.top
  rcases chk_cases (-2147483647) 2147483647 xs with ⟨hn, hk⟩ | ⟨hn, hall, hk⟩ | ⟨hn, hall, hk⟩
  · have hC := Lib.hid (show emC false xs num den = 5 by unfold emC chkE chkV_w; rw [hk]; rfl)
    have hL := Lib.hid (show emL false xs num den = [] by unfold emL chkE chkV_w; rw [hk]; rfl)
    rw [hl.out] at hn
    clear hk
    go_enter Tryz.func61, Tryz.ntmps61
    go_wp2
    go_ret2
    exact ⟨none, 0, 0, by rw [hC.out]; rfl, by rw [hL.out]; exact Sl.nil _ _, Below.refl _ _⟩
  · rw [hl.out] at hn
    have hv : valsB xs = true := hall
    cases hs : shpB num den with
    | false =>
      have hC := Lib.hid (show emC false xs num den = 2 by unfold emC chkE chkV_w; rw [hk]; unfold shpB at hs; rw [hs]; rfl)
      have hL := Lib.hid (show emL false xs num den = [] by unfold emL chkE chkV_w; rw [hk]; unfold shpB at hs; rw [hs]; rfl)
      clear hk hall
      go_enter Tryz.func61, Tryz.ntmps61
      go_wp2_with (first | (go_at_call 131; refine (Values_any _ _ _ _ _ h).mono ?_; rintro e w' ⟨rfl, rfl⟩) | (go_at_call 56; refine (Shape_any _ _ _).mono ?_; rintro e w' ⟨rfl, rfl⟩))
      go_ret2
      exact ⟨none, 0, 0, by rw [hC.out]; rfl, by rw [hL.out]; exact Sl.nil _ _, Below.refl _ _⟩
    | true =>
      have hE : chkE xs num den = 0 := by unfold chkE chkV_w; rw [hk]; unfold shpB at hs; rw [hs]; rfl
      have hC := Lib.hid (show emC false xs num den = oC (tab n (emAt num den xs)) by unfold emC; rw [if_pos hE, hl.out]; rfl)
      have hL := Lib.hid (show emL false xs num den = oL (tab n (emAt num den xs)) by unfold emL; rw [if_pos hE, hl.out]; rfl)
      have hs2 := hs
      unfold shpB at hs2
      rw [Bool.and_eq_true, okB_iff, okB_iff] at hs2
      have hd1 := hs2.1.1
      have hd2 := hs2.1.2
      have hn1 := hs2.2.1
      have hn2 := hs2.2.2
      have hall := Lib.hid hall
      obtain ⟨i0, hi, hz0, hz1, hz2⟩ := info_parts info_int
      clear hk hs2 hE
      go_enter Tryz.func61, Tryz.ntmps61
      go_wp2_with (first | (go_at_call 131; refine (Values_any _ _ _ _ _ h).mono ?_; rintro e w' ⟨rfl, rfl⟩) | (go_at_call 56; refine (Shape_any _ _ _).mono ?_; rintro e w' ⟨rfl, rfl⟩))
      clear hs hv
      go_loopw [10, 11] (fun ov iv wr => ∃ (k : Nat) (V : Value), iv = .int .i64 k ∧ V = ov ∧ k ≤ n ∧ wr.ownsRow w.heap.size 3 1 V k (ivs .i64 (tab k (emAt num den xs))) ∧ Hid (valsB (tab k (emAt num den xs)) = true) ∧ Below w.heap.size w wr) (fun _ iv _ => n - (intOf iv).toNat)
      case atStart => exact ⟨0, _, rfl, rfl, Nat.zero_le _, World.ownsRow_nil _ _ _ _, rfl, Below.refl _ _⟩
      case round =>
        obtain ⟨k, V, rfl, rfl, hkn, hown, hvk, hbel⟩ := hrel
        have hr := h.below hbel
        rcases Nat.lt_or_ge k n with hlt | hge
        · obtain ⟨ad, x, rfl, hcx, hx⟩ := hr.at_ hlt
          have hxb := allB_get hall.out (by rw [hl.out]; exact hlt) hx.out
          have hx1 := hxb.1
          have hx2 := hxb.2
          clear hxb
          rcases Nat.eq_zero_or_pos k with hk0 | hk0
          · subst hk0
            have hcx0 : wr.cell? ad = some (.int .i64 x) := hcx
            have hy := Lib.hid (show x = emAt num den xs 0 by
              show _ = xs.getD 0 0 - rnd (num * 0) den
              rw [Int.mul_zero, rnd_zero hd1, hx.out]; omega)
            have hvs := Lib.hid (vals_snoc hvk.out (by rw [← hy.out]; exact ⟨hx1, hx2⟩))
            have g1 : decide (x < -2147483647) = false := by simp; omega
            have g2 : decide (2147483647 < x) = false := by simp; omega
            go_wp2_with (at_builtin; refine wpList_append_own _ rfl (.tmp 74) (.tmp 76) 28 rfl w.heap.size 3 i0 (.int .i64 0) 1 8 Tryz.underlying28 hi hz0 hz1 hz2 rfl (by decide) V 0 (ivs .i64 (tab 0 (emAt num den xs))) rfl (hown.alloc _) ⟨wr.heap.size, 0, none⟩ 1 1 [.int .i64 (x)] rfl rfl (news_one _ _ _) (oneCell1 _) ?ha3 ?ha4 ?ha5 ?_)
            case ha3 => unfold maxLen; omega
            case ha4 => omega
            case ha5 => have := hbel.size; simp; omega
            intro v1 w5 hown5 hg5 _
            have hown6 : w5.ownsRow w.heap.size 3 1 v1 (0 + 1) (ivs .i64 (tab (0 + 1) (emAt num den xs))) := by rw [tab_succ, ivs_snoc, ← hy.out]; exact hown5
            have hb5 : Below w.heap.size w w5 := (hbel.alloc hbel.size _).grown hg5 (by have := hbel.size; simp; omega) (fun q hq => (hown.lt q hq).1)
            clear hown5
            go_wp2
            go_roundw
            case rel => exact ⟨0 + 1, v1, by go_num, rfl, by omega, hown6, hvs.out, hb5⟩
            case measure => simp [intOf]; omega
          · have hk1 : ((k : Int) - 1).toNat = k - 1 := by omega
            have hk2 : 0 ≤ (k : Int) - 1 := by omega
            have hk3 : 0 < (k : Int) := by omega
            have hk4 : (k : Int) - 1 < (n : Int) := by omega
            obtain ⟨ad', p, he, hcp, hp⟩ := hr.at_ (j := k - 1) (by omega)
            injection he with he
            subst he
            have hpb := allB_get hall.out (by rw [hl.out]; omega) hp.out
            have hy : Hid (x - rnd (num * p) den = emAt num den xs k) := by show _ = _; unfold emAt; rw [prev_pos hk0, hx.out, hp.out]
            have hp1 := hpb.1
            have hp2 := hpb.2
            have hm := mul_bd hn1 (show num ≤ 1024 by omega) hp1 hp2 (by omega)
            have hm1 := hm.1
            have hm2 := hm.2
            have hq := rnd_part hn1 hn2 hd1 hp1 hp2
            have hq1 := hq.1
            have hq2 := hq.2
            clear hpb hm hq
            by_cases hr1 : -2147483647 ≤ x - rnd (num * p) den
            · have g1 : decide (x - rnd (num * p) den < -2147483647) = false := by simp; omega
              by_cases hr2 : x - rnd (num * p) den ≤ 2147483647
              · have g2 : decide (2147483647 < x - rnd (num * p) den) = false := by simp; omega
                have hvs := Lib.hid (vals_snoc hvk.out (by rw [← hy.out]; exact ⟨hr1, hr2⟩))
                go_wp2_with fail
                refine (Round_any _ _ _ (by omega) (by omega) hd1 (by omega)).mono ?_
                rintro e w' ⟨rfl, rfl⟩
                go_wp2_with (at_builtin; refine wpList_append_own _ rfl (.tmp 74) (.tmp 76) 28 rfl w.heap.size 3 i0 (.int .i64 0) 1 8 Tryz.underlying28 hi hz0 hz1 hz2 rfl (by decide) _ k (ivs .i64 (tab k (emAt num den xs))) rfl (hown.alloc _) ⟨wr.heap.size, 0, none⟩ 1 1 [.int .i64 (x - rnd (num * p) den)] rfl rfl (news_one _ _ _) (oneCell1 _) ?hb3 ?hb4 ?hb5 ?_)
                case hb3 => unfold maxLen; omega
                case hb4 => omega
                case hb5 => have := hbel.size; simp; omega
                intro v1 w5 hown5 hg5 _
                have hown6 : w5.ownsRow w.heap.size 3 1 v1 (k + 1) (ivs .i64 (tab (k + 1) (emAt num den xs))) := by rw [tab_succ, ivs_snoc, ← hy.out]; exact hown5
                have hb5 : Below w.heap.size w w5 := (hbel.alloc hbel.size _).grown hg5 (by have := hbel.size; simp; omega) (fun q hq => (hown.lt q hq).1)
                clear hown5
                go_wp2
                go_roundw
                case rel => exact ⟨k + 1, v1, by go_num, rfl, by omega, hown6, hvs.out, hb5⟩
                case measure => simp [intOf]; omega
              · have g2 : 2147483647 < x - rnd (num * p) den := by omega
                have hvn := Lib.hid (vals_no (n := n) (k := k) (f := emAt num den xs) hlt (by rw [← hy.out]; omega))
                go_wp2_with fail
                refine (Round_any _ _ _ (by omega) (by omega) hd1 (by omega)).mono ?_
                rintro e w' ⟨rfl, rfl⟩
                go_wp2
                go_ret2
                exact ⟨none, 0, 0, by rw [hC.out, oC_no hvn.out]; rfl, by rw [hL.out, oL_no hvn.out]; exact Sl.nil _ _, hbel⟩
            · have g2 : x - rnd (num * p) den < -2147483647 := by omega
              have hvn := Lib.hid (vals_no (n := n) (k := k) (f := emAt num den xs) hlt (by rw [← hy.out]; omega))
              go_wp2_with fail
              refine (Round_any _ _ _ (by omega) (by omega) hd1 (by omega)).mono ?_
              rintro e w' ⟨rfl, rfl⟩
              go_wp2
              go_ret2
              exact ⟨none, 0, 0, by rw [hC.out, oC_no hvn.out]; rfl, by rw [hL.out, oL_no hvn.out]; exact Sl.nil _ _, hbel⟩
        · have hkn' : k = n := by omega
          subst hkn'
          obtain ⟨A2, c2, rfl, hS2⟩ := Sl.of_own hown
          go_wp2
          go_ret2
          exact ⟨A2, _, c2, by rw [hC.out, oC_yes hvk.out]; rfl, by rw [hL.out, oL_yes hvk.out]; exact hS2, hbel⟩
  · rw [hl.out] at hn
    have hv : valsB xs = false := hall
    have hC := Lib.hid (show emC false xs num den = 2 by unfold emC chkE chkV_w; rw [hk]; rfl)
    have hL := Lib.hid (show emL false xs num den = [] by unfold emL chkE chkV_w; rw [hk]; rfl)
    clear hk hall
    go_enter Tryz.func61, Tryz.ntmps61
    go_wp2_with (go_at_call 131; refine (Values_any _ _ _ _ _ h).mono ?_; rintro e w' ⟨rfl, rfl⟩)
    go_ret2
    exact ⟨none, 0, 0, by rw [hC.out]; rfl, by rw [hL.out]; exact Sl.nil _ _, Below.refl _ _⟩

set_option maxHeartbeats 4000000 in
set_option maxRecDepth 100000 in
theorem Emphasis_true (A : Option Addr) (n c : Nat) (xs : List Int) (num den : Int) (w : World) (h : Sl .i64 w A n c xs) :
    Calls Tryz.prog 61 #[.slice A n c, .int .i64 num, .int .i64 den, .bool true] w (RetL2 .i64 w (emL true xs num den) (emC true xs num den)) := by
  have hl := Lib.hid h.len
  have hcap := h.cap
  have htop := h.top
  rcases chk_cases (-2147483647) 2147483647 xs with ⟨hn, hk⟩ | ⟨hn, hall, hk⟩ | ⟨hn, hall, hk⟩
  · have hC := Lib.hid (show emC true xs num den = 5 by unfold emC chkE chkV_w; rw [hk]; rfl)
    have hL := Lib.hid (show emL true xs num den = [] by unfold emL chkE chkV_w; rw [hk]; rfl)
    rw [hl.out] at hn
    clear hk
    go_enter Tryz.func61, Tryz.ntmps61
    go_wp2
    go_ret2
    exact ⟨none, 0, 0, by rw [hC.out]; rfl, by rw [hL.out]; exact Sl.nil _ _, Below.refl _ _⟩
  · rw [hl.out] at hn
    have hv : valsB xs = true := hall
    cases hs : shpB num den with
    | false =>
      have hC := Lib.hid (show emC true xs num den = 2 by unfold emC chkE chkV_w; rw [hk]; unfold shpB at hs; rw [hs]; rfl)
      have hL := Lib.hid (show emL true xs num den = [] by unfold emL chkE chkV_w; rw [hk]; unfold shpB at hs; rw [hs]; rfl)
      clear hk hall
      go_enter Tryz.func61, Tryz.ntmps61
      go_wp2_with (first | (go_at_call 131; refine (Values_any _ _ _ _ _ h).mono ?_; rintro e w' ⟨rfl, rfl⟩) | (go_at_call 56; refine (Shape_any _ _ _).mono ?_; rintro e w' ⟨rfl, rfl⟩))
      go_ret2
      exact ⟨none, 0, 0, by rw [hC.out]; rfl, by rw [hL.out]; exact Sl.nil _ _, Below.refl _ _⟩
    | true =>
      have hE : chkE xs num den = 0 := by unfold chkE chkV_w; rw [hk]; unfold shpB at hs; rw [hs]; rfl
      have hC := Lib.hid (show emC true xs num den = oC (tab n (reAt num den xs)) by unfold emC; rw [if_pos hE, hl.out]; rfl)
      have hL := Lib.hid (show emL true xs num den = oL (tab n (reAt num den xs)) by unfold emL; rw [if_pos hE, hl.out]; rfl)
      have hs2 := hs
      unfold shpB at hs2
      rw [Bool.and_eq_true, okB_iff, okB_iff] at hs2
      have hd1 := hs2.1.1
      have hd2 := hs2.1.2
      have hn1 := hs2.2.1
      have hn2 := hs2.2.2
      have hall := Lib.hid hall
      obtain ⟨i0, hi, hz0, hz1, hz2⟩ := info_parts info_int
      clear hk hs2 hE
      go_enter Tryz.func61, Tryz.ntmps61
      go_wp2_with (first | (go_at_call 131; refine (Values_any _ _ _ _ _ h).mono ?_; rintro e w' ⟨rfl, rfl⟩) | (go_at_call 56; refine (Shape_any _ _ _).mono ?_; rintro e w' ⟨rfl, rfl⟩))
      clear hs hv
      go_loopw [10, 11] (fun ov iv wr => ∃ (k : Nat) (V : Value), iv = .int .i64 k ∧ V = ov ∧ k ≤ n ∧ wr.ownsRow w.heap.size 3 1 V k (ivs .i64 (tab k (reAt num den xs))) ∧ Hid (valsB (tab k (reAt num den xs)) = true) ∧ Below w.heap.size w wr) (fun _ iv _ => n - (intOf iv).toNat)
      case atStart => exact ⟨0, _, rfl, rfl, Nat.zero_le _, World.ownsRow_nil _ _ _ _, rfl, Below.refl _ _⟩
      case round =>
        obtain ⟨k, V, rfl, rfl, hkn, hown, hvk, hbel⟩ := hrel
        have hr := h.below hbel
        rcases Nat.lt_or_ge k n with hlt | hge
        · obtain ⟨ad, x, rfl, hcx, hx⟩ := hr.at_ hlt
          have hxb := allB_get hall.out (by rw [hl.out]; exact hlt) hx.out
          have hx1 := hxb.1
          have hx2 := hxb.2
          clear hxb
          rcases Nat.eq_zero_or_pos k with hk0 | hk0
          · subst hk0
            have hcx0 : wr.cell? ad = some (.int .i64 x) := hcx
            have hy := Lib.hid (show x = reAt num den xs 0 by
              show _ = xs.getD 0 0 + rnd (num * 0) den
              rw [Int.mul_zero, rnd_zero hd1, hx.out]; omega)
            have hvs := Lib.hid (vals_snoc hvk.out (by rw [← hy.out]; exact ⟨hx1, hx2⟩))
            have g1 : decide (x < -2147483647) = false := by simp; omega
            have g2 : decide (2147483647 < x) = false := by simp; omega
            go_wp2_with (at_builtin; refine wpList_append_own _ rfl (.tmp 74) (.tmp 76) 28 rfl w.heap.size 3 i0 (.int .i64 0) 1 8 Tryz.underlying28 hi hz0 hz1 hz2 rfl (by decide) V 0 (ivs .i64 (tab 0 (reAt num den xs))) rfl (hown.alloc _) ⟨wr.heap.size, 0, none⟩ 1 1 [.int .i64 (x)] rfl rfl (news_one _ _ _) (oneCell1 _) ?ha3 ?ha4 ?ha5 ?_)
            case ha3 => unfold maxLen; omega
            case ha4 => omega
            case ha5 => have := hbel.size; simp; omega
            intro v1 w5 hown5 hg5 _
            have hown6 : w5.ownsRow w.heap.size 3 1 v1 (0 + 1) (ivs .i64 (tab (0 + 1) (reAt num den xs))) := by rw [tab_succ, ivs_snoc, ← hy.out]; exact hown5
            have hb5 : Below w.heap.size w w5 := (hbel.alloc hbel.size _).grown hg5 (by have := hbel.size; simp; omega) (fun q hq => (hown.lt q hq).1)
            clear hown5
            go_wp2
            go_roundw
            case rel => exact ⟨0 + 1, v1, by go_num, rfl, by omega, hown6, hvs.out, hb5⟩
            case measure => simp [intOf]; omega
          · have hk1 : ((k : Int) - 1).toNat = k - 1 := by omega
            have hk2 : 0 ≤ (k : Int) - 1 := by omega
            have hk3 : 0 < (k : Int) := by omega
            have hk4 : (k : Int) - 1 < (n : Int) := by omega
            obtain ⟨go, co, rfl, hco, hcp⟩ := own_cell hown (j := k - 1) (by omega)
            rw [tab_getD (by omega)] at hcp
            have hpb : -2147483647 ≤ reAt num den xs (k - 1) ∧ reAt num den xs (k - 1) ≤ 2147483647 := by
              have := allB_get (xs := tab k (reAt num den xs)) hvk.out (by rw [tab_len]; omega : k - 1 < (tab k (reAt num den xs)).length) (tab_getD (by omega : k - 1 < k))
              exact this
            generalize hp : reAt num den xs (k - 1) = p at *
            have hp' := Lib.hid hp
            clear hp
            have hk5 : (k : Int) - 1 < (k : Int) := by omega
            have hy : Hid (x + rnd (num * p) den = reAt num den xs k) := by show _ = _; rw [reAt_prev num den xs k, prev_pos hk0, hx.out, hp'.out]
            have hp1 := hpb.1
            have hp2 := hpb.2
            have hm := mul_bd hn1 (show num ≤ 1024 by omega) hp1 hp2 (by omega)
            have hm1 := hm.1
            have hm2 := hm.2
            have hq := rnd_part hn1 hn2 hd1 hp1 hp2
            have hq1 := hq.1
            have hq2 := hq.2
            clear hpb hm hq
            by_cases hr1 : -2147483647 ≤ x + rnd (num * p) den
            · have g1 : decide (x + rnd (num * p) den < -2147483647) = false := by simp; omega
              by_cases hr2 : x + rnd (num * p) den ≤ 2147483647
              · have g2 : decide (2147483647 < x + rnd (num * p) den) = false := by simp; omega
                have hvs := Lib.hid (vals_snoc hvk.out (by rw [← hy.out]; exact ⟨hr1, hr2⟩))
                go_wp2_with fail
                refine (Round_any _ _ _ (by omega) (by omega) hd1 (by omega)).mono ?_
                rintro e w' ⟨rfl, rfl⟩
                go_wp2_with (at_builtin; refine wpList_append_own _ rfl (.tmp 74) (.tmp 76) 28 rfl w.heap.size 3 i0 (.int .i64 0) 1 8 Tryz.underlying28 hi hz0 hz1 hz2 rfl (by decide) _ k (ivs .i64 (tab k (reAt num den xs))) rfl (hown.alloc _) ⟨wr.heap.size, 0, none⟩ 1 1 [.int .i64 (x + rnd (num * p) den)] rfl rfl (news_one _ _ _) (oneCell1 _) ?hb3 ?hb4 ?hb5 ?_)
                case hb3 => unfold maxLen; omega
                case hb4 => omega
                case hb5 => have := hbel.size; simp; omega
                intro v1 w5 hown5 hg5 _
                have hown6 : w5.ownsRow w.heap.size 3 1 v1 (k + 1) (ivs .i64 (tab (k + 1) (reAt num den xs))) := by rw [tab_succ, ivs_snoc, ← hy.out]; exact hown5
                have hb5 : Below w.heap.size w w5 := (hbel.alloc hbel.size _).grown hg5 (by have := hbel.size; simp; omega) (fun q hq => (hown.lt q hq).1)
                clear hown5
                go_wp2
                go_roundw
                case rel => exact ⟨k + 1, v1, by go_num, rfl, by omega, hown6, hvs.out, hb5⟩
                case measure => simp [intOf]; omega
              · have g2 : 2147483647 < x + rnd (num * p) den := by omega
                have hvn := Lib.hid (vals_no (n := n) (k := k) (f := reAt num den xs) hlt (by rw [← hy.out]; omega))
                go_wp2_with fail
                refine (Round_any _ _ _ (by omega) (by omega) hd1 (by omega)).mono ?_
                rintro e w' ⟨rfl, rfl⟩
                go_wp2
                go_ret2
                exact ⟨none, 0, 0, by rw [hC.out, oC_no hvn.out]; rfl, by rw [hL.out, oL_no hvn.out]; exact Sl.nil _ _, hbel⟩
            · have g2 : x + rnd (num * p) den < -2147483647 := by omega
              have hvn := Lib.hid (vals_no (n := n) (k := k) (f := reAt num den xs) hlt (by rw [← hy.out]; omega))
              go_wp2_with fail
              refine (Round_any _ _ _ (by omega) (by omega) hd1 (by omega)).mono ?_
              rintro e w' ⟨rfl, rfl⟩
              go_wp2
              go_ret2
              exact ⟨none, 0, 0, by rw [hC.out, oC_no hvn.out]; rfl, by rw [hL.out, oL_no hvn.out]; exact Sl.nil _ _, hbel⟩
        · have hkn' : k = n := by omega
          subst hkn'
          obtain ⟨A2, c2, rfl, hS2⟩ := Sl.of_own hown
          go_wp2
          go_ret2
          exact ⟨A2, _, c2, by rw [hC.out, oC_yes hvk.out]; rfl, by rw [hL.out, oL_yes hvk.out]; exact hS2, hbel⟩
  · rw [hl.out] at hn
    have hv : valsB xs = false := hall
    have hC := Lib.hid (show emC true xs num den = 2 by unfold emC chkE chkV_w; rw [hk]; rfl)
    have hL := Lib.hid (show emL true xs num den = [] by unfold emL chkE chkV_w; rw [hk]; rfl)
    clear hk hall
    go_enter Tryz.func61, Tryz.ntmps61
    go_wp2_with (go_at_call 131; refine (Values_any _ _ _ _ _ h).mono ?_; rintro e w' ⟨rfl, rfl⟩)
    go_ret2
    exact ⟨none, 0, 0, by rw [hC.out]; rfl, by rw [hL.out]; exact Sl.nil _ _, Below.refl _ _⟩
end Go.Proofs.YtoljffghaklpdaaGreatDoor


/- The document's own windows. -/
namespace Go.Proofs.YtoljffghaklpdaaGreatDoor
open Go.RowKit

def RetLB (w : World) (ys : List Int) (b : Bool) (e : Ending) (w' : World) : Prop :=
  ∃ A m c, e = .returned (.tuple #[.slice A m c, .bool b]) ∧ Sl .i64 w' A m c ys ∧ Below w.heap.size w w'

theorem RWindow_bad (kind size : Int) (w : World) (hb : wnC kind size = 2) : Calls Tryz.prog 59 #[.int .i64 kind, .int .i64 size] w (RetLB w [] false) := by
  have hc : ¬ (1 ≤ size ∧ size ≤ 4096 ∧ 1 ≤ kind ∧ kind ≤ 3) := fun ⟨h1, h2, h3, h4⟩ => by
    unfold wnC at hb
    rw [okB_mk h1 h2, okB_mk h3 h4] at hb
    cases hb
  clear hb
  by_cases h1 : size < 1
  · go_enter Tryz.func59, Tryz.ntmps59
    go_wp2
    go_ret2
    exact ⟨none, 0, 0, rfl, Sl.nil _ _, Below.refl _ _⟩
  · have d1 : decide (size < 1) = false := decide_eq_false h1
    by_cases h2 : 4096 < size
    · clear hc
      go_enter Tryz.func59, Tryz.ntmps59
      go_wp2
      go_ret2
      exact ⟨none, 0, 0, rfl, Sl.nil _ _, Below.refl _ _⟩
    · have d2 : decide (4096 < size) = false := decide_eq_false h2
      by_cases h3 : kind < 1
      · clear hc
        go_enter Tryz.func59, Tryz.ntmps59
        go_wp2
        go_ret2
        exact ⟨none, 0, 0, rfl, Sl.nil _ _, Below.refl _ _⟩
      · have d3 : decide (kind < 1) = false := decide_eq_false h3
        have h4 : 3 < kind := by omega
        clear hc
        go_enter Tryz.func59, Tryz.ntmps59
        go_wp2
        go_ret2
        exact ⟨none, 0, 0, rfl, Sl.nil _ _, Below.refl _ _⟩

set_option maxHeartbeats 4000000 in
set_option maxRecDepth 100000 in
theorem RWindow_1 (n : Nat) (w : World) (hn1 : 1 ≤ n) (hn2 : n ≤ 4096) : Calls Tryz.prog 59 #[.int .i64 1, .int .i64 (n : Int)] w (RetLB w (tab n (wAt 1 n)) true) := by
  obtain ⟨i0, hi, hz0, hz1, hz2⟩ := info_parts info_int
  have g1 : decide ((n : Int) < 1) = false := by simp; omega
  have g2 : decide (4096 < (n : Int)) = false := by simp; omega
  go_enter Tryz.func59, Tryz.ntmps59
  go_wp2
  clear g1 g2
  go_loopw [6, 7] (fun ov iv wr => ∃ (k : Nat) (V : Value), iv = .int .i64 k ∧ V = ov ∧ k ≤ n ∧ wr.ownsRow w.heap.size 3 1 V k (ivs .i64 (tab k (wAt 1 n))) ∧ Below w.heap.size w wr) (fun _ iv _ => n - (intOf iv).toNat)
  case atStart => exact ⟨0, _, rfl, rfl, Nat.zero_le _, World.ownsRow_nil _ _ _ _, Below.refl _ _⟩
  case round =>
    obtain ⟨k, V, rfl, rfl, hkn, hown, hbel⟩ := hrel
    rcases Nat.lt_or_ge k n with hlt | hge
    · have hy := Lib.hid (show 4096 = wAt 1 n k from rfl)
      go_wp2_with (at_builtin; refine wpList_append_own _ rfl (.tmp 65) (.tmp 67) 28 rfl w.heap.size 3 i0 (.int .i64 0) 1 8 Tryz.underlying28 hi hz0 hz1 hz2 rfl (by decide) V k (ivs .i64 (tab k (wAt 1 n))) rfl (hown.alloc _) ⟨wr.heap.size, 0, none⟩ 1 1 [.int .i64 (4096)] rfl rfl (news_one _ _ _) (oneCell1 _) ?ha3 ?ha4 ?ha5 ?_)
      case ha3 => unfold maxLen; omega
      case ha4 => omega
      case ha5 => have := hbel.size; simp; omega
      intro v1 w5 hown5 hg5 _
      have hown6 : w5.ownsRow w.heap.size 3 1 v1 (k + 1) (ivs .i64 (tab (k + 1) (wAt 1 n))) := by rw [tab_succ, ivs_snoc, ← hy.out]; exact hown5
      have hb5 : Below w.heap.size w w5 := (hbel.alloc hbel.size _).grown hg5 (by have := hbel.size; simp; omega) (fun q hq => (hown.lt q hq).1)
      clear hown5
      go_wp2
      go_roundw
      case rel => exact ⟨k + 1, v1, by go_num, rfl, by omega, hown6, hb5⟩
      case measure => simp [intOf]; omega
    · have hkn' : k = n := by omega
      subst hkn'
      obtain ⟨A2, c2, rfl, hS2⟩ := Sl.of_own hown
      go_wp2
      go_ret2
      exact ⟨A2, _, c2, rfl, hS2, hbel⟩

set_option maxHeartbeats 4000000 in
set_option maxRecDepth 100000 in
theorem RWindow_2 (n : Nat) (w : World) (hn1 : 1 ≤ n) (hn2 : n ≤ 4096) : Calls Tryz.prog 59 #[.int .i64 2, .int .i64 (n : Int)] w (RetLB w (tab n (wAt 2 n)) true) := by
  obtain ⟨i0, hi, hz0, hz1, hz2⟩ := info_parts info_int
  have g1 : decide ((n : Int) < 1) = false := by simp; omega
  have g2 : decide (4096 < (n : Int)) = false := by simp; omega
  go_enter Tryz.func59, Tryz.ntmps59
  go_wp2
  clear g1 g2
  go_loopw [6, 7] (fun ov iv wr => ∃ (k : Nat) (V : Value), iv = .int .i64 k ∧ V = ov ∧ k ≤ n ∧ wr.ownsRow w.heap.size 3 1 V k (ivs .i64 (tab k (wAt 2 n))) ∧ Below w.heap.size w wr) (fun _ iv _ => n - (intOf iv).toNat)
  case atStart => exact ⟨0, _, rfl, rfl, Nat.zero_le _, World.ownsRow_nil _ _ _ _, Below.refl _ _⟩
  case round =>
    obtain ⟨k, V, rfl, rfl, hkn, hown, hbel⟩ := hrel
    rcases Nat.lt_or_ge k n with hlt | hge
    · have hy := Lib.hid (show wTri (2 * (k : Int) - ((n : Int) - 1)) ((n : Int) + 1) = wAt 2 n k from rfl)
      have hd1 : -((n : Int) + 1) ≤ 2 * (k : Int) - ((n : Int) - 1) := by omega
      have hd2 : 2 * (k : Int) - ((n : Int) - 1) ≤ (n : Int) + 1 := by omega
      rcases (show 0 ≤ 2 * (k : Int) - ((n : Int) - 1) ∨ 2 * (k : Int) - ((n : Int) - 1) < 0 by omega) with hp | hp
      · go_wp2_with fail
        refine (Round_any _ _ _ (by omega) (by omega) (by omega) (by omega)).mono ?_
        rintro e w' ⟨rfl, rfl⟩
        first
          | rw [show rnd (4096 * ((n : Int) + 1 - max (2 * (k : Int) - ((n : Int) - 1)) (-(2 * (k : Int) - ((n : Int) - 1))))) ((n : Int) + 1) = wTri (2 * (k : Int) - ((n : Int) - 1)) ((n : Int) + 1) from rfl]
          | rw [show rnd (4096 * ((n : Int) + 1 - (2 * (k : Int) - ((n : Int) - 1)))) ((n : Int) + 1) = wTri (2 * (k : Int) - ((n : Int) - 1)) ((n : Int) + 1) by unfold wTri; congr 2; omega]
        go_wp2_with (at_builtin; refine wpList_append_own _ rfl (.tmp 65) (.tmp 67) 28 rfl w.heap.size 3 i0 (.int .i64 0) 1 8 Tryz.underlying28 hi hz0 hz1 hz2 rfl (by decide) V k (ivs .i64 (tab k (wAt 2 n))) rfl (hown.alloc _) ⟨wr.heap.size, 0, none⟩ 1 1 [.int .i64 (wTri (2 * (k : Int) - ((n : Int) - 1)) ((n : Int) + 1))] rfl rfl (news_one _ _ _) (oneCell1 _) ?ha3 ?ha4 ?ha5 ?_)
        case ha3 => unfold maxLen; omega
        case ha4 => omega
        case ha5 => have := hbel.size; simp; omega
        intro v1 w5 hown5 hg5 _
        have hown6 : w5.ownsRow w.heap.size 3 1 v1 (k + 1) (ivs .i64 (tab (k + 1) (wAt 2 n))) := by rw [tab_succ, ivs_snoc, ← hy.out]; exact hown5
        have hb5 : Below w.heap.size w w5 := (hbel.alloc hbel.size _).grown hg5 (by have := hbel.size; simp; omega) (fun q hq => (hown.lt q hq).1)
        clear hown5
        go_wp2
        go_roundw
        case rel => exact ⟨k + 1, v1, by go_num, rfl, by omega, hown6, hb5⟩
        case measure => simp [intOf]; omega
      · go_wp2_with fail
        refine (Round_any _ _ _ (by omega) (by omega) (by omega) (by omega)).mono ?_
        rintro e w' ⟨rfl, rfl⟩
        first
          | rw [show rnd (4096 * ((n : Int) + 1 - max (2 * (k : Int) - ((n : Int) - 1)) (-(2 * (k : Int) - ((n : Int) - 1))))) ((n : Int) + 1) = wTri (2 * (k : Int) - ((n : Int) - 1)) ((n : Int) + 1) from rfl]
          | rw [show rnd (4096 * ((n : Int) + 1 + (2 * (k : Int) - ((n : Int) - 1)))) ((n : Int) + 1) = wTri (2 * (k : Int) - ((n : Int) - 1)) ((n : Int) + 1) by unfold wTri; congr 2; omega]
        go_wp2_with (at_builtin; refine wpList_append_own _ rfl (.tmp 65) (.tmp 67) 28 rfl w.heap.size 3 i0 (.int .i64 0) 1 8 Tryz.underlying28 hi hz0 hz1 hz2 rfl (by decide) V k (ivs .i64 (tab k (wAt 2 n))) rfl (hown.alloc _) ⟨wr.heap.size, 0, none⟩ 1 1 [.int .i64 (wTri (2 * (k : Int) - ((n : Int) - 1)) ((n : Int) + 1))] rfl rfl (news_one _ _ _) (oneCell1 _) ?hb3 ?hb4 ?hb5 ?_)
        case hb3 => unfold maxLen; omega
        case hb4 => omega
        case hb5 => have := hbel.size; simp; omega
        intro v1 w5 hown5 hg5 _
        have hown6 : w5.ownsRow w.heap.size 3 1 v1 (k + 1) (ivs .i64 (tab (k + 1) (wAt 2 n))) := by rw [tab_succ, ivs_snoc, ← hy.out]; exact hown5
        have hb5 : Below w.heap.size w w5 := (hbel.alloc hbel.size _).grown hg5 (by have := hbel.size; simp; omega) (fun q hq => (hown.lt q hq).1)
        clear hown5
        go_wp2
        go_roundw
        case rel => exact ⟨k + 1, v1, by go_num, rfl, by omega, hown6, hb5⟩
        case measure => simp [intOf]; omega
    · have hkn' : k = n := by omega
      subst hkn'
      obtain ⟨A2, c2, rfl, hS2⟩ := Sl.of_own hown
      go_wp2
      go_ret2
      exact ⟨A2, _, c2, rfl, hS2, hbel⟩

set_option maxHeartbeats 4000000 in
set_option maxRecDepth 100000 in
theorem RWindow_3 (n : Nat) (w : World) (hn1 : 1 ≤ n) (hn2 : n ≤ 4096) : Calls Tryz.prog 59 #[.int .i64 3, .int .i64 (n : Int)] w (RetLB w (tab n (wAt 3 n)) true) := by
  obtain ⟨i0, hi, hz0, hz1, hz2⟩ := info_parts info_int
  have g1 : decide ((n : Int) < 1) = false := by simp; omega
  have g2 : decide (4096 < (n : Int)) = false := by simp; omega
  go_enter Tryz.func59, Tryz.ntmps59
  go_wp2
  clear g1 g2
  go_loopw [6, 7] (fun ov iv wr => ∃ (k : Nat) (V : Value), iv = .int .i64 k ∧ V = ov ∧ k ≤ n ∧ wr.ownsRow w.heap.size 3 1 V k (ivs .i64 (tab k (wAt 3 n))) ∧ Below w.heap.size w wr) (fun _ iv _ => n - (intOf iv).toNat)
  case atStart => exact ⟨0, _, rfl, rfl, Nat.zero_le _, World.ownsRow_nil _ _ _ _, Below.refl _ _⟩
  case round =>
    obtain ⟨k, V, rfl, rfl, hkn, hown, hbel⟩ := hrel
    rcases Nat.lt_or_ge k n with hlt | hge
    · have hy := Lib.hid (show wWel (2 * (k : Int) - ((n : Int) - 1)) ((n : Int) + 1) = wAt 3 n k from rfl)
      have hd1 : -((n : Int) + 1) ≤ 2 * (k : Int) - ((n : Int) - 1) := by omega
      have hd2 : 2 * (k : Int) - ((n : Int) - 1) ≤ (n : Int) + 1 := by omega
      have q1 := sq_bd (m := 5000) (x := 2 * (k : Int) - ((n : Int) - 1)) (by omega) (by omega)
      have q2 := (sq_bd (m := 5000) (x := (n : Int) + 1) (by omega) (by omega)).2
      have q3 := (sq_bd (m := (n : Int) + 1) (x := 2 * (k : Int) - ((n : Int) - 1)) hd1 hd2).2
      have q4 : 1 * 1 ≤ ((n : Int) + 1) * ((n : Int) + 1) := Int.mul_le_mul (by omega) (by omega) (by omega) (by omega)
      have q5 := q1.1
      have q6 := q1.2
      clear q1
      go_wp2_with fail
      refine (Round_any _ _ _ (by omega) (by omega) (by omega) (by omega)).mono ?_
      rintro e w' ⟨rfl, rfl⟩
      rw [show rnd (4096 * (((n : Int) + 1) * ((n : Int) + 1) - (2 * (k : Int) - ((n : Int) - 1)) * (2 * (k : Int) - ((n : Int) - 1)))) (((n : Int) + 1) * ((n : Int) + 1)) = wWel (2 * (k : Int) - ((n : Int) - 1)) ((n : Int) + 1) from rfl]
      clear q2 q3 q4 q5 q6
      go_wp2_with (at_builtin; refine wpList_append_own _ rfl (.tmp 65) (.tmp 67) 28 rfl w.heap.size 3 i0 (.int .i64 0) 1 8 Tryz.underlying28 hi hz0 hz1 hz2 rfl (by decide) V k (ivs .i64 (tab k (wAt 3 n))) rfl (hown.alloc _) ⟨wr.heap.size, 0, none⟩ 1 1 [.int .i64 (wWel (2 * (k : Int) - ((n : Int) - 1)) ((n : Int) + 1))] rfl rfl (news_one _ _ _) (oneCell1 _) ?ha3 ?ha4 ?ha5 ?_)
      case ha3 => unfold maxLen; omega
      case ha4 => omega
      case ha5 => have := hbel.size; simp; omega
      intro v1 w5 hown5 hg5 _
      have hown6 : w5.ownsRow w.heap.size 3 1 v1 (k + 1) (ivs .i64 (tab (k + 1) (wAt 3 n))) := by rw [tab_succ, ivs_snoc, ← hy.out]; exact hown5
      have hb5 : Below w.heap.size w w5 := (hbel.alloc hbel.size _).grown hg5 (by have := hbel.size; simp; omega) (fun q hq => (hown.lt q hq).1)
      clear hown5
      go_wp2
      go_roundw
      case rel => exact ⟨k + 1, v1, by go_num, rfl, by omega, hown6, hb5⟩
      case measure => simp [intOf]; omega
    · have hkn' : k = n := by omega
      subst hkn'
      obtain ⟨A2, c2, rfl, hS2⟩ := Sl.of_own hown
      go_wp2
      go_ret2
      exact ⟨A2, _, c2, rfl, hS2, hbel⟩

/-- what the document's Window returns -/
theorem RWindow_any (kind size : Int) (w : World) : Calls Tryz.prog 59 #[.int .i64 kind, .int .i64 size] w (RetLB w (wnL kind size) (decide (wnC kind size = 0))) := by
  rcases wn_cases kind size with ⟨h1, h2⟩ | ⟨h1, h2, h3, h4, h5, h6⟩
  · rw [h1, h2]; exact RWindow_bad kind size w h1
  · rw [h5, h6]
    obtain ⟨n, rfl⟩ : ∃ n : Nat, size = (n : Int) := ⟨size.toNat, by omega⟩
    rcases (show kind = 1 ∨ kind = 2 ∨ kind = 3 by omega) with rfl | rfl | rfl
    · exact RWindow_1 n w (by omega) (by omega)
    · exact RWindow_2 n w (by omega) (by omega)
    · exact RWindow_3 n w (by omega) (by omega)
end Go.Proofs.YtoljffghaklpdaaGreatDoor


/- The law of emphases: its walk. -/
namespace Go.Proofs.YtoljffghaklpdaaGreatDoor
open Go.RowKit

end Go.Proofs.YtoljffghaklpdaaGreatDoor


/- The document's own weighed frames. -/
namespace Go.Proofs.YtoljffghaklpdaaGreatDoor
open Go.RowKit

theorem sl_cell {w : World} {ad : Addr} {n c k : Nat} {xs : List Int} {x : Int} (h : Sl .i64 w (some ad) n c xs) (hk : k < n) (hx : xs.getD k 0 = x) : w.cell? (ad.add k) = some (.int .i64 x) := by
  obtain ⟨ad2, y, e, hc, hy⟩ := h.at_ hk
  injection e with e
  subst e
  rw [hc, ← hx, ← hy.out]

set_option maxHeartbeats 4000000 in
set_option maxRecDepth 100000 in
theorem RWeigh_ok (A : Option Addr) (n c : Nat) (xs : List Int) (kind : Int) (w : World) (h : Sl .i64 w A n c xs) (hn1 : 1 ≤ n) (hn2 : n ≤ 4096) (hk1 : 1 ≤ kind) (hk2 : kind ≤ 3) (hall : valsB xs = true)
    (hL : wnL kind n = tab n (wAt kind n)) (hC : wnC kind n = 0) :
    Calls Tryz.prog 63 #[.slice A n c, .int .i64 kind] w (RetLB w (tab n (fun i => rnd (xs.getD i 0 * wAt kind n i) 4096)) true) := by
  obtain ⟨i0, hi, hz0, hz1, hz2⟩ := info_parts info_int
  have hl := Lib.hid h.len
  have hcap := h.cap
  have htop := h.top
  have hL := Lib.hid hL
  have hC := Lib.hid hC
  have hall2 := Lib.hid hall
  go_enter Tryz.func63, Tryz.ntmps63
  go_wp2_with fail
  refine (RWindow_any _ _ _).mono ?_
  rintro e w1 ⟨A1, m1, c1, he, hW, hb1⟩
  rw [hC.out] at he
  rw [hL.out] at hW
  have hl1 := hW.len
  rw [tab_len] at hl1
  subst hl1
  subst he
  have h1 := h.below hb1
  go_wp2_with fail
  refine (Values_any _ _ _ _ _ h1).mono ?_
  rintro e w2 ⟨he, rfl⟩
  rw [hall2.out] at he
  subst he
  have hcw := hW.cap
  have htw := hW.top
  go_wp2
  go_loopw [8, 9] (fun ov iv wr => ∃ (k : Nat) (V : Value), iv = .int .i64 k ∧ V = ov ∧ k ≤ n ∧ wr.ownsRow w1.heap.size 3 1 V k (ivs .i64 (tab k (fun i => rnd (xs.getD i 0 * wAt kind n i) 4096))) ∧ Below w1.heap.size w1 wr) (fun _ iv _ => n - (intOf iv).toNat)
  case atStart => exact ⟨0, _, rfl, rfl, Nat.zero_le _, World.ownsRow_nil _ _ _ _, Below.refl _ _⟩
  case round =>
    obtain ⟨k, V, rfl, rfl, hkn, hown, hbel⟩ := hrel
    rcases Nat.lt_or_ge k n with hlt | hge
    · have hr := h1.below hbel
      have hWr := hW.below hbel
      obtain ⟨ad, x, rfl, hcx, hx⟩ := hr.at_ hlt
      obtain ⟨ad2, y, rfl, hcy, hy⟩ := hWr.at_ hlt
      rw [tab_getD hlt] at hy
      have hxb := allB_get (show allB (-2147483647) 2147483647 xs = true from hall2.out) (by rw [hl.out]; exact hlt) hx.out
      have hx1 := hxb.1
      have hx2 := hxb.2
      have hyb := wAt_bd hk1 hk2 hlt
      rw [hy.out] at hyb
      have hy1 := hyb.1
      have hy2 := hyb.2
      have hp := mul_bd (a := y) (b := x) (m := 4096) (q := 2147483647) hy1 hy2 hx1 hx2 (by omega)
      rw [Int.mul_comm y x] at hp
      have hp1 := hp.1
      have hp2 := hp.2
      have hyv := Lib.hid (show rnd (x * y) 4096 = rnd (xs.getD k 0 * wAt kind n k) 4096 by rw [hx.out, hy.out])
      clear hxb hyb hp
      go_wp2
      have i1 : (k : Int) < (n : Int) := by omega
      have e1 : IntKind.i64.wrap (x * y) = x * y := IntWalk.i64_in _ (by omega)
      have hKeep := Lib.hid (fun (wx : World) (hb : Below w1.heap.size w1 wx) => show wx.cell? (ad.add k) = some (.int .i64 x) ∧ wx.cell? (ad2.add k) = some (.int .i64 y) from ⟨sl_cell (h1.below hb) hlt hx.out, sl_cell (hW.below hb) hlt ((tab_getD hlt).trans hy.out)⟩)
      have hown2 : wr.drew.ownsRow w1.heap.size 3 1 V k (ivs .i64 (tab k (fun i => rnd (xs.getD i 0 * wAt kind n i) 4096))) := hown
      have hbel2 : Below w1.heap.size w1 wr.drew := bel_drewN hbel 1
      have hsz2 : w1.heap.size ≤ wr.drew.heap.size := hbel2.size
      have hsz3 : w1.heap.size ≤ wr.heap.size := hbel.size
      have hrow := Lib.hid (fun k (hk : V.ownBlock = some k) => (hown2.lt k hk).1)
      go_region_held3 (fun wx => wx.cell? (ad.add k) = some (.int .i64 x) ∧ wx.cell? (ad2.add k) = some (.int .i64 y)) (first | exact hKeep.out _ hbel2 | exact hKeep.out _ (hbel2.alloc hsz2 _) | exact hKeep.out _ hb5 | exact hKeep.out _ hbel | go_keep)
        (first
          | (go_at_call 130; refine (Round_any _ _ _ (by omega) (by omega) (by omega) (by omega)).mono ?_; rintro e w' ⟨rfl, rfl⟩)
          | (refine step_append_lies _ (by rfl) _ _ _ (by rfl) w1.heap.size 3 i0 (.int .i64 0) 1 8 Tryz.underlying28 hi hz0 hz1 hz2 (by rfl) (by decide) V k (ivs .i64 (tab k (fun i => rnd (xs.getD i 0 * wAt kind n i) 4096))) (by rfl) (hown2.alloc _) ⟨wr.heap.size, 0, none⟩ 1 1 [.int .i64 (rnd (x * y) 4096)] (by rfl) (by rfl) (news_one _ _ _) (oneCell1 _) (by omega) (by unfold maxLen; omega) (by omega) (by simp; omega) _ rfl ?_; intro g cap w5 hown5 hgrow hat hlt5; have hb5 : Below w1.heap.size w1 w5 := (hbel2.alloc hsz2 _).grown hgrow (by simp; omega) hrow.out))
      have hown6 : w5.ownsRow w1.heap.size 3 1 (.slice (some ⟨g, 0, none⟩) (k + 1) cap) (k + 1) (ivs .i64 (tab (k + 1) (fun i => rnd (xs.getD i 0 * wAt kind n i) 4096))) := by rw [tab_succ, ivs_snoc, ← hyv.out]; exact hown5
      clear e1 i1 hown5
      go_wp2
      go_roundw
      case rel => exact ⟨k + 1, _, by go_num, rfl, by omega, hown6, hb5⟩
      case measure => simp [intOf]; omega
    · have hkn' : k = n := by omega
      subst hkn'
      obtain ⟨A2, c2, rfl, hS2⟩ := Sl.of_own hown
      go_wp2
      go_ret2
      exact ⟨A2, _, c2, rfl, hS2, hb1.trans (hbel.mono hb1.size)⟩
end Go.Proofs.YtoljffghaklpdaaGreatDoor
