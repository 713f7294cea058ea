/- The document's own emphasis. -/
import Derived.Test.YtobobbhifajhmaaF0
import Derived.Test.YtobobbhifajhmaaE0
namespace Go.Proofs.Ytobobbhifajhmaa
open Go.RowKit

theorem vals_no {n k : Nat} {f : Nat → Int} (hk : k < n) (h : ¬ (-2147483647 ≤ f k ∧ f k ≤ 2147483647)) : valsB (tab n f) = false := by
  refine allB_no (k := k) (x := f k) (by rw [tab_len]; exact hk) (tab_getD hk) ?_
  cases hb : okB (-2147483647) 2147483647 (f k) with
  | false => rfl
  | true => exact absurd (okB_iff.1 hb) h
theorem vals_snoc {k : Nat} {f : Nat → Int} (h : valsB (tab k f) = true) (h2 : -2147483647 ≤ f k ∧ f k ≤ 2147483647) : valsB (tab (k + 1) f) = true := by
  unfold valsB at h ⊢
  rw [tab_succ, allB_snoc, h, okB_mk h2.1 h2.2]; rfl
theorem own_cell {w : World} {base e : Nat} {v : Value} {n : Nat} {xs : List Int} (h : w.ownsRow base e 1 v n (ivs .i64 xs)) {j : Nat} (hj : j < n) : ∃ g cap, v = .slice (some ⟨g, 0, none⟩) n cap ∧ n ≤ cap ∧ w.cell? ⟨g, j, none⟩ = some (.int .i64 (xs.getD j 0)) := by
  have hl := h.1
  rw [ivs_len] at hl
  rcases h.2 with ⟨_, h0⟩ | ⟨g, cap, cur, rfl, _, _, h5, _⟩
  · omega
  · refine ⟨g, cap, rfl, h5, ?_⟩
    rw [h.cellAt j (by omega), getD_in (by omega)]
    simp [ivs, show j < xs.length by omega]
theorem prev_pos {f : Nat → Int} {k : Nat} (h : 0 < k) : prev f k = f (k - 1) := by
  cases k with
  | zero => omega
  | succ j => rfl
theorem oneCell1 (y : Int) : ∀ u ∈ ([.int .i64 y] : List Value), u.oneCell' = true := by
  intro u hu
  simp at hu
  subst hu
  rfl
theorem news_one (w : World) (t : TypeId) (y : Value) : ∀ j u, ([y] : List Value)[j]? = some u → (w.alloc (.cells #[y] t)).cell? ((⟨w.heap.size, 0, none⟩ : Addr).add j) = some u := by
  intro j u hu
  rw [add_new, (Blk.new w t #[y]).cell j]
  simpa using hu

set_option maxHeartbeats 4000000 in
set_option maxRecDepth 100000 in
theorem Emphasis_false (A : Option Addr) (n c : Nat) (xs : List Int) (num den : Int) (w : World) (h : Sl .i64 w A n c xs) :
    Calls Try.prog 36 #[.slice A n c, .int .i64 num, .int .i64 den, .bool false] w (RetL2 .i64 w (emL false xs num den) (emC false xs num den)) := by
  have hl := Lib.hid h.len
  have hcap := h.cap
  have htop := h.top
  rcases chk_cases (-2147483647) 2147483647 xs with ⟨hn, hk⟩ | ⟨hn, hall, hk⟩ | ⟨hn, hall, hk⟩
  · have hC := Lib.hid (show emC false xs num den = 5 by unfold emC chkE chkV; rw [hk]; rfl)
    have hL := Lib.hid (show emL false xs num den = [] by unfold emL chkE chkV; rw [hk]; rfl)
    rw [hl.out] at hn
    clear hk
    go_enter Try.func36, Try.ntmps36
    go_wp2
    go_ret2
    exact ⟨none, 0, 0, by rw [hC.out]; rfl, by rw [hL.out]; exact Sl.nil _ _, Below.refl _ _⟩
  · rw [hl.out] at hn
    have hv : valsB xs = true := hall
    cases hs : shpB num den with
    | false =>
      have hC := Lib.hid (show emC false xs num den = 2 by unfold emC chkE chkV; rw [hk]; unfold shpB at hs; rw [hs]; rfl)
      have hL := Lib.hid (show emL false xs num den = [] by unfold emL chkE chkV; rw [hk]; unfold shpB at hs; rw [hs]; rfl)
      clear hk hall
      go_enter Try.func36, Try.ntmps36
      go_wp2_with (first | (go_at_call 40; refine (Values_any _ _ _ _ _ h).mono ?_; rintro e w' ⟨rfl, rfl⟩) | (go_at_call 79; refine (Shape_any _ _ _).mono ?_; rintro e w' ⟨rfl, rfl⟩))
      go_ret2
      exact ⟨none, 0, 0, by rw [hC.out]; rfl, by rw [hL.out]; exact Sl.nil _ _, Below.refl _ _⟩
    | true =>
      have hE : chkE xs num den = 0 := by unfold chkE chkV; rw [hk]; unfold shpB at hs; rw [hs]; rfl
      have hC := Lib.hid (show emC false xs num den = oC (tab n (emAt num den xs)) by unfold emC; rw [if_pos hE, hl.out]; rfl)
      have hL := Lib.hid (show emL false xs num den = oL (tab n (emAt num den xs)) by unfold emL; rw [if_pos hE, hl.out]; rfl)
      have hs2 := hs
      unfold shpB at hs2
      rw [Bool.and_eq_true, okB_iff, okB_iff] at hs2
      have hd1 := hs2.1.1
      have hd2 := hs2.1.2
      have hn1 := hs2.2.1
      have hn2 := hs2.2.2
      have hall := Lib.hid hall
      obtain ⟨i0, hi, hz0, hz1, hz2⟩ := info_parts info_int
      clear hk hs2 hE
      go_enter Try.func36, Try.ntmps36
      go_wp2_with (first | (go_at_call 40; refine (Values_any _ _ _ _ _ h).mono ?_; rintro e w' ⟨rfl, rfl⟩) | (go_at_call 79; refine (Shape_any _ _ _).mono ?_; rintro e w' ⟨rfl, rfl⟩))
      clear hs hv
      go_loopw [10, 11] (fun ov iv wr => ∃ (k : Nat) (V : Value), iv = .int .i64 k ∧ V = ov ∧ k ≤ n ∧ wr.ownsRow w.heap.size 3 1 V k (ivs .i64 (tab k (emAt num den xs))) ∧ Hid (valsB (tab k (emAt num den xs)) = true) ∧ Below w.heap.size w wr) (fun _ iv _ => n - (intOf iv).toNat)
      case atStart => exact ⟨0, _, rfl, rfl, Nat.zero_le _, World.ownsRow_nil _ _ _ _, rfl, Below.refl _ _⟩
      case round =>
        obtain ⟨k, V, rfl, rfl, hkn, hown, hvk, hbel⟩ := hrel
        have hr := h.below hbel
        rcases Nat.lt_or_ge k n with hlt | hge
        · obtain ⟨ad, x, rfl, hcx, hx⟩ := hr.at_ hlt
          have hxb := allB_get hall.out (by rw [hl.out]; exact hlt) hx.out
          have hx1 := hxb.1
          have hx2 := hxb.2
          clear hxb
          rcases Nat.eq_zero_or_pos k with hk0 | hk0
          · subst hk0
            have hcx0 : wr.cell? ad = some (.int .i64 x) := hcx
            have hy := Lib.hid (show x = emAt num den xs 0 by
              show _ = xs.getD 0 0 - rnd (num * 0) den
              rw [Int.mul_zero, rnd_zero hd1, hx.out]; omega)
            have hvs := Lib.hid (vals_snoc hvk.out (by rw [← hy.out]; exact ⟨hx1, hx2⟩))
            have g1 : decide (x < -2147483647) = false := by simp; omega
            have g2 : decide (2147483647 < x) = false := by simp; omega
            go_wp2_with (at_builtin; refine wpList_append_own _ rfl (.tmp 74) (.tmp 76) 22 rfl w.heap.size 3 i0 (.int .i64 0) 1 8 Try.underlying22 hi hz0 hz1 hz2 rfl (by decide) V 0 (ivs .i64 (tab 0 (emAt num den xs))) rfl (hown.alloc _) ⟨wr.heap.size, 0, none⟩ 1 1 [.int .i64 (x)] rfl rfl (news_one _ _ _) (oneCell1 _) ?ha3 ?ha4 ?ha5 ?_)
            case ha3 => unfold maxLen; omega
            case ha4 => omega
            case ha5 => have := hbel.size; simp; omega
            intro v1 w5 hown5 hg5 _
            have hown6 : w5.ownsRow w.heap.size 3 1 v1 (0 + 1) (ivs .i64 (tab (0 + 1) (emAt num den xs))) := by rw [tab_succ, ivs_snoc, ← hy.out]; exact hown5
            have hb5 : Below w.heap.size w w5 := (hbel.alloc hbel.size _).grown hg5 (by have := hbel.size; simp; omega) (fun q hq => (hown.lt q hq).1)
            clear hown5
            go_wp2
            go_roundw
            case rel => exact ⟨0 + 1, v1, by go_num, rfl, by omega, hown6, hvs.out, hb5⟩
            case measure => simp [intOf]; omega
          · have hk1 : ((k : Int) - 1).toNat = k - 1 := by omega
            have hk2 : 0 ≤ (k : Int) - 1 := by omega
            have hk3 : 0 < (k : Int) := by omega
            have hk4 : (k : Int) - 1 < (n : Int) := by omega
            obtain ⟨ad', p, he, hcp, hp⟩ := hr.at_ (j := k - 1) (by omega)
            injection he with he
            subst he
            have hpb := allB_get hall.out (by rw [hl.out]; omega) hp.out
            have hy : Hid (x - rnd (num * p) den = emAt num den xs k) := by show _ = _; unfold emAt; rw [prev_pos hk0, hx.out, hp.out]
            have hp1 := hpb.1
            have hp2 := hpb.2
            have hm := mul_bd hn1 (show num ≤ 1024 by omega) hp1 hp2 (by omega)
            have hm1 := hm.1
            have hm2 := hm.2
            have hq := rnd_part hn1 hn2 hd1 hp1 hp2
            have hq1 := hq.1
            have hq2 := hq.2
            clear hpb hm hq
            by_cases hr1 : -2147483647 ≤ x - rnd (num * p) den
            · have g1 : decide (x - rnd (num * p) den < -2147483647) = false := by simp; omega
              by_cases hr2 : x - rnd (num * p) den ≤ 2147483647
              · have g2 : decide (2147483647 < x - rnd (num * p) den) = false := by simp; omega
                have hvs := Lib.hid (vals_snoc hvk.out (by rw [← hy.out]; exact ⟨hr1, hr2⟩))
                go_wp2_with fail
                refine (Round_any _ _ _ (by omega) (by omega) hd1 (by omega)).mono ?_
                rintro e w' ⟨rfl, rfl⟩
                go_wp2_with (at_builtin; refine wpList_append_own _ rfl (.tmp 74) (.tmp 76) 22 rfl w.heap.size 3 i0 (.int .i64 0) 1 8 Try.underlying22 hi hz0 hz1 hz2 rfl (by decide) _ k (ivs .i64 (tab k (emAt num den xs))) rfl (hown.alloc _) ⟨wr.heap.size, 0, none⟩ 1 1 [.int .i64 (x - rnd (num * p) den)] rfl rfl (news_one _ _ _) (oneCell1 _) ?hb3 ?hb4 ?hb5 ?_)
                case hb3 => unfold maxLen; omega
                case hb4 => omega
                case hb5 => have := hbel.size; simp; omega
                intro v1 w5 hown5 hg5 _
                have hown6 : w5.ownsRow w.heap.size 3 1 v1 (k + 1) (ivs .i64 (tab (k + 1) (emAt num den xs))) := by rw [tab_succ, ivs_snoc, ← hy.out]; exact hown5
                have hb5 : Below w.heap.size w w5 := (hbel.alloc hbel.size _).grown hg5 (by have := hbel.size; simp; omega) (fun q hq => (hown.lt q hq).1)
                clear hown5
                go_wp2
                go_roundw
                case rel => exact ⟨k + 1, v1, by go_num, rfl, by omega, hown6, hvs.out, hb5⟩
                case measure => simp [intOf]; omega
              · have g2 : 2147483647 < x - rnd (num * p) den := by omega
                have hvn := Lib.hid (vals_no (n := n) (k := k) (f := emAt num den xs) hlt (by rw [← hy.out]; omega))
                go_wp2_with fail
                refine (Round_any _ _ _ (by omega) (by omega) hd1 (by omega)).mono ?_
                rintro e w' ⟨rfl, rfl⟩
                go_wp2
                go_ret2
                exact ⟨none, 0, 0, by rw [hC.out, oC_no hvn.out]; rfl, by rw [hL.out, oL_no hvn.out]; exact Sl.nil _ _, hbel⟩
            · have g2 : x - rnd (num * p) den < -2147483647 := by omega
              have hvn := Lib.hid (vals_no (n := n) (k := k) (f := emAt num den xs) hlt (by rw [← hy.out]; omega))
              go_wp2_with fail
              refine (Round_any _ _ _ (by omega) (by omega) hd1 (by omega)).mono ?_
              rintro e w' ⟨rfl, rfl⟩
              go_wp2
              go_ret2
              exact ⟨none, 0, 0, by rw [hC.out, oC_no hvn.out]; rfl, by rw [hL.out, oL_no hvn.out]; exact Sl.nil _ _, hbel⟩
        · have hkn' : k = n := by omega
          subst hkn'
          obtain ⟨A2, c2, rfl, hS2⟩ := Sl.of_own hown
          go_wp2
          go_ret2
          exact ⟨A2, _, c2, by rw [hC.out, oC_yes hvk.out]; rfl, by rw [hL.out, oL_yes hvk.out]; exact hS2, hbel⟩
  · rw [hl.out] at hn
    have hv : valsB xs = false := hall
    have hC := Lib.hid (show emC false xs num den = 2 by unfold emC chkE chkV; rw [hk]; rfl)
    have hL := Lib.hid (show emL false xs num den = [] by unfold emL chkE chkV; rw [hk]; rfl)
    clear hk hall
    go_enter Try.func36, Try.ntmps36
    go_wp2_with (go_at_call 40; refine (Values_any _ _ _ _ _ h).mono ?_; rintro e w' ⟨rfl, rfl⟩)
    go_ret2
    exact ⟨none, 0, 0, by rw [hC.out]; rfl, by rw [hL.out]; exact Sl.nil _ _, Below.refl _ _⟩

set_option maxHeartbeats 4000000 in
set_option maxRecDepth 100000 in
theorem Emphasis_true (A : Option Addr) (n c : Nat) (xs : List Int) (num den : Int) (w : World) (h : Sl .i64 w A n c xs) :
    Calls Try.prog 36 #[.slice A n c, .int .i64 num, .int .i64 den, .bool true] w (RetL2 .i64 w (emL true xs num den) (emC true xs num den)) := by
  have hl := Lib.hid h.len
  have hcap := h.cap
  have htop := h.top
  rcases chk_cases (-2147483647) 2147483647 xs with ⟨hn, hk⟩ | ⟨hn, hall, hk⟩ | ⟨hn, hall, hk⟩
  · have hC := Lib.hid (show emC true xs num den = 5 by unfold emC chkE chkV; rw [hk]; rfl)
    have hL := Lib.hid (show emL true xs num den = [] by unfold emL chkE chkV; rw [hk]; rfl)
    rw [hl.out] at hn
    clear hk
    go_enter Try.func36, Try.ntmps36
    go_wp2
    go_ret2
    exact ⟨none, 0, 0, by rw [hC.out]; rfl, by rw [hL.out]; exact Sl.nil _ _, Below.refl _ _⟩
  · rw [hl.out] at hn
    have hv : valsB xs = true := hall
    cases hs : shpB num den with
    | false =>
      have hC := Lib.hid (show emC true xs num den = 2 by unfold emC chkE chkV; rw [hk]; unfold shpB at hs; rw [hs]; rfl)
      have hL := Lib.hid (show emL true xs num den = [] by unfold emL chkE chkV; rw [hk]; unfold shpB at hs; rw [hs]; rfl)
      clear hk hall
      go_enter Try.func36, Try.ntmps36
      go_wp2_with (first | (go_at_call 40; refine (Values_any _ _ _ _ _ h).mono ?_; rintro e w' ⟨rfl, rfl⟩) | (go_at_call 79; refine (Shape_any _ _ _).mono ?_; rintro e w' ⟨rfl, rfl⟩))
      go_ret2
      exact ⟨none, 0, 0, by rw [hC.out]; rfl, by rw [hL.out]; exact Sl.nil _ _, Below.refl _ _⟩
    | true =>
      have hE : chkE xs num den = 0 := by unfold chkE chkV; rw [hk]; unfold shpB at hs; rw [hs]; rfl
      have hC := Lib.hid (show emC true xs num den = oC (tab n (reAt num den xs)) by unfold emC; rw [if_pos hE, hl.out]; rfl)
      have hL := Lib.hid (show emL true xs num den = oL (tab n (reAt num den xs)) by unfold emL; rw [if_pos hE, hl.out]; rfl)
      have hs2 := hs
      unfold shpB at hs2
      rw [Bool.and_eq_true, okB_iff, okB_iff] at hs2
      have hd1 := hs2.1.1
      have hd2 := hs2.1.2
      have hn1 := hs2.2.1
      have hn2 := hs2.2.2
      have hall := Lib.hid hall
      obtain ⟨i0, hi, hz0, hz1, hz2⟩ := info_parts info_int
      clear hk hs2 hE
      go_enter Try.func36, Try.ntmps36
      go_wp2_with (first | (go_at_call 40; refine (Values_any _ _ _ _ _ h).mono ?_; rintro e w' ⟨rfl, rfl⟩) | (go_at_call 79; refine (Shape_any _ _ _).mono ?_; rintro e w' ⟨rfl, rfl⟩))
      clear hs hv
      go_loopw [10, 11] (fun ov iv wr => ∃ (k : Nat) (V : Value), iv = .int .i64 k ∧ V = ov ∧ k ≤ n ∧ wr.ownsRow w.heap.size 3 1 V k (ivs .i64 (tab k (reAt num den xs))) ∧ Hid (valsB (tab k (reAt num den xs)) = true) ∧ Below w.heap.size w wr) (fun _ iv _ => n - (intOf iv).toNat)
      case atStart => exact ⟨0, _, rfl, rfl, Nat.zero_le _, World.ownsRow_nil _ _ _ _, rfl, Below.refl _ _⟩
      case round =>
        obtain ⟨k, V, rfl, rfl, hkn, hown, hvk, hbel⟩ := hrel
        have hr := h.below hbel
        rcases Nat.lt_or_ge k n with hlt | hge
        · obtain ⟨ad, x, rfl, hcx, hx⟩ := hr.at_ hlt
          have hxb := allB_get hall.out (by rw [hl.out]; exact hlt) hx.out
          have hx1 := hxb.1
          have hx2 := hxb.2
          clear hxb
          rcases Nat.eq_zero_or_pos k with hk0 | hk0
          · subst hk0
            have hcx0 : wr.cell? ad = some (.int .i64 x) := hcx
            have hy := Lib.hid (show x = reAt num den xs 0 by
              show _ = xs.getD 0 0 + rnd (num * 0) den
              rw [Int.mul_zero, rnd_zero hd1, hx.out]; omega)
            have hvs := Lib.hid (vals_snoc hvk.out (by rw [← hy.out]; exact ⟨hx1, hx2⟩))
            have g1 : decide (x < -2147483647) = false := by simp; omega
            have g2 : decide (2147483647 < x) = false := by simp; omega
            go_wp2_with (at_builtin; refine wpList_append_own _ rfl (.tmp 74) (.tmp 76) 22 rfl w.heap.size 3 i0 (.int .i64 0) 1 8 Try.underlying22 hi hz0 hz1 hz2 rfl (by decide) V 0 (ivs .i64 (tab 0 (reAt num den xs))) rfl (hown.alloc _) ⟨wr.heap.size, 0, none⟩ 1 1 [.int .i64 (x)] rfl rfl (news_one _ _ _) (oneCell1 _) ?ha3 ?ha4 ?ha5 ?_)
            case ha3 => unfold maxLen; omega
            case ha4 => omega
            case ha5 => have := hbel.size; simp; omega
            intro v1 w5 hown5 hg5 _
            have hown6 : w5.ownsRow w.heap.size 3 1 v1 (0 + 1) (ivs .i64 (tab (0 + 1) (reAt num den xs))) := by rw [tab_succ, ivs_snoc, ← hy.out]; exact hown5
            have hb5 : Below w.heap.size w w5 := (hbel.alloc hbel.size _).grown hg5 (by have := hbel.size; simp; omega) (fun q hq => (hown.lt q hq).1)
            clear hown5
            go_wp2
            go_roundw
            case rel => exact ⟨0 + 1, v1, by go_num, rfl, by omega, hown6, hvs.out, hb5⟩
            case measure => simp [intOf]; omega
          · have hk1 : ((k : Int) - 1).toNat = k - 1 := by omega
            have hk2 : 0 ≤ (k : Int) - 1 := by omega
            have hk3 : 0 < (k : Int) := by omega
            have hk4 : (k : Int) - 1 < (n : Int) := by omega
            obtain ⟨go, co, rfl, hco, hcp⟩ := own_cell hown (j := k - 1) (by omega)
            rw [tab_getD (by omega)] at hcp
            have hpb : -2147483647 ≤ reAt num den xs (k - 1) ∧ reAt num den xs (k - 1) ≤ 2147483647 := by
              have := allB_get (xs := tab k (reAt num den xs)) hvk.out (by rw [tab_len]; omega : k - 1 < (tab k (reAt num den xs)).length) (tab_getD (by omega : k - 1 < k))
              exact this
            generalize hp : reAt num den xs (k - 1) = p at *
            have hp' := Lib.hid hp
            clear hp
            have hk5 : (k : Int) - 1 < (k : Int) := by omega
            have hy : Hid (x + rnd (num * p) den = reAt num den xs k) := by show _ = _; rw [reAt_prev num den xs k, prev_pos hk0, hx.out, hp'.out]
            have hp1 := hpb.1
            have hp2 := hpb.2
            have hm := mul_bd hn1 (show num ≤ 1024 by omega) hp1 hp2 (by omega)
            have hm1 := hm.1
            have hm2 := hm.2
            have hq := rnd_part hn1 hn2 hd1 hp1 hp2
            have hq1 := hq.1
            have hq2 := hq.2
            clear hpb hm hq
            by_cases hr1 : -2147483647 ≤ x + rnd (num * p) den
            · have g1 : decide (x + rnd (num * p) den < -2147483647) = false := by simp; omega
              by_cases hr2 : x + rnd (num * p) den ≤ 2147483647
              · have g2 : decide (2147483647 < x + rnd (num * p) den) = false := by simp; omega
                have hvs := Lib.hid (vals_snoc hvk.out (by rw [← hy.out]; exact ⟨hr1, hr2⟩))
                go_wp2_with fail
                refine (Round_any _ _ _ (by omega) (by omega) hd1 (by omega)).mono ?_
                rintro e w' ⟨rfl, rfl⟩
                go_wp2_with (at_builtin; refine wpList_append_own _ rfl (.tmp 74) (.tmp 76) 22 rfl w.heap.size 3 i0 (.int .i64 0) 1 8 Try.underlying22 hi hz0 hz1 hz2 rfl (by decide) _ k (ivs .i64 (tab k (reAt num den xs))) rfl (hown.alloc _) ⟨wr.heap.size, 0, none⟩ 1 1 [.int .i64 (x + rnd (num * p) den)] rfl rfl (news_one _ _ _) (oneCell1 _) ?hb3 ?hb4 ?hb5 ?_)
                case hb3 => unfold maxLen; omega
                case hb4 => omega
                case hb5 => have := hbel.size; simp; omega
                intro v1 w5 hown5 hg5 _
                have hown6 : w5.ownsRow w.heap.size 3 1 v1 (k + 1) (ivs .i64 (tab (k + 1) (reAt num den xs))) := by rw [tab_succ, ivs_snoc, ← hy.out]; exact hown5
                have hb5 : Below w.heap.size w w5 := (hbel.alloc hbel.size _).grown hg5 (by have := hbel.size; simp; omega) (fun q hq => (hown.lt q hq).1)
                clear hown5
                go_wp2
                go_roundw
                case rel => exact ⟨k + 1, v1, by go_num, rfl, by omega, hown6, hvs.out, hb5⟩
                case measure => simp [intOf]; omega
              · have g2 : 2147483647 < x + rnd (num * p) den := by omega
                have hvn := Lib.hid (vals_no (n := n) (k := k) (f := reAt num den xs) hlt (by rw [← hy.out]; omega))
                go_wp2_with fail
                refine (Round_any _ _ _ (by omega) (by omega) hd1 (by omega)).mono ?_
                rintro e w' ⟨rfl, rfl⟩
                go_wp2
                go_ret2
                exact ⟨none, 0, 0, by rw [hC.out, oC_no hvn.out]; rfl, by rw [hL.out, oL_no hvn.out]; exact Sl.nil _ _, hbel⟩
            · have g2 : x + rnd (num * p) den < -2147483647 := by omega
              have hvn := Lib.hid (vals_no (n := n) (k := k) (f := reAt num den xs) hlt (by rw [← hy.out]; omega))
              go_wp2_with fail
              refine (Round_any _ _ _ (by omega) (by omega) hd1 (by omega)).mono ?_
              rintro e w' ⟨rfl, rfl⟩
              go_wp2
              go_ret2
              exact ⟨none, 0, 0, by rw [hC.out, oC_no hvn.out]; rfl, by rw [hL.out, oL_no hvn.out]; exact Sl.nil _ _, hbel⟩
        · have hkn' : k = n := by omega
          subst hkn'
          obtain ⟨A2, c2, rfl, hS2⟩ := Sl.of_own hown
          go_wp2
          go_ret2
          exact ⟨A2, _, c2, by rw [hC.out, oC_yes hvk.out]; rfl, by rw [hL.out, oL_yes hvk.out]; exact hS2, hbel⟩
  · rw [hl.out] at hn
    have hv : valsB xs = false := hall
    have hC := Lib.hid (show emC true xs num den = 2 by unfold emC chkE chkV; rw [hk]; rfl)
    have hL := Lib.hid (show emL true xs num den = [] by unfold emL chkE chkV; rw [hk]; rfl)
    clear hk hall
    go_enter Try.func36, Try.ntmps36
    go_wp2_with (go_at_call 40; refine (Values_any _ _ _ _ _ h).mono ?_; rintro e w' ⟨rfl, rfl⟩)
    go_ret2
    exact ⟨none, 0, 0, by rw [hC.out]; rfl, by rw [hL.out]; exact Sl.nil _ _, Below.refl _ _⟩
end Go.Proofs.Ytobobbhifajhmaa
