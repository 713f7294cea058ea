/- The document's own windows. -/
import Derived.Test.YtnkkbohfhinemaaF1
import Derived.Test.YtnkkbohfhinemaaV4
namespace Go.Proofs.Ytnkkbohfhinemaa
open Go.RowKit

def RetLB (w : World) (ys : List Int) (b : Bool) (e : Ending) (w' : World) : Prop :=
  ∃ A m c, e = .returned (.tuple #[.slice A m c, .bool b]) ∧ Sl .i64 w' A m c ys ∧ Below w.heap.size w w'

theorem RWindow_bad (kind size : Int) (w : World) (hb : wnC kind size = 2) : Calls Try.prog 42 #[.int .i64 kind, .int .i64 size] w (RetLB w [] false) := by
  have hc : ¬ (1 ≤ size ∧ size ≤ 4096 ∧ 1 ≤ kind ∧ kind ≤ 3) := fun ⟨h1, h2, h3, h4⟩ => by
    unfold wnC at hb
    rw [okB_mk h1 h2, okB_mk h3 h4] at hb
    cases hb
  clear hb
  by_cases h1 : size < 1
  · go_enter Try.func42, Try.ntmps42
    go_wp2
    go_ret2
    exact ⟨none, 0, 0, rfl, Sl.nil _ _, Below.refl _ _⟩
  · have d1 : decide (size < 1) = false := decide_eq_false h1
    by_cases h2 : 4096 < size
    · clear hc
      go_enter Try.func42, Try.ntmps42
      go_wp2
      go_ret2
      exact ⟨none, 0, 0, rfl, Sl.nil _ _, Below.refl _ _⟩
    · have d2 : decide (4096 < size) = false := decide_eq_false h2
      by_cases h3 : kind < 1
      · clear hc
        go_enter Try.func42, Try.ntmps42
        go_wp2
        go_ret2
        exact ⟨none, 0, 0, rfl, Sl.nil _ _, Below.refl _ _⟩
      · have d3 : decide (kind < 1) = false := decide_eq_false h3
        have h4 : 3 < kind := by omega
        clear hc
        go_enter Try.func42, Try.ntmps42
        go_wp2
        go_ret2
        exact ⟨none, 0, 0, rfl, Sl.nil _ _, Below.refl _ _⟩

set_option maxHeartbeats 4000000 in
set_option maxRecDepth 100000 in
theorem RWindow_1 (n : Nat) (w : World) (hn1 : 1 ≤ n) (hn2 : n ≤ 4096) : Calls Try.prog 42 #[.int .i64 1, .int .i64 (n : Int)] w (RetLB w (tab n (wAt 1 n)) true) := by
  obtain ⟨i0, hi, hz0, hz1, hz2⟩ := info_parts info_int
  have g1 : decide ((n : Int) < 1) = false := by simp; omega
  have g2 : decide (4096 < (n : Int)) = false := by simp; omega
  go_enter Try.func42, Try.ntmps42
  go_wp2
  clear g1 g2
  go_loopw [6, 7] (fun ov iv wr => ∃ (k : Nat) (V : Value), iv = .int .i64 k ∧ V = ov ∧ k ≤ n ∧ wr.ownsRow w.heap.size 3 1 V k (ivs .i64 (tab k (wAt 1 n))) ∧ Below w.heap.size w wr) (fun _ iv _ => n - (intOf iv).toNat)
  case atStart => exact ⟨0, _, rfl, rfl, Nat.zero_le _, World.ownsRow_nil _ _ _ _, Below.refl _ _⟩
  case round =>
    obtain ⟨k, V, rfl, rfl, hkn, hown, hbel⟩ := hrel
    rcases Nat.lt_or_ge k n with hlt | hge
    · have hy := Lib.hid (show 4096 = wAt 1 n k from rfl)
      go_wp2_with (at_builtin; refine wpList_append_own _ rfl (.tmp 65) (.tmp 67) 22 rfl w.heap.size 3 i0 (.int .i64 0) 1 8 Try.underlying22 hi hz0 hz1 hz2 rfl (by decide) V k (ivs .i64 (tab k (wAt 1 n))) rfl (hown.alloc _) ⟨wr.heap.size, 0, none⟩ 1 1 [.int .i64 (4096)] rfl rfl (news_one _ _ _) (oneCell1 _) ?ha3 ?ha4 ?ha5 ?_)
      case ha3 => unfold maxLen; omega
      case ha4 => omega
      case ha5 => have := hbel.size; simp; omega
      intro v1 w5 hown5 hg5 _
      have hown6 : w5.ownsRow w.heap.size 3 1 v1 (k + 1) (ivs .i64 (tab (k + 1) (wAt 1 n))) := by rw [tab_succ, ivs_snoc, ← hy.out]; exact hown5
      have hb5 : Below w.heap.size w w5 := (hbel.alloc hbel.size _).grown hg5 (by have := hbel.size; simp; omega) (fun q hq => (hown.lt q hq).1)
      clear hown5
      go_wp2
      go_roundw
      case rel => exact ⟨k + 1, v1, by go_num, rfl, by omega, hown6, hb5⟩
      case measure => simp [intOf]; omega
    · have hkn' : k = n := by omega
      subst hkn'
      obtain ⟨A2, c2, rfl, hS2⟩ := Sl.of_own hown
      go_wp2
      go_ret2
      exact ⟨A2, _, c2, rfl, hS2, hbel⟩

set_option maxHeartbeats 4000000 in
set_option maxRecDepth 100000 in
theorem RWindow_2 (n : Nat) (w : World) (hn1 : 1 ≤ n) (hn2 : n ≤ 4096) : Calls Try.prog 42 #[.int .i64 2, .int .i64 (n : Int)] w (RetLB w (tab n (wAt 2 n)) true) := by
  obtain ⟨i0, hi, hz0, hz1, hz2⟩ := info_parts info_int
  have g1 : decide ((n : Int) < 1) = false := by simp; omega
  have g2 : decide (4096 < (n : Int)) = false := by simp; omega
  go_enter Try.func42, Try.ntmps42
  go_wp2
  clear g1 g2
  go_loopw [6, 7] (fun ov iv wr => ∃ (k : Nat) (V : Value), iv = .int .i64 k ∧ V = ov ∧ k ≤ n ∧ wr.ownsRow w.heap.size 3 1 V k (ivs .i64 (tab k (wAt 2 n))) ∧ Below w.heap.size w wr) (fun _ iv _ => n - (intOf iv).toNat)
  case atStart => exact ⟨0, _, rfl, rfl, Nat.zero_le _, World.ownsRow_nil _ _ _ _, Below.refl _ _⟩
  case round =>
    obtain ⟨k, V, rfl, rfl, hkn, hown, hbel⟩ := hrel
    rcases Nat.lt_or_ge k n with hlt | hge
    · have hy := Lib.hid (show wTri (2 * (k : Int) - ((n : Int) - 1)) ((n : Int) + 1) = wAt 2 n k from rfl)
      have hd1 : -((n : Int) + 1) ≤ 2 * (k : Int) - ((n : Int) - 1) := by omega
      have hd2 : 2 * (k : Int) - ((n : Int) - 1) ≤ (n : Int) + 1 := by omega
      rcases (show 0 ≤ 2 * (k : Int) - ((n : Int) - 1) ∨ 2 * (k : Int) - ((n : Int) - 1) < 0 by omega) with hp | hp
      · go_wp2_with fail
        refine (Round_any _ _ _ (by omega) (by omega) (by omega) (by omega)).mono ?_
        rintro e w' ⟨rfl, rfl⟩
        rw [show rnd (4096 * ((n : Int) + 1 - (2 * (k : Int) - ((n : Int) - 1)))) ((n : Int) + 1) = wTri (2 * (k : Int) - ((n : Int) - 1)) ((n : Int) + 1) by unfold wTri; congr 2; omega]
        go_wp2_with (at_builtin; refine wpList_append_own _ rfl (.tmp 65) (.tmp 67) 22 rfl w.heap.size 3 i0 (.int .i64 0) 1 8 Try.underlying22 hi hz0 hz1 hz2 rfl (by decide) V k (ivs .i64 (tab k (wAt 2 n))) rfl (hown.alloc _) ⟨wr.heap.size, 0, none⟩ 1 1 [.int .i64 (wTri (2 * (k : Int) - ((n : Int) - 1)) ((n : Int) + 1))] rfl rfl (news_one _ _ _) (oneCell1 _) ?ha3 ?ha4 ?ha5 ?_)
        case ha3 => unfold maxLen; omega
        case ha4 => omega
        case ha5 => have := hbel.size; simp; omega
        intro v1 w5 hown5 hg5 _
        have hown6 : w5.ownsRow w.heap.size 3 1 v1 (k + 1) (ivs .i64 (tab (k + 1) (wAt 2 n))) := by rw [tab_succ, ivs_snoc, ← hy.out]; exact hown5
        have hb5 : Below w.heap.size w w5 := (hbel.alloc hbel.size _).grown hg5 (by have := hbel.size; simp; omega) (fun q hq => (hown.lt q hq).1)
        clear hown5
        go_wp2
        go_roundw
        case rel => exact ⟨k + 1, v1, by go_num, rfl, by omega, hown6, hb5⟩
        case measure => simp [intOf]; omega
      · go_wp2_with fail
        refine (Round_any _ _ _ (by omega) (by omega) (by omega) (by omega)).mono ?_
        rintro e w' ⟨rfl, rfl⟩
        rw [show rnd (4096 * ((n : Int) + 1 + (2 * (k : Int) - ((n : Int) - 1)))) ((n : Int) + 1) = wTri (2 * (k : Int) - ((n : Int) - 1)) ((n : Int) + 1) by unfold wTri; congr 2; omega]
        go_wp2_with (at_builtin; refine wpList_append_own _ rfl (.tmp 65) (.tmp 67) 22 rfl w.heap.size 3 i0 (.int .i64 0) 1 8 Try.underlying22 hi hz0 hz1 hz2 rfl (by decide) V k (ivs .i64 (tab k (wAt 2 n))) rfl (hown.alloc _) ⟨wr.heap.size, 0, none⟩ 1 1 [.int .i64 (wTri (2 * (k : Int) - ((n : Int) - 1)) ((n : Int) + 1))] rfl rfl (news_one _ _ _) (oneCell1 _) ?hb3 ?hb4 ?hb5 ?_)
        case hb3 => unfold maxLen; omega
        case hb4 => omega
        case hb5 => have := hbel.size; simp; omega
        intro v1 w5 hown5 hg5 _
        have hown6 : w5.ownsRow w.heap.size 3 1 v1 (k + 1) (ivs .i64 (tab (k + 1) (wAt 2 n))) := by rw [tab_succ, ivs_snoc, ← hy.out]; exact hown5
        have hb5 : Below w.heap.size w w5 := (hbel.alloc hbel.size _).grown hg5 (by have := hbel.size; simp; omega) (fun q hq => (hown.lt q hq).1)
        clear hown5
        go_wp2
        go_roundw
        case rel => exact ⟨k + 1, v1, by go_num, rfl, by omega, hown6, hb5⟩
        case measure => simp [intOf]; omega
    · have hkn' : k = n := by omega
      subst hkn'
      obtain ⟨A2, c2, rfl, hS2⟩ := Sl.of_own hown
      go_wp2
      go_ret2
      exact ⟨A2, _, c2, rfl, hS2, hbel⟩

set_option maxHeartbeats 4000000 in
set_option maxRecDepth 100000 in
theorem RWindow_3 (n : Nat) (w : World) (hn1 : 1 ≤ n) (hn2 : n ≤ 4096) : Calls Try.prog 42 #[.int .i64 3, .int .i64 (n : Int)] w (RetLB w (tab n (wAt 3 n)) true) := by
  obtain ⟨i0, hi, hz0, hz1, hz2⟩ := info_parts info_int
  have g1 : decide ((n : Int) < 1) = false := by simp; omega
  have g2 : decide (4096 < (n : Int)) = false := by simp; omega
  go_enter Try.func42, Try.ntmps42
  go_wp2
  clear g1 g2
  go_loopw [6, 7] (fun ov iv wr => ∃ (k : Nat) (V : Value), iv = .int .i64 k ∧ V = ov ∧ k ≤ n ∧ wr.ownsRow w.heap.size 3 1 V k (ivs .i64 (tab k (wAt 3 n))) ∧ Below w.heap.size w wr) (fun _ iv _ => n - (intOf iv).toNat)
  case atStart => exact ⟨0, _, rfl, rfl, Nat.zero_le _, World.ownsRow_nil _ _ _ _, Below.refl _ _⟩
  case round =>
    obtain ⟨k, V, rfl, rfl, hkn, hown, hbel⟩ := hrel
    rcases Nat.lt_or_ge k n with hlt | hge
    · have hy := Lib.hid (show wWel (2 * (k : Int) - ((n : Int) - 1)) ((n : Int) + 1) = wAt 3 n k from rfl)
      have hd1 : -((n : Int) + 1) ≤ 2 * (k : Int) - ((n : Int) - 1) := by omega
      have hd2 : 2 * (k : Int) - ((n : Int) - 1) ≤ (n : Int) + 1 := by omega
      have q1 := sq_bd (m := 5000) (x := 2 * (k : Int) - ((n : Int) - 1)) (by omega) (by omega)
      have q2 := (sq_bd (m := 5000) (x := (n : Int) + 1) (by omega) (by omega)).2
      have q3 := (sq_bd (m := (n : Int) + 1) (x := 2 * (k : Int) - ((n : Int) - 1)) hd1 hd2).2
      have q4 : 1 * 1 ≤ ((n : Int) + 1) * ((n : Int) + 1) := Int.mul_le_mul (by omega) (by omega) (by omega) (by omega)
      have q5 := q1.1
      have q6 := q1.2
      clear q1
      go_wp2_with fail
      refine (Round_any _ _ _ (by omega) (by omega) (by omega) (by omega)).mono ?_
      rintro e w' ⟨rfl, rfl⟩
      rw [show rnd (4096 * (((n : Int) + 1) * ((n : Int) + 1) - (2 * (k : Int) - ((n : Int) - 1)) * (2 * (k : Int) - ((n : Int) - 1)))) (((n : Int) + 1) * ((n : Int) + 1)) = wWel (2 * (k : Int) - ((n : Int) - 1)) ((n : Int) + 1) from rfl]
      clear q2 q3 q4 q5 q6
      go_wp2_with (at_builtin; refine wpList_append_own _ rfl (.tmp 65) (.tmp 67) 22 rfl w.heap.size 3 i0 (.int .i64 0) 1 8 Try.underlying22 hi hz0 hz1 hz2 rfl (by decide) V k (ivs .i64 (tab k (wAt 3 n))) rfl (hown.alloc _) ⟨wr.heap.size, 0, none⟩ 1 1 [.int .i64 (wWel (2 * (k : Int) - ((n : Int) - 1)) ((n : Int) + 1))] rfl rfl (news_one _ _ _) (oneCell1 _) ?ha3 ?ha4 ?ha5 ?_)
      case ha3 => unfold maxLen; omega
      case ha4 => omega
      case ha5 => have := hbel.size; simp; omega
      intro v1 w5 hown5 hg5 _
      have hown6 : w5.ownsRow w.heap.size 3 1 v1 (k + 1) (ivs .i64 (tab (k + 1) (wAt 3 n))) := by rw [tab_succ, ivs_snoc, ← hy.out]; exact hown5
      have hb5 : Below w.heap.size w w5 := (hbel.alloc hbel.size _).grown hg5 (by have := hbel.size; simp; omega) (fun q hq => (hown.lt q hq).1)
      clear hown5
      go_wp2
      go_roundw
      case rel => exact ⟨k + 1, v1, by go_num, rfl, by omega, hown6, hb5⟩
      case measure => simp [intOf]; omega
    · have hkn' : k = n := by omega
      subst hkn'
      obtain ⟨A2, c2, rfl, hS2⟩ := Sl.of_own hown
      go_wp2
      go_ret2
      exact ⟨A2, _, c2, rfl, hS2, hbel⟩

/-- what the document's Window returns -/
theorem RWindow_any (kind size : Int) (w : World) : Calls Try.prog 42 #[.int .i64 kind, .int .i64 size] w (RetLB w (wnL kind size) (decide (wnC kind size = 0))) := by
  rcases wn_cases kind size with ⟨h1, h2⟩ | ⟨h1, h2, h3, h4, h5, h6⟩
  · rw [h1, h2]; exact RWindow_bad kind size w h1
  · rw [h5, h6]
    obtain ⟨n, rfl⟩ : ∃ n : Nat, size = (n : Int) := ⟨size.toNat, by omega⟩
    rcases (show kind = 1 ∨ kind = 2 ∨ kind = 3 by omega) with rfl | rfl | rfl
    · exact RWindow_1 n w (by omega) (by omega)
    · exact RWindow_2 n w (by omega) (by omega)
    · exact RWindow_3 n w (by omega) (by omega)
end Go.Proofs.Ytnkkbohfhinemaa
