/- Weighed frames: what is refused; the energy. -/
import Derived.Test.YtnkkbohfhinemaaG1
import Derived.Test.YtnkkbohfhinemaaM3
namespace Go.Proofs.Ytnkkbohfhinemaa
open Go.RowKit

set_option maxHeartbeats 1600000 in
theorem RWeigh_bad (A : Option Addr) (n c : Nat) (xs : List Int) (kind : Int) (w : World) (h : Sl .i64 w A n c xs) (hb : wnC kind n = 2 ∨ (wnC kind n = 0 ∧ valsB xs = false)) :
    Calls Try.prog 44 #[.slice A n c, .int .i64 kind] w (RetLB w [] false) := by
  have hcap := h.cap
  have htop := h.top
  rcases hb with hC | ⟨hC, hv⟩
  · have hC := Lib.hid hC
    go_enter Try.func44, Try.ntmps44
    go_wp2_with fail
    refine (RWindow_any _ _ _).mono ?_
    rintro e w1 ⟨A1, m1, c1, he, hW, hb1⟩
    rw [hC.out] at he
    subst he
    go_wp2
    go_ret2
    exact ⟨none, 0, 0, rfl, Sl.nil _ _, hb1⟩
  · have hC := Lib.hid hC
    have hv := Lib.hid hv
    go_enter Try.func44, Try.ntmps44
    go_wp2_with fail
    refine (RWindow_any _ _ _).mono ?_
    rintro e w1 ⟨A1, m1, c1, he, hW, hb1⟩
    rw [hC.out] at he
    subst he
    go_wp2_with fail
    refine (Values_any _ _ _ _ _ (h.below hb1)).mono ?_
    rintro e w2 ⟨he, rfl⟩
    rw [hv.out] at he
    subst he
    go_wp2
    go_ret2
    exact ⟨none, 0, 0, rfl, Sl.nil _ _, hb1⟩

theorem wg_bd {x y m : Int} (hy1 : 0 ≤ y) (hy2 : y ≤ 4096) (h1 : -m ≤ x) (h2 : x ≤ m) : -m ≤ rnd (x * y) 4096 ∧ rnd (x * y) 4096 ≤ m := by
  rw [Int.mul_comm x y]
  exact rnd_part hy1 hy2 (by decide) h1 h2
theorem wg_pos {x y : Int} (hy1 : 0 ≤ y) (h : 0 ≤ x) : 0 ≤ rnd (x * y) 4096 := (rnd_bd (Int.mul_nonneg h hy1) (by decide)).1
theorem wg_neg {x y : Int} (hy1 : 0 ≤ y) (h : x ≤ 0) : rnd (x * y) 4096 ≤ 0 := by
  by_cases hz : x * y < 0
  · rw [rnd_opp hz]
    have := (rnd_bd (a := -(x * y)) (b := 4096) (by omega) (by decide)).1
    omega
  · have h2 : 0 ≤ -x * y := Int.mul_nonneg (by omega) hy1
    rw [Int.neg_mul] at h2
    rw [show x * y = 0 by omega, rnd_zero (by decide)]
    exact Int.le_refl _
/-- a weighed number is not farther from 0 -/
theorem wg_in {x y : Int} (hy1 : 0 ≤ y) (hy2 : y ≤ 4096) (h1 : -65536 ≤ x) (h2 : x ≤ 65535) : okB (-65536) 65535 (rnd (x * y) 4096) = true := by
  by_cases h : 0 ≤ x
  · have a := wg_pos hy1 h
    have b := (wg_bd hy1 hy2 (show -x ≤ x by omega) (Int.le_refl x)).2
    exact okB_mk (by omega) (by omega)
  · have a := wg_neg hy1 (show x ≤ 0 by omega)
    have b := (wg_bd hy1 hy2 (show - -x ≤ x by omega) (show x ≤ -x by omega)).1
    exact okB_mk (by omega) (by omega)
theorem wg_sq {x y : Int} (hy1 : 0 ≤ y) (hy2 : y ≤ 4096) : rnd (x * y) 4096 * rnd (x * y) 4096 ≤ x * x := by
  by_cases h : 0 ≤ x
  · have b := wg_bd hy1 hy2 (show -x ≤ x by omega) (Int.le_refl x)
    exact (sq_bd b.1 b.2).2
  · have b := wg_bd hy1 hy2 (show - -x ≤ x by omega) (show x ≤ -x by omega)
    have := (sq_bd b.1 b.2).2
    rwa [Int.neg_mul_neg] at this
theorem eng_tab {xs : List Int} {f : Nat → Int} (h : ∀ i, i < xs.length → f i * f i ≤ xs.getD i 0 * xs.getD i 0) : ∀ k : Nat, k ≤ xs.length → eng (tab k f) ≤ eng (xs.take k)
  | 0, _ => Int.le_refl _
  | k + 1, hk => by
    rw [tab_succ, eng_snoc, take_snocD (by omega) rfl, eng_snoc]
    have := eng_tab h k (by omega)
    have := h k (by omega)
    omega
theorem wg_en {xs : List Int} {kind : Int} (hk1 : 1 ≤ kind) (hk2 : kind ≤ 3) : eng (tab xs.length (wgAt xs kind)) ≤ eng xs := by
  have := eng_tab (xs := xs) (f := wgAt xs kind) (fun i hi => by
    have hb := wAt_bd hk1 hk2 hi
    exact wg_sq hb.1 hb.2) xs.length (Nat.le_refl _)
  rwa [List.take_of_length_le (Nat.le_refl _)] at this
theorem wg_all {xs : List Int} {kind : Int} (hk1 : 1 ≤ kind) (hk2 : kind ≤ 3) (h : allB (-65536) 65535 xs = true) : allB (-65536) 65535 (tab xs.length (wgAt xs kind)) = true := by
  refine List.all_eq_true.2 fun y hy => ?_
  unfold tab at hy
  obtain ⟨i, hi, rfl⟩ := List.mem_map.1 hy
  have hi := List.mem_range.1 hi
  have hb := wAt_bd hk1 hk2 hi
  have hx := allB_get h hi rfl
  exact wg_in hb.1 hb.2 hx.1 hx.2
end Go.Proofs.Ytnkkbohfhinemaa
