/- Windows: the law's walk. -/
import Derived.Test.YtnkkbohfhinemaaH0
import Derived.IntWalk
namespace Go.Proofs.Ytnkkbohfhinemaa
open Go.RowKit

abbrev YesH (w : World) (e : Ending) (w' : World) : Prop := e = .returned (.bool true) ∧ Below w.heap.size w w'

set_option maxHeartbeats 1600000 in
theorem win_bad (kind size : Int) (w : World) (hC : wnC kind size = 2) (hL : wnL kind size = []) :
    Calls Try.prog 12 #[.int .i64 kind, .int .i64 size] w (YesH w) := by
  have hC := Lib.hid hC
  have hL := Lib.hid hL
  go_enter Try.func12, Try.ntmps12
  go_wp2_with fail
  refine (Window_any _ _ _).mono ?_
  rintro e w1 ⟨A1, m1, c1, he, hS1, hb1⟩
  rw [hC.out] at he
  rw [hL.out] at hS1
  have hz := hS1.len
  change 0 = m1 at hz
  subst hz
  subst he
  go_wp2_with fail
  refine (RWindow_any _ _ _).mono ?_
  rintro e w2 ⟨A2, m2, c2, he, hS2, hb2⟩
  rw [hC.out] at he
  subst he
  have hb12 := hb1.trans (hb2.mono hb1.size)
  go_wp2_with fail
  refine (known_any _).mono ?_
  rintro e w7 ⟨rfl, hb7⟩
  go_wp2
  go_ret
  exact ⟨rfl, hb12.trans (hb7.mono hb12.size)⟩

set_option maxHeartbeats 6400000 in
set_option maxRecDepth 100000 in
theorem win_ok (kind : Int) (n : Nat) (w : World) (hn1 : 1 ≤ n) (hn2 : n ≤ 4096) (hk1 : 1 ≤ kind) (hk2 : kind ≤ 3) (hC : wnC kind n = 0) (hL : wnL kind n = tab n (wAt kind n)) :
    Calls Try.prog 12 #[.int .i64 kind, .int .i64 (n : Int)] w (YesH w) := by
  have hC := Lib.hid hC
  have hL := Lib.hid hL
  have hA := Lib.hid (w_all hk1 hk2 hn2)
  go_enter Try.func12, Try.ntmps12
  go_wp2_with fail
  refine (Window_any _ _ _).mono ?_
  rintro e w1 ⟨A1, m1, c1, he, hS1, hb1⟩
  rw [hC.out] at he
  rw [hL.out] at hS1
  have hz := hS1.len
  rw [tab_len] at hz
  subst hz
  subst he
  go_wp2_with fail
  refine (RWindow_any _ _ _).mono ?_
  rintro e w2 ⟨A2, m2, c2, he, hS2, hb2⟩
  rw [hC.out] at he
  rw [hL.out] at hS2
  subst he
  have hb12 := hb1.trans (hb2.mono hb1.size)
  have hS12 := hS1.below hb2
  go_wp2_with fail
  refine (Same_any _ _ _ _ _ _ _ _ _ hS12 hS2).mono ?_
  rintro e w3 ⟨k3, he, rfl⟩
  rw [sameB_yes rfl] at he
  subst he
  have hb3 := bel_drewN hb12 k3
  have hS3 := hS12.drewN k3
  generalize w2.drewN k3 = w3 at *
  go_wp2_with fail
  refine (All_any _ _ _ _ _ _ _ hS3).mono ?_
  rintro e w4 ⟨he, rfl⟩
  rw [hA.out] at he
  subst he
  have hcap := hS3.cap
  have htop := hS3.top
  clear hS1 hS2 hS12 hb1 hb2 hb12
  go_wp2
  go_loopw [9] (fun iv wr => ∃ k r : Nat, k ≤ n ∧ iv = .int .i64 k ∧ wr = w3.drewN r) (fun iv _ => n - (intOf iv).toNat)
  case atStart => exact ⟨0, 0, Nat.zero_le _, rfl, rfl⟩
  case round =>
    obtain ⟨k, r, hk, rfl, rfl⟩ := hrel
    have hr := hS3.drewN r
    rcases Nat.lt_or_ge k n with hlt | hge
    · obtain ⟨ad, x, rfl, hcx, hx⟩ := hr.at_ hlt
      obtain ⟨m, hm⟩ : ∃ m : Nat, k + m + 1 = n := ⟨n - 1 - k, by omega⟩
      obtain ⟨ad', y, he, hcy, hy⟩ := hr.at_ (j := m) (by omega)
      injection he with he
      subst he
      rw [tab_getD hlt] at hx
      rw [tab_getD (by omega)] at hy
      have hxy : y = x := by rw [← hx.out, ← hy.out]; exact wAt_sym hk1 hk2 hm
      subst hxy
      generalize hw1 : w3.drewN r = w1 at *
      have hw1' := Lib.hid hw1
      clear hw1
      have i1 : (k : Int) < (n : Int) := by omega
      have i2 : (m : Int) < (n : Int) := by omega
      have i3 : (n : Int) - 1 - (k : Int) = (m : Int) := by omega
      have e1 : IntKind.i64.wrap ((n : Int) - 1) = (n : Int) - 1 := IntWalk.i64_in _ (by omega)
      have e2 : IntKind.i64.wrap (m : Int) = (m : Int) := IntWalk.i64_in _ (by omega)
      have bxx : (y == y) = true := beq_self_eq_true y
      obtain ⟨q, hq⟩ : ∃ q : Nat, ((n : Int) - 1) / 2 = (q : Int) := ⟨(n - 1) / 2, by omega⟩
      have hq2 : ((n : Int) - 1).tdiv 2 = (q : Int) := by rw [Int.tdiv_eq_ediv_of_nonneg (by omega)]; exact hq
      rcases (show k = 0 ∨ ∃ j, k = j + 1 from by cases k with | zero => exact .inl rfl | succ j => exact .inr ⟨j, rfl⟩) with hk0 | ⟨j, hkj⟩
      · have hj1 : ¬ 0 < k := by omega
        have hj1b : decide (0 < k) = false := decide_eq_false hj1
        have hj1c : decide (0 < (k : Int)) = false := decide_eq_false (by omega)
        clear hk0
        go_wp2
        go_quiet (fail)
        clear i1 i2 i3 e1 e2 hq hq2 hj1 hj1b hj1c
        go_wp2
        go_roundw
        case rel => exact ⟨k + 1, r + nq, hlt, by go_num, by rw [← hw1'.out]; exact dr_add w3 r nq⟩
        case measure => simp [intOf]; omega
      · obtain ⟨ad', z, he, hcz, hz⟩ := hr.at_ (j := j) (by omega)
        injection he with he
        subst he
        rw [tab_getD (by omega)] at hz
        have hj1 : 0 < k := by omega
        have hj1b : decide (0 < k) = true := decide_eq_true hj1
        have hj1c : decide (0 < (k : Int)) = true := decide_eq_true (by omega)
        have hj4 : (k : Int) - 1 = (j : Int) := by omega
        have hj5 : (j : Int) < (n : Int) := by omega
        have hj8 : IntKind.i64.wrap (j : Int) = (j : Int) := IntWalk.i64_in _ (by omega)
        by_cases hu : (k : Int) ≤ (q : Int)
        · have hud := decide_eq_true hu
          have hup : z ≤ y := by rw [← hx.out, ← hz.out, hkj]; exact wAt_up hk1 hk2 (by omega)
          have hupd : decide (y < z) = false := decide_eq_false (by omega)
          clear hkj
          go_wp2
          go_quiet (fail)
          clear i1 i2 i3 e1 e2 hq hq2 hj1 hj1b hj1c hj4 hj5 hj8
          go_wp2
          go_roundw
          case rel => exact ⟨k + 1, r + nq, hlt, by go_num, by rw [← hw1'.out]; exact dr_add w3 r nq⟩
          case measure => simp [intOf]; omega
        · have hud := decide_eq_false hu
          have hun : ¬ k ≤ q := by omega
          have hunb : decide (k ≤ q) = false := decide_eq_false hun
          clear hkj
          go_wp2
          go_quiet (fail)
          clear i1 i2 i3 e1 e2 hq hq2 hj1 hj1b hj1c hj4 hj5 hj8
          go_wp2
          go_roundw
          case rel => exact ⟨k + 1, r + nq, hlt, by go_num, by rw [← hw1'.out]; exact dr_add w3 r nq⟩
          case measure => simp [intOf]; omega
    · have hkn : k = n := by omega
      subst hkn
      have hb4 := bel_drewN hb3 r
      generalize w3.drewN r = w4 at *
      go_wp2_with fail
      refine (known_any _).mono ?_
      rintro e w7 ⟨rfl, hb7⟩
      go_wp2
      go_ret
      exact ⟨rfl, hb4.trans (hb7.mono hb4.size)⟩

theorem windows_any (kind size : Int) (w : World) :
    Calls Try.prog 12 #[.int .i64 kind, .int .i64 size] w (YesH w) := by
  rcases wn_cases kind size with ⟨h1, h2⟩ | ⟨h1, h2, h3, h4, h5, h6⟩
  · exact win_bad kind size w h1 h2
  · obtain ⟨n, rfl⟩ : ∃ n : Nat, size = (n : Int) := ⟨size.toNat, by omega⟩
    exact win_ok kind n w (by omega) (by omega) h3 h4 h5 h6
end Go.Proofs.Ytnkkbohfhinemaa
