/- The table of cosines against cosines enclosed by formulas: the law's walk. -/
import Derived.Test.YtoljffghaklpdaaDoorHA
import Derived.Test.YtoljffghaklpdaaDoorFD
namespace Go.Proofs.YtoljffghaklpdaaDoor
open Go.RowKit

def rt : Nat → Nat → Nat → Nat → Nat
  | 0, l, _, _ => l
  | f + 1, l, h, n => if 1 < h - l then (if ((l + h) / 2) * ((l + h) / 2) ≤ n then rt f ((l + h) / 2) h n else rt f l ((l + h) / 2) n) else l
def rtR (n : Nat) : Nat := rt 31 0 2147483648 n
theorem rt_bd : ∀ (f l h n : Nat), l ≤ h → rt f l h n ≤ h
  | 0, _, _, _, hl => hl
  | f + 1, l, h, n, hl => by
    unfold rt
    split
    · split
      · exact rt_bd f _ _ _ (by omega)
      · exact Nat.le_trans (rt_bd f _ _ _ (by omega)) (by omega)
    · exact hl
theorem rtR_bd (n : Nat) : rtR n ≤ 2147483648 := rt_bd _ _ _ _ (by decide)

set_option maxHeartbeats 800000 in
theorem root_any (N : Nat) (w : World) (_hN : N ≤ 2305843009213693952) :
    Calls Tryd.prog 60 #[.int .i64 (N : Int)] w fun e w' => e = .returned (.int .i64 (rtR N)) ∧ w' = w := by
  go_enter Tryd.func60, Tryd.ntmps60
  go_wp2
  go_loop [3, 4] (fun lv hv => ∃ f l h : Nat, lv = .int .i64 l ∧ hv = .int .i64 h ∧ l < h ∧ h ≤ 2147483648 ∧ Hid (h ≤ l + 2 ^ f) ∧ Hid (rt f l h N = rtR N)) (fun lv hv => (intOf hv).toNat - (intOf lv).toNat)
  case atStart => exact ⟨31, 0, 2147483648, rfl, rfl, by decide, by decide, Lib.hid (by decide), Lib.hid rfl⟩
  case round =>
    obtain ⟨f, l, h, rfl, rfl, hlh, hh, hf, hR⟩ := hrel
    rcases Nat.lt_or_ge 1 (h - l) with hlt | hge
    · cases f with
      | zero => have := hf.out; simp at this; omega
      | succ f =>
        have hf2 := hf.out
        rw [Nat.pow_succ] at hf2
        obtain ⟨M, hM⟩ : ∃ M, (l + h) / 2 = M := ⟨_, rfl⟩
        have hMl : l < M := by omega
        have hMh : M < h := by omega
        have hq : Int.tdiv ((l : Int) + (h : Int)) 2 = (M : Int) := by rw [Int.tdiv_eq_ediv_of_nonneg (by omega)]; omega
        obtain ⟨S, hS⟩ : ∃ S, M * M = S := ⟨_, rfl⟩
        have hSi : (M : Int) * (M : Int) = (S : Int) := by rw [← hS, Int.natCast_mul]
        have hSb : S ≤ 4611686018427387904 := by rw [← hS]; exact Nat.mul_le_mul (show M ≤ 2147483648 by omega) (show M ≤ 2147483648 by omega)
        have hR2 := hR.out
        unfold rt at hR2
        rw [if_pos hlt, hM, hS] at hR2
        have e1 : IntKind.i64.wrap ((l : Int) + (h : Int)) = (l : Int) + (h : Int) := IntWalk.i64_in _ (by omega)
        have e2 : IntKind.i64.wrap (M : Int) = (M : Int) := IntWalk.i64_in _ (by omega)
        have e3 : IntKind.i64.wrap (S : Int) = (S : Int) := IntWalk.i64_in _ (by omega)
        have hf3 := Lib.hid (show h ≤ M + 2 ^ f ∧ M ≤ l + 2 ^ f by omega)
        clear hf2 hf hR
        rcases Nat.lt_or_ge N S with hc | hc
        · rw [if_neg (by omega)] at hR2
          have hR2 := Lib.hid hR2
          clear hM hS
          go_wp2
          go_round
          case rel => exact ⟨f, l, M, rfl, rfl, hMl, by omega, Lib.hid hf3.out.2, hR2⟩
          case measure => simp [intOf]; omega
        · rw [if_pos hc] at hR2
          have hR2 := Lib.hid hR2
          clear hM hS
          go_wp2
          go_round
          case rel => exact ⟨f, M, h, rfl, rfl, hMh, hh, Lib.hid hf3.out.1, hR2⟩
          case measure => simp [intOf]; omega
    · have hl : Hid (rtR N = l) := by
        refine Lib.hid ?_
        rw [← hR.out]
        cases f with
        | zero => rfl
        | succ f => unfold rt; rw [if_neg (by omega)]
      clear hR hf
      go_wp2
      go_ret
      exact ⟨ret_int (by rw [hl.out]), rfl⟩

def cq : Nat → Nat → Option (Nat × Nat)
  | 0, _ => none
  | f + 1, m =>
    if m = 0 then some (1073741824, 1073741824) else if m = 64 then some (0, 0)
    else if 32 < m then
      match cq f (64 - m) with
      | some (l, h) => if l ≤ 1073741824 ∧ h ≤ 1073741824 then some (rtR (1152921504606846976 - h * h), rtR (1152921504606846976 - l * l) + 1) else none
      | none => none
    else
      match cq f (2 * m) with
      | some (l, h) => if l ≤ 1073741824 ∧ h ≤ 1073741824 then some (rtR ((1073741824 + l) * 536870912), rtR ((1073741824 + h) * 536870912) + 1) else none
      | none => none

set_option maxHeartbeats 3200000 in
set_option maxRecDepth 100000 in
theorem cos1 : ∀ (f m l h : Nat), m ≤ 64 → cq f m = some (l, h) → ∀ m0 : Nat, (m0 = m ∨ (128 < m0 ∧ m0 ≤ 256 ∧ 256 - m0 = m)) → ∀ w : World,
    Calls Tryd.prog 19 #[.int .i64 (m0 : Int)] w fun e w' => e = .returned (.tuple #[.int .i64 (l : Int), .int .i64 (h : Int)]) ∧ w' = w
  | 0, _, _, _, _, hq, _, _, _ => by unfold cq at hq; cases hq
  | f + 1, m, l, h, hm, hq, m0, h0, w => by
    have ih := Lib.hid (cos1 f)
    unfold cq at hq
    have key : ∀ v : Int, ((v = (m : Int)) ∧ v ≤ 64) → True := fun _ _ => trivial
    clear key
    by_cases z0 : m = 0
    · rw [if_pos z0] at hq
      injection hq with hq
      injection hq with q1 q2
      subst q1 q2 z0
      rcases h0 with rfl | ⟨a1, a2, a3⟩
      · go_enter Tryd.func19, Tryd.ntmps19
        go_wp2
        go_ret2
        exact ⟨rfl, rfl⟩
      · obtain rfl : m0 = 256 := by omega
        go_enter Tryd.func19, Tryd.ntmps19
        go_wp2
        go_ret2
        exact ⟨rfl, rfl⟩
    rw [if_neg z0] at hq
    by_cases z1 : m = 64
    · rw [if_pos z1] at hq
      injection hq with hq
      injection hq with q1 q2
      subst q1 q2 z1
      rcases h0 with rfl | ⟨a1, a2, a3⟩
      · go_enter Tryd.func19, Tryd.ntmps19
        go_wp2
        go_ret2
        exact ⟨rfl, rfl⟩
      · obtain rfl : m0 = 192 := by omega
        go_enter Tryd.func19, Tryd.ntmps19
        go_wp2
        go_ret2
        exact ⟨rfl, rfl⟩
    rw [if_neg z1] at hq
    by_cases z2 : 32 < m
    · rw [if_pos z2] at hq
      cases hr : cq f (64 - m) with
      | none => rw [hr] at hq; cases hq
      | some p =>
        obtain ⟨l', h'⟩ := p
        rw [hr] at hq
        by_cases hb : l' ≤ 1073741824 ∧ h' ≤ 1073741824
        case neg => simp only [if_neg hb] at hq; cases hq
        simp only [if_pos hb] at hq
        injection hq with hq
        injection hq with q1 q2
        have hcall := Lib.hid (fun w => ih.out (64 - m) l' h' (by omega) hr (64 - m) (.inl rfl) w)
        rw [show ((64 - m : Nat) : Int) = 64 - (m : Int) by omega] at hcall
        obtain ⟨X, hX⟩ : ∃ X, h' * h' = X := ⟨_, rfl⟩
        obtain ⟨Y, hY⟩ : ∃ Y, l' * l' = Y := ⟨_, rfl⟩
        have hXi : (h' : Int) * (h' : Int) = (X : Int) := by rw [← hX, Int.natCast_mul]
        have hYi : (l' : Int) * (l' : Int) = (Y : Int) := by rw [← hY, Int.natCast_mul]
        have hXb : X ≤ 1152921504606846976 := by rw [← hX]; exact Nat.mul_le_mul hb.2 hb.2
        have hYb : Y ≤ 1152921504606846976 := by rw [← hY]; exact Nat.mul_le_mul hb.1 hb.1
        rw [hX] at q1
        rw [hY] at q2
        have e1 : IntKind.i64.wrap (X : Int) = (X : Int) := IntWalk.i64_in _ (by omega)
        have e2 : IntKind.i64.wrap (Y : Int) = (Y : Int) := IntWalk.i64_in _ (by omega)
        have e3 : IntKind.i64.wrap (1152921504606846976 - (X : Int)) = ((1152921504606846976 - X : Nat) : Int) := by rw [IntWalk.i64_in _ (by omega)]; omega
        have e4 : IntKind.i64.wrap (1152921504606846976 - (Y : Int)) = ((1152921504606846976 - Y : Nat) : Int) := by rw [IntWalk.i64_in _ (by omega)]; omega
        have r1 := rtR_bd (1152921504606846976 - X)
        have r2 := rtR_bd (1152921504606846976 - Y)
        have hr1 := Lib.hid (fun w => root_any (1152921504606846976 - X) w (by omega))
        have hr2 := Lib.hid (fun w => root_any (1152921504606846976 - Y) w (by omega))
        generalize rtR (1152921504606846976 - X) = R1 at *
        generalize rtR (1152921504606846976 - Y) = R2 at *
        subst q1 q2
        have em : IntKind.i64.wrap (64 - (m : Int)) = 64 - (m : Int) := IntWalk.i64_in _ (by omega)
        obtain ⟨hb1, hb2⟩ := hb
        clear hX hY ih hr
        have fin : Ending.returned (.tuple #[.int .i64 (R1 : Int), .int .i64 ((R2 : Int) + 1)]) = Ending.returned (.tuple #[.int .i64 (R1 : Int), .int .i64 ((R2 + 1 : Nat) : Int)]) := by rw [Int.natCast_add]; rfl
        rcases h0 with rfl | ⟨a1, a2, a3⟩
        case' inr => have es : IntKind.i64.wrap (256 - (m0 : Int)) = (m : Int) := by rw [IntWalk.i64_in _ (by omega)]; omega
        all_goals
          go_enter Tryd.func19, Tryd.ntmps19
          go_wp2_with fail
          refine (hcall.out _).mono ?_
          rintro e w1 ⟨rfl, rfl⟩
          go_wp2_with fail
          refine (hr1.out _).mono ?_
          rintro e w2 ⟨rfl, rfl⟩
          go_wp2_with fail
          refine (hr2.out _).mono ?_
          rintro e w3 ⟨rfl, rfl⟩
          go_wp2
          go_ret2
          exact ⟨fin, rfl⟩
    rw [if_neg z2] at hq
    cases hr : cq f (2 * m) with
    | none => rw [hr] at hq; cases hq
    | some p =>
      obtain ⟨l', h'⟩ := p
      rw [hr] at hq
      by_cases hb : l' ≤ 1073741824 ∧ h' ≤ 1073741824
      case neg => simp only [if_neg hb] at hq; cases hq
      simp only [if_pos hb] at hq
      injection hq with hq
      injection hq with q1 q2
      have hcall := Lib.hid (fun w => ih.out (2 * m) l' h' (by omega) hr (2 * m) (.inl rfl) w)
      rw [show ((2 * m : Nat) : Int) = 2 * (m : Int) by omega] at hcall
      obtain ⟨hb1, hb2⟩ := hb
      have e1 : IntKind.i64.wrap (1073741824 + (l' : Int)) = 1073741824 + (l' : Int) := IntWalk.i64_in _ (by omega)
      have e2 : IntKind.i64.wrap (1073741824 + (h' : Int)) = 1073741824 + (h' : Int) := IntWalk.i64_in _ (by omega)
      obtain ⟨P1, hP1⟩ : ∃ P, (1073741824 + l') * 536870912 = P := ⟨_, rfl⟩
      obtain ⟨P2, hP2⟩ : ∃ P, (1073741824 + h') * 536870912 = P := ⟨_, rfl⟩
      rw [hP1] at q1
      rw [hP2] at q2
      have p1 : (1073741824 + (l' : Int)) * 536870912 = (P1 : Int) := by omega
      have p2 : (1073741824 + (h' : Int)) * 536870912 = (P2 : Int) := by omega
      have e3 : IntKind.i64.wrap (P1 : Int) = (P1 : Int) := IntWalk.i64_in _ (by omega)
      have e4 : IntKind.i64.wrap (P2 : Int) = (P2 : Int) := IntWalk.i64_in _ (by omega)
      have r1 := rtR_bd P1
      have r2 := rtR_bd P2
      have hr1 := Lib.hid (fun w => root_any P1 w (by omega))
      have hr2 := Lib.hid (fun w => root_any P2 w (by omega))
      clear hP1 hP2
      generalize rtR P1 = R1 at *
      generalize rtR P2 = R2 at *
      subst q1 q2
      have em : IntKind.i64.wrap (2 * (m : Int)) = 2 * (m : Int) := IntWalk.i64_in _ (by omega)
      clear ih hr
      have fin : Ending.returned (.tuple #[.int .i64 (R1 : Int), .int .i64 ((R2 : Int) + 1)]) = Ending.returned (.tuple #[.int .i64 (R1 : Int), .int .i64 ((R2 + 1 : Nat) : Int)]) := by rw [Int.natCast_add]; rfl
      rcases h0 with rfl | ⟨a1, a2, a3⟩
      case' inr => have es : IntKind.i64.wrap (256 - (m0 : Int)) = (m : Int) := by rw [IntWalk.i64_in _ (by omega)]; omega
      all_goals
        go_enter Tryd.func19, Tryd.ntmps19
        go_wp2_with fail
        refine (hcall.out _).mono ?_
        rintro e w1 ⟨rfl, rfl⟩
        go_wp2_with fail
        refine (hr1.out _).mono ?_
        rintro e w2 ⟨rfl, rfl⟩
        go_wp2_with fail
        refine (hr2.out _).mono ?_
        rintro e w3 ⟨rfl, rfl⟩
        go_wp2
        go_ret2
        exact ⟨fin, rfl⟩
end Go.Proofs.YtoljffghaklpdaaDoor
