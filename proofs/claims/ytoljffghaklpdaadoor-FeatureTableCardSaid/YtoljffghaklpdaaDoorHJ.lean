/- All elements of the extended table of cosines: the law's walk. -/
import Derived.Test.YtoljffghaklpdaaDoorHI
namespace Go.Proofs.YtoljffghaklpdaaDoor
open Go.RowKit

set_option maxHeartbeats 400000 in
set_option maxRecDepth 100000 in
theorem cos2 (q l h : Nat) (hq : q < 64) (hc : cq 16 q = some (l, h)) (hl : l ≤ 4294967296) (hh : h ≤ 4294967296) (m0 : Nat) (h0 : 128 - m0 = q ∧ m0 ≤ 128 ∨ (128 < m0 ∧ m0 ≤ 256 ∧ 128 - (256 - m0) = q)) (w : World) :
    Calls Tryd.prog 19 #[.int .i64 (m0 : Int)] w fun e w' => e = .returned (.tuple #[.int .i64 (-(h : Int)), .int .i64 (-(l : Int))]) ∧ w' = w := by
  have hcall := Lib.hid (fun w => cos1 16 q l h (by omega) hc q (.inl rfl) w)
  clear hc
  have e1 : IntKind.i64.wrap (-(h : Int)) = -(h : Int) := IntWalk.i64_in _ (by omega)
  have e2 : IntKind.i64.wrap (-(l : Int)) = -(l : Int) := IntWalk.i64_in _ (by omega)
  obtain ⟨m, hm⟩ : ∃ m, m = 128 - q := ⟨_, rfl⟩
  have em : IntKind.i64.wrap (128 - (m : Int)) = (q : Int) := by rw [IntWalk.i64_in _ (by omega)]; omega
  have m1 : 64 < m := by omega
  have m2 : m ≤ 128 := by omega
  rcases h0 with ⟨h0, h1⟩ | ⟨a1, a2, a3⟩
  · obtain rfl : m0 = m := by omega
    clear hm h0
    go_enter Tryd.func19, Tryd.ntmps19
    go_wp2_with fail
    refine (hcall.out _).mono ?_
    rintro e w1 ⟨rfl, rfl⟩
    go_wp2
    go_ret2
    exact ⟨rfl, rfl⟩
  · have es : IntKind.i64.wrap (256 - (m0 : Int)) = (m : Int) := by rw [IntWalk.i64_in _ (by omega)]; omega
    clear hm a3
    go_enter Tryd.func19, Tryd.ntmps19
    go_wp2_with fail
    refine (hcall.out _).mono ?_
    rintro e w1 ⟨rfl, rfl⟩
    go_wp2
    go_ret2
    exact ⟨rfl, rfl⟩

theorem wf_hi {n : Int} (h : (Lit.int .i64 n).wf = true) : n ≤ 9223372036854775807 := by
  unfold Lit.wf at h
  simp only [Bool.and_eq_true, decide_eq_true_eq] at h
  exact h.2

def encl (m : Nat) : Option (Int × Int) :=
  if 64 < (if 128 < m then 256 - m else m) then
    match cq 16 (128 - (if 128 < m then 256 - m else m)) with
    | some (l, h) => if l ≤ 4294967296 ∧ h ≤ 4294967296 then some (-(h : Int), -(l : Int)) else none
    | none => none
  else
    match cq 16 (if 128 < m then 256 - m else m) with
    | some (l, h) => some ((l : Int), (h : Int))
    | none => none
def okT (m : Nat) : Bool :=
  match encl m with
  | some (a, b) => decide ((2 * cs m - 1) * 32768 ≤ b) && decide (a ≤ (2 * cs m + 1) * 32768) && decide (cs (256 - m) = cs m)
  | none => false
set_option maxRecDepth 1000000 in
theorem okT_all : ∀ m, m < 256 → okT m = true := by decide +kernel

theorem encl_any (m : Nat) (hm : m < 256) (a b : Int) (he : encl m = some (a, b)) (w : World) :
    Calls Tryd.prog 19 #[.int .i64 (m : Int)] w fun e w' => e = .returned (.tuple #[.int .i64 a, .int .i64 b]) ∧ w' = w := by
  unfold encl at he
  by_cases h1 : 64 < (if 128 < m then 256 - m else m)
  · rw [if_pos h1] at he
    cases hr : cq 16 (128 - (if 128 < m then 256 - m else m)) with
    | none => rw [hr] at he; cases he
    | some p =>
      obtain ⟨l, h⟩ := p
      rw [hr] at he
      by_cases hb : l ≤ 4294967296 ∧ h ≤ 4294967296
      case neg => simp only [if_neg hb] at he; cases he
      simp only [if_pos hb] at he
      injection he with he
      injection he with q1 q2
      subst q1 q2
      refine cos2 _ l h (by omega) hr hb.1 hb.2 m ?_ w
      · split at h1 <;> rename_i h2
        · right; rw [if_pos h2]; omega
        · left; rw [if_neg h2]; omega
  · rw [if_neg h1] at he
    cases hr : cq 16 (if 128 < m then 256 - m else m) with
    | none => rw [hr] at he; cases he
    | some p =>
      obtain ⟨l, h⟩ := p
      rw [hr] at he
      injection he with he
      injection he with q1 q2
      subst q1 q2
      refine cos1 16 _ l h (by omega) hr m ?_ w
      split at h1 <;> rename_i h2
      · right; rw [if_pos h2]; omega
      · left; rw [if_neg h2]

theorem cs_mod (j : Nat) : cs (j % 256) = cs j := by unfold cs; rw [Nat.mod_mod]
theorem table_all (m : Nat) (hm : m < 256) : ∃ a b : Int, encl m = some (a, b) ∧ (2 * cs m - 1) * 32768 ≤ b ∧ a ≤ (2 * cs m + 1) * 32768 ∧ cs (256 - m) = cs m := by
  have h := okT_all m hm
  unfold okT at h
  cases he : encl m with
  | none => rw [he] at h; cases h
  | some p =>
    obtain ⟨a, b⟩ := p
    rw [he] at h
    simp only [Bool.and_eq_true, decide_eq_true_eq] at h
    exact ⟨a, b, rfl, h.1.1, h.1.2, h.2⟩

set_option maxHeartbeats 3200000 in
set_option maxRecDepth 100000 in
theorem table_law (j : Int) (w : World) (hj : j ≤ 9223372036854775807) (hT : Tab w) :
    Calls Tryd.prog 3 #[.int .i64 j] w (YesF w) := by
  rcases Int.lt_or_le j 0 with h0 | h0
  · have hC := Lib.hid (Cosine_any j w hT hj)
    go_enter Tryd.func3, Tryd.ntmps3
    go_wp2_with fail
    refine hC.out.mono ?_
    rintro e w1 ⟨he, rfl⟩
    rw [if_pos h0] at he
    subst he
    go_wp2_with (go_at_call 17; refine (known_any _ hT).mono ?_; rintro e w7 ⟨rfl, hb7⟩)
    go_ret
    exact ⟨rfl, hb7⟩
  · obtain ⟨J, rfl⟩ : ∃ J : Nat, j = (J : Int) := ⟨j.toNat, by omega⟩
    obtain ⟨m, hm⟩ : ∃ m, J % 256 = m := ⟨_, rfl⟩
    have hm2 : m < 256 := by omega
    have hmi : Int.tmod (J : Int) 256 = (m : Int) := by rw [Int.tmod_eq_emod_of_nonneg (by omega)]; omega
    have hC := Lib.hid (Cosine_any J w hT hj)
    have hR := Lib.hid (RC_any J w hT (by omega))
    rw [if_neg (by omega), Int.toNat_natCast, ← cs_mod J, hm] at hC
    rw [← cs_mod J, hm] at hR
    have hD := Lib.hid (Cosine_any ((256 - m : Nat) : Int) w hT (by omega))
    obtain ⟨a, b, he, t1, t2, t3⟩ := table_all m hm2
    rw [if_neg (by omega), Int.toNat_natCast, t3] at hD
    have hE := Lib.hid (fun w => encl_any m hm2 a b he w)
    have hb := cs_bd m
    generalize cs m = K at *
    rw [show ((256 - m : Nat) : Int) = 256 - (m : Int) by omega] at hD
    have e1 : IntKind.i64.wrap (m : Int) = (m : Int) := IntWalk.i64_in _ (by omega)
    have e2 : IntKind.i64.wrap (256 - (m : Int)) = 256 - (m : Int) := IntWalk.i64_in _ (by omega)
    have e3 : IntKind.i64.wrap (2 * K) = 2 * K := IntWalk.i64_in _ (by omega)
    have e4 : IntKind.i64.wrap (2 * K - 1) = 2 * K - 1 := IntWalk.i64_in _ (by omega)
    have e5 : IntKind.i64.wrap (2 * K + 1) = 2 * K + 1 := IntWalk.i64_in _ (by omega)
    have e6 : IntKind.i64.wrap ((2 * K - 1) * 32768) = (2 * K - 1) * 32768 := IntWalk.i64_in _ (by omega)
    have e7 : IntKind.i64.wrap ((2 * K + 1) * 32768) = (2 * K + 1) * 32768 := IntWalk.i64_in _ (by omega)
    clear he hm
    go_enter Tryd.func3, Tryd.ntmps3
    go_wp2_with fail
    refine hC.out.mono ?_
    rintro e w1 ⟨rfl, rfl⟩
    go_wp2_with (first
      | (go_at_call 18; refine hR.out.mono ?_; rintro e w2 ⟨rfl, hw2⟩; subst hw2)
      | (go_at_call 16; refine hD.out.mono ?_; rintro e w3 ⟨rfl, hw3⟩; subst hw3)
      | (go_at_call 19; refine (hE.out _).mono ?_; rintro e w4 ⟨rfl, hw4⟩; subst hw4)
      | (go_at_call 17; refine (known_any _ hT).mono ?_; rintro e w7 ⟨rfl, hb7⟩))
    go_ret
    exact ⟨rfl, hb7⟩
end Go.Proofs.YtoljffghaklpdaaDoor
