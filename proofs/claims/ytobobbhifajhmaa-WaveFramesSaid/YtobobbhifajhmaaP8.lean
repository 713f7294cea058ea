/- The frames of a list: the law's walk. -/
import Derived.Test.YtobobbhifajhmaaP7
namespace Go.Proofs.Ytobobbhifajhmaa
open Go.RowKit

abbrev YesP (w : World) (e : Ending) (w' : World) : Prop := e = .returned (.bool true) ∧ Below w.heap.size w w'

/-- the quotient and the product that the law looks at -/
theorem quo_parts {n : Nat} {size step : Int} (hn : n < 250000) (h1 : 0 < size) (h2 : size ≤ 4096) (h3 : 0 < step) : ∃ Q P : Int, (n : Int).tdiv step = Q ∧ Q * size = P ∧ IntKind.i64.wrap Q = Q ∧ IntKind.i64.wrap P = P := by
  refine ⟨_, _, rfl, rfl, ?_, ?_⟩
  all_goals
    rw [Int.tdiv_eq_ediv_of_nonneg (by omega)]
    have a1 : 0 ≤ (n : Int) / step := Int.ediv_nonneg (by omega) (by omega)
    have a2 : (n : Int) / step ≤ n := Int.ediv_le_self _ (by omega)
  · exact IntWalk.i64_in _ (by omega)
  · have a3 : 0 ≤ (n : Int) / step * size := Int.mul_nonneg a1 (by omega)
    have a4 : (n : Int) / step * size ≤ 250000 * 4096 := Int.mul_le_mul (by omega) h2 (by omega) (by omega)
    exact IntWalk.i64_in _ (by omega)

set_option maxHeartbeats 4000000 in
set_option maxRecDepth 100000 in
theorem frames_law (A : Option Addr) (n c : Nat) (xs : List Int) (size step : Int) (pad : Bool) (w : World) (h : Sl .i64 w A n c xs) :
    Calls Try.prog 10 #[.slice A n c, .int .i64 size, .int .i64 step, .bool pad] w (YesP w) := by
  have hcap := h.cap
  have htop := h.top
  cases hsh : shB (n : Int) with
  | false =>
    have hs := Lib.hid hsh
    clear hsh
    go_enter Try.func10, Try.ntmps10
    go_wp2_with fail
    refine (short_any _ _).mono ?_
    rintro e w2 ⟨he, rfl⟩
    rw [hs.out] at he
    subst he
    go_wp2_with fail
    refine (known_any _).mono ?_
    rintro e w7 ⟨rfl, hb7⟩
    go_wp2
    go_ret
    exact ⟨rfl, hb7⟩
  | true =>
    have hs := Lib.hid hsh
    have hn : n < 250000 := by
      unfold shB at hsh
      simp only [Bool.or_eq_true, Bool.and_eq_true, decide_eq_true_eq] at hsh
      omega
    clear hsh
    have hF := Lib.hid (fun w9 (h9 : Sl .i64 w9 A n c xs) => Frames_any A n c xs size step pad w9 h9)
    have hG := Lib.hid (fun w9 (h9 : Sl .i64 w9 A n c xs) => RFrames_any A n c xs size step pad w9 h9)
    generalize (if frC xs size step pad = 0 then fcount n size.toNat step.toNat pad else 0) = N at *
    generalize frC xs size step pad = K at *
    generalize hX : frameL xs size.toNat step.toNat = X at *
    clear hX
    have hcs : ¬ 0 < size ∨ (0 < size ∧ ¬ size ≤ 4096) ∨ (0 < size ∧ size ≤ 4096 ∧ ¬ 0 < step) ∨ (0 < size ∧ size ≤ 4096 ∧ 0 < step) := by omega
    rcases hcs with a1 | ⟨a1, a2⟩ | ⟨a1, a2, a3⟩ | ⟨a1, a2, a3⟩
    case' inl =>
      have d1 : decide (0 < size) = false := decide_eq_false a1
    case' inr.inl =>
      have d1 : decide (0 < size) = true := decide_eq_true a1
      have d2 : decide (size ≤ 4096) = false := decide_eq_false a2
    case' inr.inr.inl =>
      have d1 : decide (0 < size) = true := decide_eq_true a1
      have d2 : decide (size ≤ 4096) = true := decide_eq_true a2
      have d3 : decide (0 < step) = false := decide_eq_false a3
    case' inr.inr.inr =>
      have d1 : decide (0 < size) = true := decide_eq_true a1
      have d2 : decide (size ≤ 4096) = true := decide_eq_true a2
      have d3 : decide (0 < step) = true := decide_eq_true a3
      have hst0 : ¬ step = 0 := by omega
      obtain ⟨Q, P, hQ, hP, hQw, hPw⟩ := quo_parts hn a1 a2 a3
      obtain ⟨b4, d4⟩ : ∃ b, decide (100000 < P) = b := ⟨_, rfl⟩
      obtain ⟨b5, d5⟩ : ∃ b, decide (P < 8000000) = b := ⟨_, rfl⟩
      cases b4 <;> cases b5
    all_goals
      go_enter Try.func10, Try.ntmps10
      go_wp2_with fail
      refine (short_any _ _).mono ?_
      rintro e w2 ⟨he, rfl⟩
      rw [hs.out] at he
      subst he
      go_wp2_with fail
      first
        | (refine (hF.out _ h).mono ?_
           rintro e w1 ⟨A1, c1, B1, L1, C1, rfl, hR1, hb1⟩
           go_wp2_with fail
           refine (hG.out _ (h.below hb1)).mono ?_
           rintro e w2 ⟨A2, c2, B2, L2, C2, rfl, hR2, hb2⟩
           have hR12 := hR1.below hb2
           have hb12 := hb1.trans (hb2.mono hb1.size)
           go_wp2_with fail
           refine (SameLists_eq _ _ _ _ _ _ _ _ _ _ _ _ _ _ hR12 hR2 (fun _ _ => rfl)).mono ?_
           rintro e w3 ⟨rfl, i3, rfl⟩
           have hb3 := bel_drewN hb12 i3
           generalize w2.drewN i3 = w3 at *
           go_wp2_with fail
           refine (known_any _).mono ?_
           rintro e w7 ⟨rfl, hb7⟩
           go_wp2
           go_ret
           exact ⟨rfl, hb3.trans (hb7.mono hb3.size)⟩)
        | (refine (known_any _).mono ?_
           rintro e w7 ⟨rfl, hb7⟩
           go_wp2
           go_ret
           exact ⟨rfl, hb7⟩)
end Go.Proofs.Ytobobbhifajhmaa
