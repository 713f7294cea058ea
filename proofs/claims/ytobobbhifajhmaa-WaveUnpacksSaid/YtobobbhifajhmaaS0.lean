/- The document's own gate. -/
import Derived.Test.YtobobbhifajhmaaK2
import Derived.Test.YtobobbhifajhmaaL9
namespace Go.Proofs.Ytobobbhifajhmaa
open Go.RowKit

theorem gtB_no {b h l r f d x : Int} (hn : ¬ (1 ≤ b ∧ b ≤ 4096 ∧ 0 ≤ l ∧ l ≤ h ∧ h ≤ 1073741824 ∧ 1 ≤ r ∧ r ≤ 1000 ∧ 1 ≤ f ∧ f ≤ 1000 ∧ 0 ≤ d ∧ d ≤ 1000 ∧ r + f + d ≤ x ∧ x ≤ 100000)) : gtB b h l r f d x = false := by
  cases hv : gtB b h l r f d x with
  | false => rfl
  | true =>
    unfold gtB at hv
    simp only [Bool.and_eq_true, okB_iff] at hv
    omega
theorem gtB_yes {b h l r f d x : Int} (hn : 1 ≤ b ∧ b ≤ 4096 ∧ 0 ≤ l ∧ l ≤ h ∧ h ≤ 1073741824 ∧ 1 ≤ r ∧ r ≤ 1000 ∧ 1 ≤ f ∧ f ≤ 1000 ∧ 0 ≤ d ∧ d ≤ 1000 ∧ r + f + d ≤ x ∧ x ≤ 100000) : gtB b h l r f d x = true := by
  unfold gtB
  simp only [Bool.and_eq_true, okB_iff]
  omega

set_option maxHeartbeats 4000000 in
set_option maxRecDepth 100000 in
theorem RGate_any (b h l r f d x : Int) (w : World) : Calls Try.prog 52 #[gtV b h l r f d x] w fun e w' => e = .returned (.bool (gtB b h l r f d x)) ∧ Below w.heap.size w w' := by
  unfold gtV
  by_cases q0 : 1 ≤ b
  · skip
    by_cases q1 : b ≤ 4096
    · skip
      by_cases q2 : 0 ≤ l
      · skip
        by_cases q3 : l ≤ h
        · skip
          by_cases q4 : h ≤ 1073741824
          · skip
            by_cases q5 : 1 ≤ r
            · skip
              by_cases q6 : r ≤ 1000
              · skip
                by_cases q7 : 1 ≤ f
                · skip
                  by_cases q8 : f ≤ 1000
                  · skip
                    by_cases q9 : 0 ≤ d
                    · skip
                      by_cases q10 : d ≤ 1000
                      · skip
                        by_cases q11 : r + f + d ≤ x
                        · skip
                          by_cases q12 : x ≤ 100000
                          · skip
                            have hv := Lib.hid (gtB_yes ⟨q0, q1, q2, q3, q4, q5, q6, q7, q8, q9, q10, q11, q12⟩)
                            go_enter Try.func52, Try.ntmps52
                            go_wp2
                            go_ret
                            exact ⟨ret_bool hv.out.symm, (Below.refl _ _).alloc (Nat.le_refl _) _⟩
                          · have qd : decide (x ≤ 100000) = false := decide_eq_false q12
                            have hv := Lib.hid (gtB_no (fun hh => q12 (by omega)) : gtB b h l r f d x = false)
                            clear q12
                            go_enter Try.func52, Try.ntmps52
                            go_wp2
                            go_ret
                            exact ⟨ret_bool hv.out.symm, (Below.refl _ _).alloc (Nat.le_refl _) _⟩
                        · have qd : decide (r + f + d ≤ x) = false := decide_eq_false q11
                          have hv := Lib.hid (gtB_no (fun hh => q11 (by omega)) : gtB b h l r f d x = false)
                          clear q11
                          go_enter Try.func52, Try.ntmps52
                          go_wp2
                          go_ret
                          exact ⟨ret_bool hv.out.symm, (Below.refl _ _).alloc (Nat.le_refl _) _⟩
                      · have qd : decide (d ≤ 1000) = false := decide_eq_false q10
                        have hv := Lib.hid (gtB_no (fun hh => q10 (by omega)) : gtB b h l r f d x = false)
                        clear q10
                        go_enter Try.func52, Try.ntmps52
                        go_wp2
                        go_ret
                        exact ⟨ret_bool hv.out.symm, (Below.refl _ _).alloc (Nat.le_refl _) _⟩
                    · have qd : decide (0 ≤ d) = false := decide_eq_false q9
                      have hv := Lib.hid (gtB_no (fun hh => q9 (by omega)) : gtB b h l r f d x = false)
                      clear q9
                      go_enter Try.func52, Try.ntmps52
                      go_wp2
                      go_ret
                      exact ⟨ret_bool hv.out.symm, (Below.refl _ _).alloc (Nat.le_refl _) _⟩
                  · have qd : decide (f ≤ 1000) = false := decide_eq_false q8
                    have hv := Lib.hid (gtB_no (fun hh => q8 (by omega)) : gtB b h l r f d x = false)
                    clear q8
                    go_enter Try.func52, Try.ntmps52
                    go_wp2
                    go_ret
                    exact ⟨ret_bool hv.out.symm, (Below.refl _ _).alloc (Nat.le_refl _) _⟩
                · have qd : decide (1 ≤ f) = false := decide_eq_false q7
                  have hv := Lib.hid (gtB_no (fun hh => q7 (by omega)) : gtB b h l r f d x = false)
                  clear q7
                  go_enter Try.func52, Try.ntmps52
                  go_wp2
                  go_ret
                  exact ⟨ret_bool hv.out.symm, (Below.refl _ _).alloc (Nat.le_refl _) _⟩
              · have qd : decide (r ≤ 1000) = false := decide_eq_false q6
                have hv := Lib.hid (gtB_no (fun hh => q6 (by omega)) : gtB b h l r f d x = false)
                clear q6
                go_enter Try.func52, Try.ntmps52
                go_wp2
                go_ret
                exact ⟨ret_bool hv.out.symm, (Below.refl _ _).alloc (Nat.le_refl _) _⟩
            · have qd : decide (1 ≤ r) = false := decide_eq_false q5
              have hv := Lib.hid (gtB_no (fun hh => q5 (by omega)) : gtB b h l r f d x = false)
              clear q5
              go_enter Try.func52, Try.ntmps52
              go_wp2
              go_ret
              exact ⟨ret_bool hv.out.symm, (Below.refl _ _).alloc (Nat.le_refl _) _⟩
          · have qd : decide (h ≤ 1073741824) = false := decide_eq_false q4
            have hv := Lib.hid (gtB_no (fun hh => q4 (by omega)) : gtB b h l r f d x = false)
            clear q4
            go_enter Try.func52, Try.ntmps52
            go_wp2
            go_ret
            exact ⟨ret_bool hv.out.symm, (Below.refl _ _).alloc (Nat.le_refl _) _⟩
        · have qd : decide (l ≤ h) = false := decide_eq_false q3
          have hv := Lib.hid (gtB_no (fun hh => q3 (by omega)) : gtB b h l r f d x = false)
          clear q3
          go_enter Try.func52, Try.ntmps52
          go_wp2
          go_ret
          exact ⟨ret_bool hv.out.symm, (Below.refl _ _).alloc (Nat.le_refl _) _⟩
      · have qd : decide (0 ≤ l) = false := decide_eq_false q2
        have hv := Lib.hid (gtB_no (fun hh => q2 (by omega)) : gtB b h l r f d x = false)
        clear q2
        go_enter Try.func52, Try.ntmps52
        go_wp2
        go_ret
        exact ⟨ret_bool hv.out.symm, (Below.refl _ _).alloc (Nat.le_refl _) _⟩
    · have qd : decide (b ≤ 4096) = false := decide_eq_false q1
      have hv := Lib.hid (gtB_no (fun hh => q1 (by omega)) : gtB b h l r f d x = false)
      clear q1
      go_enter Try.func52, Try.ntmps52
      go_wp2
      go_ret
      exact ⟨ret_bool hv.out.symm, (Below.refl _ _).alloc (Nat.le_refl _) _⟩
  · have qd : decide (1 ≤ b) = false := decide_eq_false q0
    have hv := Lib.hid (gtB_no (fun hh => q0 (by omega)) : gtB b h l r f d x = false)
    clear q0
    go_enter Try.func52, Try.ntmps52
    go_wp2
    go_ret
    exact ⟨ret_bool hv.out.symm, (Below.refl _ _).alloc (Nat.le_refl _) _⟩
end Go.Proofs.Ytobobbhifajhmaa
