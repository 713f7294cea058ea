/- A listener is made and closed. -/
import Derived.Test.YtobobbhifajhmaaL6
namespace Go.Proofs.Ytobobbhifajhmaa
open Go.RowKit

/-- is a gate as it has to be? -/
def gtB (b h l r f d x : Int) : Bool := okB 1 4096 b && okB 0 1073741824 h && okB 0 h l && okB 1 1000 r && okB 1 1000 f && okB 0 1000 d && okB (r + f + d) 100000 x
def gtV (b h l r f d x : Int) : Value := .agg #[.int .i64 b, .int .i64 h, .int .i64 l, .int .i64 r, .int .i64 f, .int .i64 d, .int .i64 x]

set_option maxHeartbeats 1600000 in
theorem validGate_any (b h l r f d x : Int) (w : World) :
    Calls Try.prog 87 #[gtV b h l r f d x] w fun e w' => e = .returned (.bool (gtB b h l r f d x)) ∧ Below w.heap.size w w' := by
  unfold gtV
  cases q0 : okB 1 4096 b with
  | false =>
    have hv := Lib.hid (show gtB b h l r f d x = false by unfold gtB; rw [q0]; rfl)
    go_enter Try.func87, Try.ntmps87
    go_wp2_with (go_at_call 70; refine (within_any _ _ _ _).mono ?_; rintro e w' ⟨rfl, rfl⟩)
    go_ret
    exact ⟨ret_bool hv.out.symm, (Below.refl _ _).alloc (Nat.le_refl _) _⟩
  | true =>
    cases q1 : okB 0 1073741824 h with
    | false =>
      have hv := Lib.hid (show gtB b h l r f d x = false by unfold gtB; rw [q0, q1]; rfl)
      go_enter Try.func87, Try.ntmps87
      go_wp2_with (go_at_call 70; refine (within_any _ _ _ _).mono ?_; rintro e w' ⟨rfl, rfl⟩)
      go_ret
      exact ⟨ret_bool hv.out.symm, (Below.refl _ _).alloc (Nat.le_refl _) _⟩
    | true =>
      cases q2 : okB 0 h l with
      | false =>
        have hv := Lib.hid (show gtB b h l r f d x = false by unfold gtB; rw [q0, q1, q2]; rfl)
        go_enter Try.func87, Try.ntmps87
        go_wp2_with (go_at_call 70; refine (within_any _ _ _ _).mono ?_; rintro e w' ⟨rfl, rfl⟩)
        go_ret
        exact ⟨ret_bool hv.out.symm, (Below.refl _ _).alloc (Nat.le_refl _) _⟩
      | true =>
        cases q3 : okB 1 1000 r with
        | false =>
          have hv := Lib.hid (show gtB b h l r f d x = false by unfold gtB; rw [q0, q1, q2, q3]; rfl)
          go_enter Try.func87, Try.ntmps87
          go_wp2_with (go_at_call 70; refine (within_any _ _ _ _).mono ?_; rintro e w' ⟨rfl, rfl⟩)
          go_ret
          exact ⟨ret_bool hv.out.symm, (Below.refl _ _).alloc (Nat.le_refl _) _⟩
        | true =>
          cases q4 : okB 1 1000 f with
          | false =>
            have hv := Lib.hid (show gtB b h l r f d x = false by unfold gtB; rw [q0, q1, q2, q3, q4]; rfl)
            go_enter Try.func87, Try.ntmps87
            go_wp2_with (go_at_call 70; refine (within_any _ _ _ _).mono ?_; rintro e w' ⟨rfl, rfl⟩)
            go_ret
            exact ⟨ret_bool hv.out.symm, (Below.refl _ _).alloc (Nat.le_refl _) _⟩
          | true =>
            cases q5 : okB 0 1000 d with
            | false =>
              have hv := Lib.hid (show gtB b h l r f d x = false by unfold gtB; rw [q0, q1, q2, q3, q4, q5]; rfl)
              go_enter Try.func87, Try.ntmps87
              go_wp2_with (go_at_call 70; refine (within_any _ _ _ _).mono ?_; rintro e w' ⟨rfl, rfl⟩)
              go_ret
              exact ⟨ret_bool hv.out.symm, (Below.refl _ _).alloc (Nat.le_refl _) _⟩
            | true =>
              cases q6 : okB (r + f + d) 100000 x with
              | false =>
                have hv := Lib.hid (show gtB b h l r f d x = false by unfold gtB; rw [q0, q1, q2, q3, q4, q5, q6]; rfl)
                have b4 := okB_iff.1 q3
                have b5 := okB_iff.1 q4
                have b6 := okB_iff.1 q5
                go_enter Try.func87, Try.ntmps87
                go_wp2_with (go_at_call 70; refine (within_any _ _ _ _).mono ?_; rintro e w' ⟨rfl, rfl⟩)
                go_ret
                exact ⟨ret_bool hv.out.symm, (Below.refl _ _).alloc (Nat.le_refl _) _⟩
              | true =>
                have hv := Lib.hid (show gtB b h l r f d x = true by unfold gtB; rw [q0, q1, q2, q3, q4, q5, q6]; rfl)
                have b4 := okB_iff.1 q3
                have b5 := okB_iff.1 q4
                have b6 := okB_iff.1 q5
                go_enter Try.func87, Try.ntmps87
                go_wp2_with (go_at_call 70; refine (within_any _ _ _ _).mono ?_; rintro e w' ⟨rfl, rfl⟩)
                go_ret
                exact ⟨ret_bool hv.out.symm, (Below.refl _ _).alloc (Nat.le_refl _) _⟩
end Go.Proofs.Ytobobbhifajhmaa
