import Derived.Test.YtfgiiidfpbpniaaGreatDoorA8

namespace Go.Proofs.YtfgiiidfpbpniaaGreatDoor.Fr
open Go.RowKit Num

theorem ret_u64 {a b : Int} (h : a = b) : Ending.returned (.int .u64 a) = .returned (.int .u64 b) := by rw [h]
/-- the natural number of an int's size -/
theorem size_any (n : Int) (w : World) (h : -9223372036854775808 ≤ n ∧ n ≤ 9223372036854775807) :
    Calls Tryz.prog 69 #[.int .i64 n] w fun e w' => e = .returned (.int .u64 (n.natAbs : Int)) ∧ w = w' := by
  by_cases h0 : n < 0
  · have hf := Lib.hid (u64_negneg n ⟨h.1, h0⟩)
    go_enter Tryz.func69, Tryz.ntmps69
    go_wp2
    go_ret
    exact ⟨ret_u64 hf.out, rfl⟩
  · have hf := Lib.hid (show n = (n.natAbs : Int) by omega)
    go_enter Tryz.func69, Tryz.ntmps69
    go_wp2
    go_ret
    exact ⟨ret_u64 hf.out, rfl⟩

theorem natural_any (x : Nat) (w : World) (hx : x ≤ 18446744073709551615) :
    Calls Tryz.prog 68 #[.int .u64 (x : Int)] w (RetN .u32 w x 2) := by
  have hD := Dg.lit2 .u32 w 112 (x % 4294967296) (x / 4294967296) (Nat.mod_lt _ (by decide)) (by show _ < 4294967296; omega)
  go_enter Tryz.func68, Tryz.ntmps68
  go_wp2_with fail
  refine (trim_any _ _ _ _ _ hD).mono ?_
  rintro e w' ⟨rfl, rfl⟩
  go_wp2
  go_ret
  exact RetN.tr hD (by simp [vl]; show _ + 4294967296 * _ = _; omega) (Nat.le_refl _) ((Below.refl _ _).alloc (Nat.le_refl _) _)

end Go.Proofs.YtfgiiidfpbpniaaGreatDoor.Fr
