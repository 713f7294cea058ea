/- An integer as a number. -/
import Derived.Test.YtjpdgnbdbpgnmaaDoorPG
namespace Go.Proofs.YtjpdgnbdbpgnmaaDoor.Fr
open Go.RowKit Num

theorem nv_one {w : World} {v : Value} {x L : Nat} (h : NV .u64 w v x L) (hx : x ≤ 18446744073709551615) : NV .u64 w v x 1 := by
  obtain ⟨A, m, c, us, e, hD, h1, h2, _⟩ := h
  refine ⟨A, m, c, us, e, hD, h1, h2, ?_⟩
  rcases (show m ≤ 1 ∨ 2 ≤ m by omega) with hm | hm
  · exact hm
  · have h3 := h1.le (b := bs .u64) (by rw [hD.len]; omega)
    rw [h2.out, hD.len] at h3
    have h4 : bs .u64 ^ 1 ≤ bs .u64 ^ (m - 1) := Nat.pow_le_pow_right (by decide) (by omega)
    have h5 : bs .u64 ^ 1 = 18446744073709551616 := by decide
    omega

theorem of_any (n : Int) (w : World) (hr : -9223372036854775808 ≤ n ∧ n ≤ 9223372036854775807) :
    Calls Tryd.prog 70 #[.int .i64 n] w fun e w' => ∃ v, e = .returned v ∧ FV w' v (decide (n < 0)) n.natAbs 0 2 ∧ Below w.heap.size w w' := by
  have B2 := Blk.new w 75 #[.bool false, .slice none 0 0, .slice none 0 0]
  have hw0 := (Below.refl w.heap.size w).alloc (Nat.le_refl _) (.cells #[.bool false, .slice none 0 0, .slice none 0 0] 75)
  go_enter Tryd.func70, Tryd.ntmps70
  go_wp2_with fail
  generalize w.alloc (.cells #[.bool false, .slice none 0 0, .slice none 0 0] 75) = w1 at *
  refine (whole_any n _ hr).mono ?_
  rintro e w2 ⟨_, rfl, ⟨_, _, rfl, ⟨A3, m3, c3, us3, rfl, hD3, hN3, hv3, hm3⟩, ⟨A4, m4, c4, us4, rfl, hD4, hN4, hv4, hm4⟩⟩, hb2⟩
  have C2 := B2.below hb2
  have hw2 := hw0.trans (hb2.mono hw0.size)
  go_wp2_with fail
  refine (keep_any _ _ _ _ _ _ _ _ _ _ hD3 hD4 hN3 hN4 _ _ hv3 hv4 (by omega) (by omega)).mono ?_
  rintro e w3 ⟨_, rfl, ⟨_, _, rfl, n5, n6⟩, hb3⟩
  have C3 := C2.below hb3
  have hw3 := hw2.trans (hb3.mono hw2.size)
  have r0 := C3.cell 0
  have r1 := C3.cell 1
  have r2 := C3.cell 2
  have f0 := C3.frozen 0
  have f1 := C3.frozen 1
  have f2 := C3.frozen 2
  have n5' := (n5.le (show 2 * max m3 m4 ≤ 2 by omega))
  have n6' := (n6.le (show 2 * max m3 m4 ≤ 2 by omega))
  obtain ⟨A5, m5, c5, us5, rfl, _⟩ := n5
  obtain ⟨A6, m6, c6, us6, rfl, _⟩ := n6
  go_wp2
  exact ret_frac rfl rfl (((C3.set_ 0 _).set_ 1 _).set_ 2 _) rfl ⟨_, rfl, ⟨_, _, rfl, nv_set3 n5' C3 _ _ _, nv_set3 n6' C3 _ _ _⟩, bel_set3 hw3 (by omega) _ _ _⟩

end Go.Proofs.YtjpdgnbdbpgnmaaDoor.Fr
