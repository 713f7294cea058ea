/- The size of an integer. -/
import Derived.Test.YtjpdgnbdbpgnmaaDoorPL
namespace Go.Proofs.YtjpdgnbdbpgnmaaDoor.Fr
open Go.RowKit Num

set_option maxHeartbeats 1600000 in
set_option maxRecDepth 100000 in
theorem Size_any (A A' : Option Addr) (n c n' c' : Nat) (xs ys : List Nat) (w : World) (h : Dg .u32 w A n c xs) (h' : Dg .u32 w A' n' c' ys) (hn : n ≤ 1000) (hn' : n' ≤ 1000) (X : Nat) (hX : Hid (vl (bs .u32) xs = X)) (hY : Hid (vl (bs .u32) ys = 0)) :
    Calls Tryd.prog 71 #[.agg #[.bool false, .slice A n c, .slice A' n' c']] w fun e w' => e = .returned (.int .i64 ((bl X : Nat) + 1)) ∧ Below w.heap.size w w' := by
  have B1 := Blk.new w 75 #[.bool false, .slice A n c, .slice A' n' c']
  have hw0 := (Below.refl w.heap.size w).alloc (Nat.le_refl _) (.cells #[.bool false, .slice A n c, .slice A' n' c'] 75)
  have h1 := h.below hw0
  have h2 := h'.below hw0
  have hXb : X < bs .u32 ^ n := by
    have := vl_lt h.ok
    rwa [hX.out, h.len] at this
  have hbl : bl X ≤ 32000 := by
    have h9 : bl X ≤ 32 * n := bl_le (by rw [bs32_pow] at hXb; exact hXb)
    omega
  clear hXb
  have h1b : bl 1 = 1 := by decide
  go_enter Tryd.func71, Tryd.ntmps71
  go_upto_region 1 with fail
  generalize w.alloc (.cells #[.bool false, .slice A n c, .slice A' n' c'] 75) = w1 at *
  have k0 : w1.cell? ⟨w.heap.size, 0, none⟩ = some (.bool false) := B1.cell 0
  have k1 : w1.cell? ⟨w.heap.size, 1, none⟩ = some (.slice A n c) := B1.cell 1
  have k2 : w1.cell? ⟨w.heap.size, 2, none⟩ = some (.slice A' n' c') := B1.cell 2
  go_wp2_with fail
  refine (load_any false _ _ _ _ _ _ _ _ _ h1 h2 (by omega) (by omega)).mono ?_
  rw [hX.out, hY.out]
  rintro r w2 ⟨_, rfl, ⟨_, _, rfl, ⟨A3, m3, c3, us3, rfl, hD3, hN3, hv3, hm3⟩, ⟨A4, m4, c4, us4, rfl, hD4, hN4, hv4, hm4⟩⟩, hb2⟩
  rw [show (false && decide (0 < X)) = false from rfl]
  have hw2 := hw0.trans (hb2.mono hw0.size)
  have hm41 : m4 ≤ 1 := by
    have := len_of_lt hN4 hv4.out (k := 1) (by decide)
    rw [hD4.len] at this
    exact this
  go_wp2_with fail
  refine (reduce_one false _ _ _ _ _ _ _ _ _ hD3 hD4 hN3 hN4 X 1 hv3 hv4 (by omega) hm41 (Nat.gcd_one_right X)).mono ?_
  rintro r w4 ⟨_, rfl, ⟨_, _, rfl, ⟨A5, m5, c5, us5, rfl, hD5, hN5, hv5, hm5⟩, ⟨A6, m6, c6, us6, rfl, hD6, hN6, hv6, hm6⟩⟩, hb4⟩
  have hw4 := hw2.trans (hb4.mono hw2.size)
  have E3 := Blk.new w4 89 #[.bool false, .slice A5 m5 c5, .slice A6 m6 c6]
  have hD5 := hD5.alloc (.cells #[.bool false, .slice A5 m5 c5, .slice A6 m6 c6] 89)
  have hD6 := hD6.alloc (.cells #[.bool false, .slice A5 m5 c5, .slice A6 m6 c6] 89)
  have hw5 := hw4.alloc hw4.size (.cells #[.bool false, .slice A5 m5 c5, .slice A6 m6 c6] 89)
  go_wp2_with fail
  generalize w4.alloc (.cells #[.bool false, .slice A5 m5 c5, .slice A6 m6 c6] 89) = w5 at *
  have q1 : w5.cell? ⟨w4.heap.size, 1, none⟩ = some (.slice A5 m5 c5) := E3.cell 1
  have q2 : w5.cell? ⟨w4.heap.size, 2, none⟩ = some (.slice A6 m6 c6) := E3.cell 2
  have s1 := Lib.hid (fun i => size64_any A5 m5 c5 us5 (w5.drewN i) (hD5.drewN i) hN5 (by omega) X hv5)
  have s2 := Lib.hid (fun i => size64_any A6 m6 c6 us6 (w5.drewN i) (hD6.drewN i) hN6 (by omega) 1 hv6)
  have e1 : IntKind.i64.wrap ((bl X : Nat) + (bl 1 : Nat)) = ((bl X : Nat) : Int) + 1 := by rw [h1b]; exact IntWalk.i64_in _ (by omega)
  clear hD5 hD6 hN5 hN6 hv5 hv6
  go_quiet (first | (go_at_call_of 98 (Value.slice A5 m5 c5); exact Calls.quiet_of_same ((s1.out _).mono fun _ _ h => ⟨h.1, h.2.symm⟩)) | (go_at_call_of 98 (Value.slice A6 m6 c6); exact Calls.quiet_of_same ((s2.out _).mono fun _ _ h => ⟨h.1, h.2.symm⟩)))
  go_wp2
  go_ret
  exact ⟨rfl, bel_drewN hw5 nq⟩
end Go.Proofs.YtjpdgnbdbpgnmaaDoor.Fr
