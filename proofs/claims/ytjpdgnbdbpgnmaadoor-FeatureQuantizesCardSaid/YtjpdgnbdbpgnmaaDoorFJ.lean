/- Logarithms: the program's. -/
import Derived.Test.YtjpdgnbdbpgnmaaDoorFI
import Derived.Test.YtjpdgnbdbpgnmaaDoorPM
namespace Go.Proofs.YtjpdgnbdbpgnmaaDoor
open Go.RowKit

/-- 16 times the logarithm to base 2, rounded down; -16 for 0 -/
def lg (e : Nat) : Int := if e = 0 then -16 else (Fr.bl (e ^ 16) : Nat) - 1

theorem bl_pow (m e : Nat) (he : 0 < e) (h : m < 2 ^ 64) : Fr.bl (m ^ e) ≤ 64 * e := Fr.bl_le (by rw [Nat.pow_mul]; exact Nat.pow_lt_pow_left h (by omega))

set_option maxHeartbeats 1600000 in
set_option maxRecDepth 100000 in
theorem Log_any (e : Int) (w : World) (he : e ≤ 9223372036854775807) :
    Calls Tryd.prog 35 #[.int .i64 e] w fun r w' => r = .returned (if e < 0 then .tuple #[.int .i64 0, .int .i64 2] else .tuple #[.int .i64 (lg e.toNat), .int .i64 0]) ∧ Below w.heap.size w w' := by
  by_cases h0 : e < 0
  · rw [if_pos h0]
    go_enter Tryd.func35, Tryd.ntmps35
    go_wp2
    go_ret2
    exact ⟨rfl, Below.refl _ _⟩
  · rw [if_neg h0]
    obtain ⟨m, rfl⟩ : ∃ m : Nat, e = (m : Int) := ⟨e.toNat, by omega⟩
    have hd : decide ((m : Int) < 0) = false := decide_eq_false h0
    rcases Nat.eq_zero_or_pos m with rfl | hm
    · go_enter Tryd.func35, Tryd.ntmps35
      go_wp2
      go_ret2
      exact ⟨rfl, Below.refl _ _⟩
    · have hv := Lib.hid (show lg (m : Int).toNat = (Fr.bl (m ^ 16) : Nat) - 1 by unfold lg; rw [Int.toNat_natCast, if_neg (by omega)])
      have hz : ((m : Int) == 0) = false := by rw [beq_eq_false_iff_ne]; omega
      have hmb := Lib.hid (show m < Fr.bs .u64 from (by show m < 18446744073709551616; omega))
      have hbl := bl_pow m 16 (by decide) (by omega)
      go_enter Tryd.func35, Tryd.ntmps35
      go_wp2_with fail
      refine (Fr.of_any (m : Int) w (by omega)).mono ?_
      rintro r w2 ⟨_, rfl, ⟨_, _, rfl, ⟨A3, m3, c3, us3, rfl, hD3, hN3, hv3, hm3⟩, ⟨A4, m4, c4, us4, rfl, hD4, hN4, hv4, hm4⟩⟩, hb2⟩
      rw [hd]
      rw [Int.natAbs_natCast] at hv3
      go_wp2_with fail
      refine (Fr.Pow_any _ _ _ _ _ _ _ _ _ hD3 hD4 hm3 hm4 m 16 hv3 hv4 (by decide) hmb).mono ?_
      rintro r w3 ⟨_, rfl, ⟨_, _, rfl, ⟨A5, m5, c5, us5, rfl, hD5, hN5, hv5, hm5⟩, ⟨A6, m6, c6, us6, rfl, hD6, hN6, hv6, hm6⟩⟩, hb3⟩
      have hb4 := hb2.trans (hb3.mono hb2.size)
      have B := Blk.new w3 75 #[.bool false, .slice A5 m5 c5, .slice A6 m6 c6]
      have hD5 := hD5.alloc (.cells #[.bool false, .slice A5 m5 c5, .slice A6 m6 c6] 75)
      have hD6 := hD6.alloc (.cells #[.bool false, .slice A5 m5 c5, .slice A6 m6 c6] 75)
      have hb5 := hb4.alloc hb4.size (.cells #[.bool false, .slice A5 m5 c5, .slice A6 m6 c6] 75)
      go_wp2_with fail
      refine (Fr.Size_any _ _ _ _ _ _ _ _ _ hD5 hD6 (by omega) (by omega) _ hv5 hv6).mono ?_
      rintro r w6 ⟨rfl, hb6⟩
      have hb7 := hb5.trans (hb6.mono hb5.size)
      generalize Fr.bl (m ^ 16) = L at *
      go_wp2
      go_ret2
      exact ⟨by rw [hv.out, show ((L : Int) - 1) = (L : Int) + 1 - 2 by omega]; rfl, hb7⟩
end Go.Proofs.YtjpdgnbdbpgnmaaDoor
