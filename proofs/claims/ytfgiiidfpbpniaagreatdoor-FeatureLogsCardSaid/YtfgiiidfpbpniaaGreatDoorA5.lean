import Derived.Test.YtfgiiidfpbpniaaGreatDoorA4
import Derived.Test.YtfgiiidfpbpniaaGreatDoorA1

namespace Go.Proofs.YtfgiiidfpbpniaaGreatDoor.Fr
open Go.RowKit Num

set_option maxHeartbeats 800000 in
theorem bits_any (A : Option Addr) (n c : Nat) (xs : List Nat) (w : World) (h : Dg .u32 w A n c xs) (hn : n ≤ 1000000) :
    Calls Tryz.prog 125 #[.slice A n c] w fun e w' => e = .returned (.int .i64 (bl (vl (bs .u32) xs))) ∧ w = w' := by
  have k1 := h.tr
  have hc1 := k1.cap
  have ht1 := k1.top
  have hN := nrm_tr xs
  have HV := Lib.hid (vl_tr (bs .u32) xs)
  have hle := len_tl h.len
  go_enter Tryz.func125, Tryz.ntmps125
  go_wp2_with fail
  refine (trim_any A n c xs w h).mono ?_
  rintro e w' ⟨rfl, rfl⟩
  clear h
  generalize tr xs = us at *
  generalize tl xs = p at *
  cases p with
  | zero =>
    have hz : Hid (bl (vl (bs .u32) xs) = 0) := by rw [← HV.out, List.eq_nil_of_length_eq_zero k1.len]; rfl
    go_wp2
    go_ret
    exact ⟨ret_i64 (by rw [hz.out]; rfl), rfl⟩
  | succ p =>
    obtain ⟨ad, x, rfl, hcx, hx⟩ := k1.at_ (j := p) (by omega)
    have hxb : x ≤ 4294967295 := Nat.le_of_lt_succ hx.out.2
    have h0 := nrm_top hN k1.len hx.out.1
    have hb := bl_vl k1.len k1.ok hx.out.1 h0
    rw [HV.out] at hb
    have Hb := Lib.hid hb
    clear hb
    have hbx := bl_le (k := 32) (by omega : x < 2 ^ 32)
    have hne : (((p + 1 : Nat) : Int) == 0) = false := by rw [beq_eq_false_iff_ne]; omega
    go_wp2
    go_loop [3, 4] (fun m y => ∃ a b : Nat, m = .int .i64 a ∧ y = .int .u32 b ∧ b ≤ 4294967295 ∧ a ≤ 32000000 + bl x - bl b ∧ bl b ≤ bl x ∧ Hid (a + bl b = 32 * p + bl x)) (fun _ y => (intOf y).toNat)
    case atStart => exact ⟨32 * p, x, by congr 1, rfl, hxb, by omega, Nat.le_refl _, rfl⟩
    case round =>
      obtain ⟨a, b, rfl, rfl, hb1, ha, hbb, hab⟩ := hrel
      by_cases hbz : 0 < b
      · have hbh := Lib.hid (bl_half hbz)
        go_wp2
        go_round
        case rel =>
          have := hbh.out
          have := hab.out
          exact ⟨a + 1, b / 2, by go_num, by go_num, by omega, by omega, by omega, by show _ = _; omega⟩
        case measure => simp [intOf]; omega
      · obtain rfl : b = 0 := by omega
        go_wp2
        go_ret
        exact ⟨ret_i64 (by rw [Hb.out, ← hab.out]; rfl), rfl⟩
end Go.Proofs.YtfgiiidfpbpniaaGreatDoor.Fr
