/- The document's Int: the whole number of a fraction that is one, if it fits. -/
import Derived.Test.YtanaljnclajkdaaGreatDoorHF
import Derived.Test.YtanaljnclajkdaaGreatDoorA5
namespace Go.Proofs.YtanaljnclajkdaaGreatDoor.Fr
open Go.RowKit Num

def InI (z : Int) : Prop := -9223372036854775808 ≤ z ∧ z ≤ 9223372036854775807
theorem ret_w3 {a b : Int} {c d : Bool} (h : a = b) (h2 : c = d) : Ending.returned (.tuple #[.int .i64 a, .bool c]) = Ending.returned (.tuple #[.int .i64 b, .bool d]) := by rw [h, h2]

set_option linter.unusedSimpArgs false in
set_option maxHeartbeats 6400000 in
set_option maxRecDepth 100000 in
theorem refIntQ (v1 : Value) (z : Int) (L : Nat) (w : World) (h1 : FQ w v1 (z : Rat) L) :
    Calls Tryz.prog 34 #[v1] w fun e w' => Below w.heap.size w w' ∧ (InI z → e = .returned (.tuple #[.int .i64 z, .bool true])) ∧ (¬ InI z → ∃ x, e = .returned (.tuple #[.int .i64 x, .bool false])) := by
  obtain ⟨_, _, rfl, ⟨A1, n1, c1, us1, rfl, d1, N1, hv1, l1⟩, ⟨A2, n2, c2, us2, rfl, d2, N2, hv2, l2⟩⟩ := h1
  rw [Rat.num_intCast] at hv1 ⊢
  clear hv2 N2 d2 l2 l1 N1
  obtain ⟨s, hs0⟩ : ∃ s, s = decide (z < 0) := ⟨_, rfl⟩
  rw [← hs0]
  have hs := Lib.hid hs0
  clear hs0
  have B1 := Blk.new w 24 #[.bool s, .slice A1 n1 c1, .slice A2 n2 c2]
  have hw0 := (Below.refl w.heap.size w).alloc (Nat.le_refl _) (.cells #[.bool s, .slice A1 n1 c1, .slice A2 n2 c2] 24)
  have d1 := d1.below hw0
  go_enter Tryz.func34, Tryz.ntmps34
  go_upto_region 1 with fail
  generalize w.alloc (.cells #[.bool s, .slice A1 n1 c1, .slice A2 n2 c2] 24) = w1 at *
  have r1 := B1.cell 1
  go_wp2_with fail
  clear r1
  refine (trimB _ _ _ _ _ d1).mono ?_
  rintro e w2 ⟨m, zs, rfl, hD, hN, hv, hm, hb⟩
  have hw2 := hw0.trans (hb.mono hw0.size)
  have hv0 : vl (bs .u32) zs = z.natAbs := hv.out.trans hv1.out
  have r0 : w2.cell? ⟨w.heap.size, 0, none⟩ = some (.bool s) := (B1.below hb).cell 0
  clear hv hv1 d1 hb B1 hm
  have t1 := hD.cap
  have t2 := hD.top
  by_cases hm2 : 2 < m
  · have hg : (2 : Int) < (m : Int) := by omega
    have hbig : bs .u32 ^ 2 ≤ z.natAbs := by
      rcases Nat.lt_or_ge z.natAbs (bs .u32 ^ 2) with h | h
      · have := len_lt32 hN hv0 h
        rw [hD.len] at this
        omega
      · exact h
    have hbigH := Lib.hid (show ¬ InI z by
      have h3 : bs .u32 ^ 2 = 18446744073709551616 := by decide
      unfold InI
      omega)
    clear hv0 hbig
    go_wp2
    go_ret2
    exact ⟨hw2, fun h => absurd h hbigH.out, fun _ => ⟨_, rfl⟩⟩
  · have hg : ¬ (2 : Int) < (m : Int) := by omega
    have hv := Lib.hid hv0
    clear hv0
    have hzl := Lib.hid hD.len
    have hzok := hD.ok
    go_wp2
    go_loopw [5, 6] (fun cv iv wr => ∃ j x : Nat, iv = .int .i64 ((j : Int) - 1) ∧ cv = .int .u64 (x : Int) ∧ j ≤ m ∧ Hid (x = vl (bs .u32) (zs.drop j)) ∧ wr = w2) (fun _ iv _ => (intOf iv + 1).toNat)
    case atStart =>
      have e : zs.drop m = [] := List.drop_eq_nil_of_le (by have := hzl.out; omega)
      exact ⟨m, 0, rfl, rfl, Nat.le_refl _, by show _ = _; rw [e]; simp [vl], rfl⟩
    case round =>
      obtain ⟨j, x, hi, rfl, hjb, hx, rfl⟩ := hrel
      rcases idx_cases hi with ⟨rfl, rfl⟩ | ⟨k, rfl, rfl⟩
      · clear hi
        have hx0 := hx.out
        clear hx
        rw [List.drop_zero, hv.out] at hx0
        have hxb : x < 18446744073709551616 := by
          have h := vl_lt hzok
          rw [hv.out, hzl.out, ← hx0] at h
          have : bs .u32 ^ m ≤ bs .u32 ^ 2 := Nat.pow_le_pow_right (by decide) (by omega)
          have h3 : bs .u32 ^ 2 = 18446744073709551616 := by decide
          omega
        have hx := Lib.hid hx0
        clear hx0
        cases s with
        | true =>
          have hz : z < 0 := of_decide_eq_true hs.out.symm
          by_cases hc : x ≤ 9223372036854775808
          · have hin0 : InI z := ⟨by have := hx.out; omega, by omega⟩
            have f1 : (x : Int) ≤ 9223372036854775808 := by omega
            obtain ⟨y, hy⟩ : ∃ y : Nat, 18446744073709551616 - x = y := ⟨_, rfl⟩
            have e1 : IntKind.u64.wrap (-(x : Int)) = (y : Int) := by rw [IntKind.wrap_u64]; have := hx.out; omega
            have e2 : IntKind.i64.wrap (y : Int) = z := by rw [IntKind.wrap_i64]; have := hx.out; omega
            have hin := Lib.hid hin0
            clear hy hz hc hin0
            go_wp2
            go_ret2
            exact ⟨hw2, fun _ => ret_w3 (by first | rfl | assumption) (by simp), fun h => absurd hin.out h⟩
          · have hin0 : ¬ InI z := fun h => by have := h.1; have := hx.out; omega
            have f1 : ¬ (x : Int) ≤ 9223372036854775808 := by omega
            have hin := Lib.hid hin0
            clear hz hc hin0
            go_wp2
            go_ret2
            exact ⟨hw2, fun h => absurd h hin.out, fun _ => ⟨_, ret_w3 rfl (by simp)⟩⟩
        | false =>
          have hz : ¬ z < 0 := of_decide_eq_false hs.out.symm
          by_cases hc : x < 9223372036854775808
          · have hin0 : InI z := ⟨by omega, by have := hx.out; omega⟩
            have f1 : (x : Int) < 9223372036854775808 := by omega
            have e2 : IntKind.i64.wrap (x : Int) = z := by rw [IntKind.wrap_i64]; have := hx.out; omega
            have hin := Lib.hid hin0
            clear hz hc hin0
            go_wp2
            go_ret2
            exact ⟨hw2, fun _ => ret_w3 (by first | rfl | assumption) (by simp), fun h => absurd hin.out h⟩
          · have hin0 : ¬ InI z := fun h => by have := h.2; have := hx.out; omega
            have f1 : ¬ (x : Int) < 9223372036854775808 := by omega
            have hin := Lib.hid hin0
            clear hz hc hin0
            go_wp2
            go_ret2
            exact ⟨hw2, fun h => absurd h hin.out, fun _ => ⟨_, ret_w3 rfl (by simp)⟩⟩
      · clear hi
        obtain ⟨ad, d, rfl, hcx, hd⟩ := hD.at_ (j := k) (by omega)
        have hdb : d ≤ 4294967295 := Nat.le_of_lt_succ hd.out.2
        have hxs : x ≤ 4294967295 := by
          have h := vl_lt (show Okd (bs .u32) (zs.drop (k + 1)) from fun y hy => hzok y (List.mem_of_mem_drop hy))
          rw [← hx.out, List.length_drop, hzl.out] at h
          have : bs .u32 ^ (m - (k + 1)) ≤ bs .u32 ^ 1 := Nat.pow_le_pow_right (by decide) (by omega)
          have h3 : bs .u32 ^ 1 = 4294967296 := by decide
          omega
        have hj1 := u64_join x d hxs hdb
        have hnx := Lib.hid (show x * 4294967296 + d = vl (bs .u32) (zs.drop k) by
          rw [vl_drop_pred (b := bs .u32) (by have := hzl.out; omega : k < zs.length) hd.out.1, hx.out]
          show _ * 4294967296 + d = d + 4294967296 * _
          omega)
        go_wp2
        go_roundw
        case rel => exact ⟨k, _, rfl, rfl, by omega, hnx, trivial⟩
        case measure => simp [intOf]
end Go.Proofs.YtanaljnclajkdaaGreatDoor.Fr
