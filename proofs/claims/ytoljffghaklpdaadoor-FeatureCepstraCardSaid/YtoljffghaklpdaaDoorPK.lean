/- Powers of one digit, numbers in lowest terms, the size of a number. -/
import Derived.Test.YtoljffghaklpdaaDoorP7
import Derived.Test.YtoljffghaklpdaaDoorQ4
import Derived.Deep.QuietTactic
import Derived.BigQuiet
import Derived.IntWalk
namespace Go.Proofs.YtoljffghaklpdaaDoor.Fr
open Go.RowKit Num

theorem bit_and_i64 (x s : Nat) (hx : x ≤ 4294967295) : bits .and .i64 ((x : Int) / 2 ^ s) 1 = ((x / 2 ^ s % 2 : Nat) : Int) := by
  have e : ((x : Int) / 2 ^ s) = ((x / 2 ^ s : Nat) : Int) := by rw [Int.natCast_ediv]; simp
  have hle : x / 2 ^ s ≤ x := Nat.div_le_self _ _
  rw [e]
  generalize x / 2 ^ s = y at *
  have e1 : (BitVec.ofInt 64 (y : Int)).toNat = y := by
    rw [BitVec.ofInt_natCast, BitVec.toNat_ofNat]; exact Nat.mod_eq_of_lt (by omega)
  have e2 : (BitVec.ofInt 64 (1 : Int)).toNat = 1 := by decide
  show IntKind.i64.wrap ((BitVec.ofInt 64 (y : Int) &&& BitVec.ofInt 64 (1 : Int)).toNat : Int) = _
  rw [BitVec.toNat_and, e1, e2, Nat.and_one_is_mod]
  exact IntWalk.i64_in _ (by omega)

theorem HD : Hid DivSaid := Lib.hid div_said

theorem len_of_lt {us : List Nat} {x k : Nat} (hN : Nrm us) (hv : vl (bs .u64) us = x) (hx : x < bs .u64 ^ k) : us.length ≤ k := by
  rcases Nat.lt_or_ge k us.length with h | h
  · have h1 := hN.le (b := bs .u64) (by omega)
    have h2 : bs .u64 ^ k ≤ bs .u64 ^ (us.length - 1) := Nat.pow_le_pow_right (by decide) (by omega)
    omega
  · exact h
theorem pow_lt {a k : Nat} (ha : a < bs .u64) (hk : k ≤ 39) : a ^ k < bs .u64 ^ 39 := by
  have h1 : bs .u64 ^ k ≤ bs .u64 ^ 39 := Nat.pow_le_pow_right (by decide) hk
  rcases Nat.eq_zero_or_pos k with h0 | h0
  · subst h0
    rw [Nat.pow_zero]
    exact Nat.one_lt_pow (by decide) (by decide)
  · have h2 : a ^ k < bs .u64 ^ k := Nat.pow_lt_pow_left ha (by omega)
    omega

set_option maxHeartbeats 1600000 in
set_option maxRecDepth 100000 in
theorem pow_any (A : Option Addr) (m c n : Nat) (xs : List Nat) (w : World) (h : Dg .u64 w A m c xs) (a : Nat) (hv : Hid (vl (bs .u64) xs = a)) (hm : m ≤ 1) (hn : n ≤ 39) :
    Calls Tryd.prog 95 #[.slice A m c, .int .i64 (n : Int)] w (RetN .u64 w (a ^ n) 39) := by
  have hlen : ∀ w, Calls Tryd.prog 110 #[.int .u64 (n : Int)] w fun e w' => e = .returned (.int .i64 ((bl n : Nat) : Int)) ∧ w = w' := fun w =>
      (Tryd.bits_Len (n : Int) w (by omega) (by omega)).mono fun e w' ⟨he, hw⟩ => ⟨by rw [he, Int.toNat_natCast, bitLen_bl (by omega)], hw.symm⟩
  have hlen := Lib.hid hlen
  have ha : a < bs .u64 := by
    have := vl_lt h.ok
    rw [hv.out, h.len] at this
    have h2 : bs .u64 ^ m ≤ bs .u64 ^ 1 := Nat.pow_le_pow_right (by decide) hm
    rw [Nat.pow_one] at h2
    omega
  have hbl := lt_bl n
  have hbl6 : bl n ≤ 6 := bl_le (by omega)
  have hlenP := Lib.hid (fun (us : List Nat) (k : Nat) (hN : Nrm us) (hk : k ≤ n) (h9 : vl (bs .u64) us = a ^ k) => len_of_lt hN h9 (pow_lt ha (show k ≤ 39 by omega)))
  have hst := Lib.hid (show a ^ (n / 2 ^ bl n) = 1 by rw [Nat.div_eq_of_lt hbl, Nat.pow_zero])
  clear hbl ha
  go_enter Tryd.func95, Tryd.ntmps95
  go_wp2_with fail
  refine (one64_any w).mono ?_
  rintro e w1 ⟨rfl, rfl⟩
  have h1 := h.alloc (.cells #[.int .u64 1] 107)
  have hb1 := (Below.refl w.heap.size w).alloc (Nat.le_refl _) (.cells #[.int .u64 1] 107)
  have hone := Dg.lit_one64 w 107
  generalize w.alloc (.cells #[.int .u64 1] 107) = w1 at *
  go_wp2_with fail
  refine (hlen.out _).mono ?_
  rintro e w2 ⟨rfl, rfl⟩
  go_wp2
  go_loopw [5, 6] (fun pv iv wr => ∃ (j : Nat) (B : Option Addr) (q d : Nat) (us : List Nat), iv = .int .i64 ((j : Int) - 1) ∧ j ≤ 6 ∧ pv = .slice B q d ∧ Dg .u64 wr B q d us ∧ Nrm us ∧ Hid (vl (bs .u64) us = a ^ (n / 2 ^ j)) ∧ q ≤ 39 ∧ Below w.heap.size w wr) (fun _ iv _ => (intOf iv + 1).toNat)
  case atStart => exact ⟨bl n, _, _, _, _, rfl, hbl6, rfl, hone, nrm_lit1, by rw [hst.out]; exact vl_lit1 _, by decide, hb1⟩
  case round =>
    obtain ⟨j, B, q, d, us, rfl, hj6, rfl, hD, hN, hV, hq, hb⟩ := hrel
    rcases Nat.eq_zero_or_pos j with rfl | hj
    · have hV' : Hid (vl (bs .u64) us = a ^ n) := by rw [Nat.pow_zero, Nat.div_one] at hV; exact hV
      go_wp2
      go_ret
      exact ⟨_, _, _, _, rfl, hD, hN, hV', hq, hb⟩
    · obtain ⟨i, rfl⟩ : ∃ i, j = i + 1 := ⟨j - 1, by omega⟩
      have ei : ((i + 1 : Nat) : Int) - 1 = (i : Int) := by omega
      rw [ei]
      have ha' := h.below hb
      have hD2 := hD
      have hge : (0 : Int) ≤ (i : Int) := by omega
      have hstep := Lib.hid (fun (b : Nat) (hb : n / 2 ^ i % 2 = b) => show n / 2 ^ i = 2 * (n / 2 ^ (i + 1)) + b by
        rw [← hb, Nat.pow_succ, ← Nat.div_div_eq_div_mul]; omega)
      have hkn := Lib.hid (show n / 2 ^ i ≤ n from Nat.div_le_self _ _)
      have hbits := bit_and_i64 n i (by omega)
      rcases (show n / 2 ^ i % 2 = 0 ∨ n / 2 ^ i % 2 = 1 by omega) with hb0 | hb0
      · have he := Lib.hid (hstep.out 0 hb0)
        rw [hb0] at hbits
        clear hb0 hstep
        have hbits : bits .and .i64 ((n : Int) / 2 ^ i) 1 = 0 := hbits
        go_wp2_with fail
        refine (mul_any _ _ _ _ _ _ _ _ _ hD hD2 (by omega) (by omega) (by omega)).mono ?_
        rintro e w3 ⟨B3, q3, d3, us3, rfl, hD3, hN3, hV3, hq3, hb3, _⟩
        have hb4 := hb.trans (hb3.mono hb.size)
        have hV4 : Hid (vl (bs .u64) us3 = a ^ (n / 2 ^ i)) := by
          show _ = _
          rw [hV3.out, hV.out, he.out]
          generalize n / 2 ^ (i + 1) = Q
          rw [show 2 * Q + 0 = Q + Q by omega, Nat.pow_add]
        have hl4 := hlenP.out us3 _ hN3 hkn.out hV4.out
        rw [hD3.len] at hl4
        go_wp2
        go_roundw
        case rel => exact ⟨i, _, _, _, _, rfl, by omega, rfl, hD3, hN3, hV4, by omega, hb4⟩
        case measure => first | (simp [intOf]; done) | (simp [intOf]; omega)
      · have he := Lib.hid (hstep.out 1 hb0)
        rw [hb0] at hbits
        clear hb0 hstep
        have hbits : bits .and .i64 ((n : Int) / 2 ^ i) 1 = 1 := hbits
        go_wp2_with fail
        refine (mul_any _ _ _ _ _ _ _ _ _ hD hD2 (by omega) (by omega) (by omega)).mono ?_
        rintro e w3 ⟨B3, q3, d3, us3, rfl, hD3, hN3, hV3, hq3, hb3, _⟩
        have hb4 := hb.trans (hb3.mono hb.size)
        have ha3 := ha'.below hb3
        go_wp2_with fail
        refine (mul_any _ _ _ _ _ _ _ _ _ hD3 ha3 (by omega) (by omega) (by omega)).mono ?_
        rintro e w5 ⟨B5, q5, d5, us5, rfl, hD5, hN5, hV5, hq5, hb5, _⟩
        have hb6 := hb4.trans (hb5.mono hb4.size)
        have hV6 : Hid (vl (bs .u64) us5 = a ^ (n / 2 ^ i)) := by
          show _ = _
          rw [hV5.out, hV3.out, hV.out, hv.out, he.out]
          generalize n / 2 ^ (i + 1) = Q
          rw [show 2 * Q + 1 = Q + Q + 1 by omega, Nat.pow_succ, Nat.pow_add]
        have hl4 := hlenP.out us5 _ hN5 hkn.out hV6.out
        rw [hD5.len] at hl4
        go_wp2
        go_roundw
        case rel => exact ⟨i, _, _, _, _, rfl, by omega, rfl, hD5, hN5, hV6, by omega, hb6⟩
        case measure => first | (simp [intOf]; done) | (simp [intOf]; omega)

set_option maxHeartbeats 1600000 in
set_option maxRecDepth 100000 in
theorem reduce_one (s : Bool) (A A' : Option Addr) (n c n' c' : Nat) (xs ys : List Nat) (w : World) (h : Dg .u64 w A n c xs) (h' : Dg .u64 w A' n' c' ys) (hN : Nrm xs) (hN' : Nrm ys) (X Y : Nat) (hX : Hid (vl (bs .u64) xs = X)) (hY : Hid (vl (bs .u64) ys = Y))
    (hn : n ≤ 2000000) (hn' : n' ≤ 1) (hG1 : X.gcd Y = 1) :
    Calls Tryd.prog 91 #[.agg #[.bool s, .slice A n c, .slice A' n' c']] w (RetR w s X Y (max n 1)) := by
  have B1 := (Blk.new w 89 #[.bool s, .slice A n c, .slice A' n' c']).alloc (.cells #[.bool false, .slice none 0 0, .slice none 0 0] 89)
  have B2 := Blk.new (w.alloc (.cells #[.bool s, .slice A n c, .slice A' n' c'] 89)) 89 #[.bool false, .slice none 0 0, .slice none 0 0]
  have e1 : (w.alloc (.cells #[.bool s, .slice A n c, .slice A' n' c'] 89)).heap.size = w.heap.size + 1 := by simp
  have hw0 := ((Below.refl w.heap.size w).alloc (Nat.le_refl _) (.cells #[.bool s, .slice A n c, .slice A' n' c'] 89)).alloc (by rw [e1]; omega) (.cells #[.bool false, .slice none 0 0, .slice none 0 0] 89)
  rw [e1] at B2
  clear e1
  have h1 := h.below hw0
  have h2 := h'.below hw0
  go_enter Tryd.func91, Tryd.ntmps91
  go_upto_region 1 with fail
  generalize (w.alloc (.cells #[.bool s, .slice A n c, .slice A' n' c'] 89)).alloc (.cells #[.bool false, .slice none 0 0, .slice none 0 0] 89) = w1 at *
  have k0 : w1.cell? ⟨w.heap.size, 0, none⟩ = some (.bool s) := B1.cell 0
  have k1 : w1.cell? ⟨w.heap.size, 1, none⟩ = some (.slice A n c) := B1.cell 1
  have k2 : w1.cell? ⟨w.heap.size, 2, none⟩ = some (.slice A' n' c') := B1.cell 2
  go_wp2_with fail
  by_cases hY1 : Y = 1
  · have HY1 := Lib.hid hY1
    clear hY1
    refine (isOne_any _ _ _ _ _ h2 hN' _ hY true (decide_eq_true HY1.out)).mono ?_
    rintro e w' ⟨rfl, rfl⟩
    have r0 := B2.cell 0
    have r1 := B2.cell 1
    have r2 := B2.cell 2
    have f0 := B2.frozen 0
    have f1 := B2.frozen 1
    have f2 := B2.frozen 2
    clear hG1
    go_wp2
    have hne1 := Lib.hid (show 0 < n → ∀ ad, A = some ad → ad.block ≠ w.heap.size + 1 from fun hp ad he => by have := h.blt hp ad he; omega)
    have hne2 := Lib.hid (show 0 < n' → ∀ ad, A' = some ad → ad.block ≠ w.heap.size + 1 from fun hp ad he => by have := h'.blt hp ad he; omega)
    exact ret_rat rfl rfl (((B2.set_ 0 _).set_ 1 _).set_ 2 _) rfl ⟨_, rfl, ⟨_, _, rfl, NV.mk (((h1.farp hne1.out 0 _).farp hne1.out 1 _).farp hne1.out 2 _) hN hX (by omega), NV.mk (((h2.farp hne2.out 0 _).farp hne2.out 1 _).farp hne2.out 2 _) hN' hY (by omega)⟩, bel_set3 hw0 (by omega) _ _ _⟩
  have HY1 := Lib.hid hY1
  clear hY1
  refine (isOne_any _ _ _ _ _ h2 hN' _ hY false (decide_eq_false HY1.out)).mono ?_
  rintro e w' ⟨rfl, rfl⟩
  go_wp2_with fail
  refine (gcd64_small HD _ _ _ _ _ _ _ _ _ h1 h2 hN hN' X Y hX hY (by omega) (by omega) (by omega)).mono ?_
  rintro e w2 ⟨A3, m3, c3, us3, rfl, hD3, hN3, hv3, hm3, hb2⟩
  have C1 := B1.below hb2
  have C2 := B2.below hb2
  have hw2 := hw0.trans (hb2.mono hw0.size)
  have q1 := h1.below hb2
  have q2 := h2.below hb2
  have k0 : w2.cell? ⟨w.heap.size, 0, none⟩ = some (.bool s) := C1.cell 0
  have k1 : w2.cell? ⟨w.heap.size, 1, none⟩ = some (.slice A n c) := C1.cell 1
  have k2 : w2.cell? ⟨w.heap.size, 2, none⟩ = some (.slice A' n' c') := C1.cell 2
  have hfx := Lib.hid (fun (hp : 0 < n) => h1.blt hp)
  have HG1 := Lib.hid hG1
  clear hG1
  go_wp2_with fail
  refine (isOne_any _ _ _ _ _ hD3 hN3 _ hv3 true (decide_eq_true HG1.out)).mono ?_
  rintro e w' ⟨rfl, rfl⟩
  have r0 := C2.cell 0
  have r1 := C2.cell 1
  have r2 := C2.cell 2
  have f0 := C2.frozen 0
  have f1 := C2.frozen 1
  have f2 := C2.frozen 2
  go_wp2
  have hne1 := Lib.hid (show 0 < n → ∀ ad, A = some ad → ad.block ≠ w.heap.size + 1 from fun hp ad he => by have := h.blt hp ad he; omega)
  have hne2 := Lib.hid (show 0 < n' → ∀ ad, A' = some ad → ad.block ≠ w.heap.size + 1 from fun hp ad he => by have := h'.blt hp ad he; omega)
  exact ret_rat rfl rfl (((C2.set_ 0 _).set_ 1 _).set_ 2 _) rfl ⟨_, rfl, ⟨_, _, rfl, NV.mk (((q1.farp hne1.out 0 _).farp hne1.out 1 _).farp hne1.out 2 _) hN hX (by omega), NV.mk (((q2.farp hne2.out 0 _).farp hne2.out 1 _).farp hne2.out 2 _) hN' hY (by omega)⟩, bel_set3 hw2 (by omega) _ _ _⟩
end Go.Proofs.YtoljffghaklpdaaDoor.Fr
