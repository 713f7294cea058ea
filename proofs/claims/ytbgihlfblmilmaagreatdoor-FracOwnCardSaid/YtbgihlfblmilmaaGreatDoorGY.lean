/- Lists of numbers divided by their sum. -/
import Derived.Test.YtbgihlfblmilmaaGreatDoorGX
import Derived.Test.YtbgihlfblmilmaaGreatDoorQ4
import Derived.Test.YtbgihlfblmilmaaGreatDoorShelf
namespace Go.Proofs.YtbgihlfblmilmaaGreatDoor.Fr
open Go.RowKit Num

theorem make_fracs (n : Nat) (hn : n ≤ 1000000) (w : World) :
    (Instr.makeSlice 49 (.int .i64 (n : Int)) (.int .i64 (n : Int))).run Tryz.prog w = .ok (.slice (some ⟨w.heap.size, 0, none⟩) n n) (w.alloc (.cells (madeCells #[.bool false, .slice none 0 0, .slice none 0 0] (n * 3)) 24)) := by
  obtain ⟨i0, hi, hz0, hz1, hz2⟩ := info_parts (show (Tryz.prog.info? 24).map (fun i => (i.zero, i.size, i.bytes)) = some (some (.agg #[.bool false, .slice none 0 0, .slice none 0 0]), 3, 56) by kernel_rfl)
  have := run_make (P := Tryz.prog) w 49 24 i0 (.agg #[.bool false, .slice none 0 0, .slice none 0 0]) Tryz.underlying49 hi hz0 .i64 .i64 n n (by omega) (by omega) (by rw [hz2]; omega) (by omega)
  rw [this, hz1]
  have e : Value.cells (Value.agg #[.bool false, .slice none 0 0, .slice none 0 0]) = #[.bool false, .slice none 0 0, .slice none 0 0] := rfl
  rw [e, Int.toNat_natCast]

/-- what Normalize answers -/
def RetNo (w : World) (n L : Nat) (qs : List Rat) (e : Ending) (w' : World) : Prop :=
  Below w.heap.size w w' ∧ (ngs qs = true → e = .returned (.tuple #[.slice none 0 0, .int .i64 2])) ∧
  (ngs qs = false → qs.foldl (· + ·) 0 = 0 → e = .returned (.tuple #[.slice none 0 0, .int .i64 3])) ∧
  (ngs qs = false → qs.foldl (· + ·) 0 ≠ 0 → ∃ A', e = .returned (.tuple #[.slice A' n n, .int .i64 0]) ∧ Ls FQ w' A' n n L (qs.map fun q => q * (qs.foldl (· + ·) 0)⁻¹))

set_option maxHeartbeats 12800000 in
set_option maxRecDepth 100000 in
theorem NormalizeQ (A : Option Addr) (n c L : Nat) (qs : List Rat) (w : World) (h : Ls AF w A n c L qs) (hL : (n + 1) * (2 * L + 1 + 2) + (2 * L + 1) ≤ 100000) :
    Calls Tryz.prog 60 #[.slice A n c] w (RetNo w n (2 * (2 * L + 1 + (n + 1) * (2 * L + 1 + 2))) qs) := by
  have hn : n ≤ 100000 := by
    have : (n + 1) * 1 ≤ (n + 1) * (2 * L + 1 + 2) := Nat.mul_le_mul_left _ (by omega)
    omega
  obtain ⟨E, hE⟩ : ∃ E, E = (n + 1) * (2 * L + 1 + 2) := ⟨_, rfl⟩
  rw [← hE] at hL ⊢
  have hmk := make_fracs n (by omega)
  have hlen := Lib.hid h.len
  have hw0 := Below.refl w.heap.size w
  go_enter Tryz.func60, Tryz.ntmps60
  go_wp2_with fail
  refine (loadAllQ _ _ _ L qs _ h hn (by omega)).mono ?_
  rintro e w2 ⟨A2, rfl, hl2, hw2⟩
  go_wp2_with fail
  refine (anyNegativeQ _ _ _ _ qs _ hl2).mono ?_
  rintro e w3 ⟨rfl, hb3⟩
  have hw3 := hw2.trans (hb3.mono hw2.size)
  have hl3 := hl2.below bels_rq hb3
  obtain ⟨b, hg⟩ : ∃ b, ngs qs = b := ⟨_, rfl⟩
  rw [hg]
  cases b with
  | true =>
    go_wp2_with fail
    go_ret2
    exact ⟨hw3, fun _ => rfl, fun h => absurd (hg.symm.trans h) (by decide), fun h => absurd (hg.symm.trans h) (by decide)⟩
  | false =>
    have hg := Lib.hid hg
    go_wp2_with fail
    refine (totalQ _ _ _ (2 * L + 1) qs _ hl3 (by omega)).mono ?_
    rw [← hE]
    rintro e w4 ⟨_, rfl, hq4, hb4⟩
    obtain ⟨s4, A4, n4, c4, A5, n5, c5, rfl⟩ := hq4.form
    have hw4 := hw3.trans (hb4.mono hw3.size)
    have hl4 := hl3.below bels_rq hb4
    obtain ⟨S, hS⟩ : ∃ S, S = qs.foldl (· + ·) 0 := ⟨_, rfl⟩
    rw [← hS] at hq4
    have hS := Lib.hid hS
    go_wp2_with fail
    refine (reduceQ _ S _ _ hq4 (by omega)).mono ?_
    rintro e w5 ⟨_, rfl, hr5, hb5⟩
    have hq5 := hr5.rq
    obtain ⟨s5, A6, n6, c6, A7, n7, c7, rfl⟩ := hq5.form
    have hw5 := hw4.trans (hb5.mono hw4.size)
    have hl5 := hl4.below bels_rq hb5
    have B5 := Blk.new w5 67 #[.bool s5, .slice A6 n6 c6, .slice A7 n7 c7]
    have hba := (Below.refl w5.heap.size w5).alloc (Nat.le_refl _) (.cells #[.bool s5, .slice A6 n6 c6, .slice A7 n7 c7] 67)
    have hw5 := hw5.trans (hba.mono hw5.size)
    have hl5 := hl5.below bels_rq hba
    have hq5 := hq5.below hba
    clear hr5
    go_wp2_with fail
    generalize w5.alloc (.cells #[.bool s5, .slice A6 n6 c6, .slice A7 n7 c7] 67) = w6 at *
    refine (signQ _ S _ _ hq5).mono ?_
    rintro e w7 ⟨rfl, hb7⟩
    have B5 := B5.below hb7
    have hw7 := hw5.trans (hb7.mono hw5.size)
    have hl7 := hl5.below bels_rq hb7
    have hq7 := hq5.below hb7
    by_cases hz : S = 0
    · rw [qs_zero.2 hz]
      go_wp2_with fail
      go_ret2
      exact ⟨hw7, fun h => absurd (hg.out.symm.trans h) (by decide), fun _ _ => rfl, fun _ h => absurd (hS.out.symm.trans hz) h⟩
    · have hs : Fr.qs S ≠ 0 := fun h => hz (qs_zero.1 h)
      have hqb := qs_bound S
      obtain ⟨t, ht⟩ : ∃ t, Fr.qs S = t := ⟨_, rfl⟩
      rw [ht] at hs hqb ⊢
      have hsb : (t == 0) = false := by rw [beq_eq_false_iff_ne]; exact hs
      clear ht
      have r0 := B5.cell 0
      have r1 := B5.cell 1
      have r2 := B5.cell 2
      go_wp2_with fail
      refine (invertQ _ S _ _ hq7 hz).mono ?_
      rintro e w8 ⟨_, rfl, hq8, hb8⟩
      obtain ⟨s8, A8, n8, c8, A9, n9, c9, rfl⟩ := hq8.form
      have hw8 := hw7.trans (hb8.mono hw7.size)
      have hl8 := hl7.below bels_rq hb8
      have B8 := Blk.new w8 67 #[.bool s8, .slice A8 n8 c8, .slice A9 n9 c9]
      have hbb := (Below.refl w8.heap.size w8).alloc (Nat.le_refl _) (.cells #[.bool s8, .slice A8 n8 c8, .slice A9 n9 c9] 67)
      have hw8 := hw8.trans (hbb.mono hw8.size)
      have hl8 := hl8.below bels_rq hbb
      have hq8 := hq8.below hbb
      clear r0 r1 r2 B5 hq7 hq5 hq4 hl2 hl3 hl4 hl5 hl7 hb3 hb4 hb5 hb7 hb8 hba hbb
      go_upto_region 8 with fail
      generalize w8.alloc (.cells #[.bool s8, .slice A8 n8 c8, .slice A9 n9 c9] 67) = w9 at *
      have G1 : Rows FQ (w9.alloc (.cells (madeCells #[.bool false, .slice none 0 0, .slice none 0 0] (n * 3)) 24)) w9.heap.size 24 n 0 (2 * (2 * L + 1 + E)) (qs.map fun q => q * S⁻¹) := Rows.made w9 _ n _ _
      have hw10 := (Below.refl w9.heap.size w9).alloc (Nat.le_refl _) (.cells (madeCells #[.bool false, .slice none 0 0, .slice none 0 0] (n * 3)) 24)
      go_wp2_with fail
      generalize w9.alloc (.cells (madeCells #[.bool false, .slice none 0 0, .slice none 0 0] (n * 3)) 24) = w10 at *
      go_loopw [27] (fun iv wr => ∃ k : Nat, iv = .int .i64 k ∧ k ≤ n ∧ Rows FQ wr w9.heap.size 24 n k (2 * (2 * L + 1 + E)) (qs.map fun q => q * S⁻¹) ∧ Below w9.heap.size w9 wr) (fun iv _ => n - (intOf iv).toNat)
      case atStart => exact ⟨0, rfl, Nat.zero_le _, G1, hw10⟩
      case round =>
        clear G1 hw10
        obtain ⟨k, rfl, hkn, hR, hb⟩ := hrel
        by_cases hlt : k < n
        · obtain ⟨ad, s, A1, m1, c1, x1, A3, m2, c2, x2, N, D, rfl, k0, k1, k2, d1, n1, e1, l1, d2, n2, e2, l2, p1, g1, hf⟩ := (hl8.below bels_rq hb).rq hlt
          have hv : RQ wr (.agg #[.bool s, .slice A1 m1 c1, .slice A3 m2 c2]) (qs.getD k 0) (2 * L + 1) := ⟨s, N, D, ⟨_, _, rfl, NV.mk d1 n1 e1 l1, NV.mk d2 n2 e2 l2⟩, p1, g1, hf⟩
          have hqk := Lib.hid (show (qs.map fun q => q * S⁻¹)[k]? = some (qs.getD k 0 * S⁻¹) by
            have hk : k < qs.length := by rw [hlen.out]; exact hlt
            rw [List.getElem?_map, List.getD_eq_getElem?_getD, List.getElem?_eq_getElem hk]; rfl)
          have hbA := (Below.refl wr.heap.size wr).alloc (Nat.le_refl _) (.cells #[.bool s, .slice A1 m1 c1, .slice A3 m2 c2] 67)
          have hv := hv.below hbA
          have hR := hR.below bels_fq hbA
          have hb := hb.trans (hbA.mono hb.size)
          have hq8 := hq8.below hb
          have B6 := Blk.new wr 67 #[.bool s, .slice A1 m1 c1, .slice A3 m2 c2]
          have B8 := B8.below hb
          clear d1 n1 e1 d2 n2 e2 hf
          go_upto_region 12 with fail
          generalize wr.alloc (.cells #[.bool s, .slice A1 m1 c1, .slice A3 m2 c2] 67) = w3 at *
          have y0 := B6.cell 0
          have y1 := B6.cell 1
          have y2 := B6.cell 2
          have y3 := B8.cell 0
          have y4 := B8.cell 1
          have y5 := B8.cell 2
          go_wp2_with fail
          refine (timesQ _ _ _ _ (2 * L + 1) E _ hv hq8 (by omega) (by omega)).mono ?_
          rintro e w4 ⟨_, rfl, hq4, hb4⟩
          obtain ⟨s4, A3, m3, c3, A4, m4, c4, rfl⟩ := hq4.form
          have hb4' := hb.trans (hb4.mono hb.size)
          have hR := hR.below bels_fq hb4
          go_wp2_with fail
          refine (storeQ _ _ (2 * L + 1 + E) _ hq4 (by omega)).mono ?_
          rintro e w5 ⟨_, rfl, hq5, hb5⟩
          obtain ⟨s5, A5, m5, c5, A6, m6, c6, rfl⟩ := hq5.form
          have hb5' := hb4'.trans (hb5.mono hb4'.size)
          have hR := hR.below bels_fq hb5
          have hP := hR.put kept_fq hlt hq5 hqk.out
          obtain ⟨cs, C1, C2, C3, _⟩ := hR.ex
          obtain ⟨z0, hz0⟩ : ∃ z0, w5.cell? ⟨w9.heap.size, k * 3, none⟩ = some z0 := by rw [C1.cell]; exact ⟨_, Array.getElem?_eq_getElem (by omega)⟩
          obtain ⟨z1, hz1⟩ : ∃ z1, w5.cell? ⟨w9.heap.size, k * 3 + 1, none⟩ = some z1 := by rw [C1.cell]; exact ⟨_, Array.getElem?_eq_getElem (by omega)⟩
          obtain ⟨z2, hz2⟩ : ∃ z2, w5.cell? ⟨w9.heap.size, k * 3 + 2, none⟩ = some z2 := by rw [C1.cell]; exact ⟨_, Array.getElem?_eq_getElem (by omega)⟩
          have f0 := C1.frozen (k * 3)
          have f1 := C1.frozen (k * 3 + 1)
          have f2 := C1.frozen (k * 3 + 2)
          clear B6 B8 hR C1 C2 C3 hv hb4 y0 y1 y2 y3 y4 y5
          go_wp2
          go_roundw
          case rel => exact ⟨k + 1, by go_num, hlt, hP, ((hb5'.setCell (Nat.le_refl _) _).setCell (Nat.le_refl _) _).setCell (Nat.le_refl _) _⟩
          case measure => simp [intOf]; omega
        · obtain rfl : k = n := by omega
          have hl := hR.ls (by rw [List.length_map]; exact hlen.out) (by omega)
          have hwz := hw8.trans (hb.mono hw8.size)
          clear hR
          go_wp2
          go_ret2
          exact ⟨hwz, fun h => absurd (hg.out.symm.trans h) (by decide), fun _ h => absurd (hS.out.trans h) hz, fun _ _ => ⟨_, rfl, by rw [← hS.out]; exact hl⟩⟩
end Go.Proofs.YtbgihlfblmilmaaGreatDoor.Fr

/- Powers of numbers of any length. -/
namespace Go.Proofs.YtbgihlfblmilmaaGreatDoor.Fr
open Go.RowKit Num

theorem pow_gen (b : Nat) (hb : 1 < b) {a m k n E : Nat} (ha : a < b ^ m) (hk : k ≤ n) (hE : m * n + 1 ≤ E) : a ^ k < b ^ E := by
  rcases Nat.eq_zero_or_pos k with h0 | h0
  · subst h0
    rw [Nat.pow_zero]
    exact Nat.one_lt_pow (by omega) hb
  · have h1 : a ^ k < (b ^ m) ^ k := Nat.pow_lt_pow_left ha (by omega)
    rw [← Nat.pow_mul] at h1
    have h2 : m * k ≤ m * n := Nat.mul_le_mul_left m hk
    exact Nat.lt_of_lt_of_le h1 (Nat.pow_le_pow_right (by omega) (by omega))
theorem powE_lt {a m k n E : Nat} (ha : a < bs .u64 ^ m) (hk : k ≤ n) (hE : m * n + 1 ≤ E) : a ^ k < bs .u64 ^ E := pow_gen (bs .u64) one_lt_bs64 ha hk hE

set_option maxHeartbeats 1600000 in
set_option maxRecDepth 100000 in
theorem pow64_any (A : Option Addr) (m c n E : Nat) (xs : List Nat) (w : World) (h : Dg .u64 w A m c xs) (a : Nat) (hv : Hid (vl (bs .u64) xs = a)) (hm : m ≤ E) (hn : n ≤ 1000000) (hE : m * n + 1 ≤ E) (hE2 : E ≤ 200000) :
    Calls Tryz.prog 100 #[.slice A m c, .int .i64 (n : Int)] w (RetN .u64 w (a ^ n) E) := by
  have hlen : ∀ w, Calls Tryz.prog 130 #[.int .u64 (n : Int)] w fun e w' => e = .returned (.int .i64 ((bl n : Nat) : Int)) ∧ w = w' := fun w =>
      (Tryz.bits_Len (n : Int) w (by omega) (by omega)).mono fun e w' ⟨he, hw⟩ => ⟨by rw [he, Int.toNat_natCast, bitLen_bl (by omega)], hw.symm⟩
  have hlen := Lib.hid hlen
  have ha : a < bs .u64 ^ m := by
    have := vl_lt h.ok
    rw [hv.out, h.len] at this
    exact this
  have hbl := lt_bl n
  have hbl6 : bl n ≤ 20 := bl_le (Nat.lt_of_le_of_lt hn (by decide))
  have hlenP := Lib.hid (fun (us : List Nat) (k : Nat) (hN : Nrm us) (hk : k ≤ n) (h9 : vl (bs .u64) us = a ^ k) => len_of_lt (k := E) hN h9 (powE_lt ha hk hE))
  have hst := Lib.hid (show a ^ (n / 2 ^ bl n) = 1 by rw [Nat.div_eq_of_lt hbl, Nat.pow_zero])
  clear hbl ha
  go_enter Tryz.func100, Tryz.ntmps100
  go_wp2_with fail
  refine (one64_any w).mono ?_
  rintro e w1 ⟨rfl, rfl⟩
  have h1 := h.alloc (.cells #[.int .u64 1] 82)
  have hb1 := (Below.refl w.heap.size w).alloc (Nat.le_refl _) (.cells #[.int .u64 1] 82)
  have hone := Dg.lit_one64 w 82
  generalize w.alloc (.cells #[.int .u64 1] 82) = w1 at *
  go_wp2_with fail
  refine (hlen.out _).mono ?_
  rintro e w2 ⟨rfl, rfl⟩
  go_wp2
  go_loopw [5, 6] (fun pv iv wr => ∃ (j : Nat) (B : Option Addr) (q d : Nat) (us : List Nat), iv = .int .i64 ((j : Int) - 1) ∧ j ≤ 20 ∧ pv = .slice B q d ∧ Dg .u64 wr B q d us ∧ Nrm us ∧ Hid (vl (bs .u64) us = a ^ (n / 2 ^ j)) ∧ q ≤ E ∧ Below w.heap.size w wr) (fun _ iv _ => (intOf iv + 1).toNat)
  case atStart => exact ⟨bl n, _, _, _, _, rfl, hbl6, rfl, hone, nrm_lit1, by rw [hst.out]; exact vl_lit1 _, by omega, hb1⟩
  case round =>
    obtain ⟨j, B, q, d, us, rfl, hj6, rfl, hD, hN, hV, hq, hb⟩ := hrel
    rcases Nat.eq_zero_or_pos j with rfl | hj
    · have hV' : Hid (vl (bs .u64) us = a ^ n) := by rw [Nat.pow_zero, Nat.div_one] at hV; exact hV
      go_wp2
      go_ret
      exact ⟨_, _, _, _, rfl, hD, hN, hV', hq, hb⟩
    · obtain ⟨i, rfl⟩ : ∃ i, j = i + 1 := ⟨j - 1, by omega⟩
      have ei : ((i + 1 : Nat) : Int) - 1 = (i : Int) := by omega
      rw [ei]
      have ha' := h.below hb
      have hD2 := hD
      have hge : (0 : Int) ≤ (i : Int) := by omega
      have hstep := Lib.hid (fun (b : Nat) (hb : n / 2 ^ i % 2 = b) => show n / 2 ^ i = 2 * (n / 2 ^ (i + 1)) + b by
        rw [← hb, Nat.pow_succ, ← Nat.div_div_eq_div_mul]; omega)
      have hkn := Lib.hid (show n / 2 ^ i ≤ n from Nat.div_le_self _ _)
      have hbits := bit_and_i64 n i (by omega)
      rcases (show n / 2 ^ i % 2 = 0 ∨ n / 2 ^ i % 2 = 1 by omega) with hb0 | hb0
      · have he := Lib.hid (hstep.out 0 hb0)
        rw [hb0] at hbits
        clear hb0 hstep
        have hbits : bits .and .i64 ((n : Int) / 2 ^ i) 1 = 0 := hbits
        go_wp2_with fail
        refine (mul64_any _ _ _ _ _ _ _ _ _ hD hD2 (by omega) (by omega)).mono ?_
        rintro e w3 ⟨B3, q3, d3, us3, rfl, hD3, hN3, hV3, hq3, hb3, _⟩
        have hb4 := hb.trans (hb3.mono hb.size)
        have hV4 : Hid (vl (bs .u64) us3 = a ^ (n / 2 ^ i)) := by
          show _ = _
          rw [hV3.out, hV.out, he.out]
          generalize n / 2 ^ (i + 1) = Q
          rw [show 2 * Q + 0 = Q + Q by omega, Nat.pow_add]
        have hl4 := hlenP.out us3 _ hN3 hkn.out hV4.out
        rw [hD3.len] at hl4
        go_wp2
        go_roundw
        case rel => exact ⟨i, _, _, _, _, rfl, by omega, rfl, hD3, hN3, hV4, by omega, hb4⟩
        case measure => first | (simp [intOf]; done) | (simp [intOf]; omega)
      · have he := Lib.hid (hstep.out 1 hb0)
        rw [hb0] at hbits
        clear hb0 hstep
        have hbits : bits .and .i64 ((n : Int) / 2 ^ i) 1 = 1 := hbits
        go_wp2_with fail
        refine (mul64_any _ _ _ _ _ _ _ _ _ hD hD2 (by omega) (by omega)).mono ?_
        rintro e w3 ⟨B3, q3, d3, us3, rfl, hD3, hN3, hV3, hq3, hb3, _⟩
        have hb4 := hb.trans (hb3.mono hb.size)
        have ha3 := ha'.below hb3
        go_wp2_with fail
        refine (mul64_any _ _ _ _ _ _ _ _ _ hD3 ha3 (by omega) (by omega)).mono ?_
        rintro e w5 ⟨B5, q5, d5, us5, rfl, hD5, hN5, hV5, hq5, hb5, _⟩
        have hb6 := hb4.trans (hb5.mono hb4.size)
        have hV6 : Hid (vl (bs .u64) us5 = a ^ (n / 2 ^ i)) := by
          show _ = _
          rw [hV5.out, hV3.out, hV.out, hv.out, he.out]
          generalize n / 2 ^ (i + 1) = Q
          rw [show 2 * Q + 1 = Q + Q + 1 by omega, Nat.pow_succ, Nat.pow_add]
        have hl4 := hlenP.out us5 _ hN5 hkn.out hV6.out
        rw [hD5.len] at hl4
        go_wp2
        go_roundw
        case rel => exact ⟨i, _, _, _, _, rfl, by omega, rfl, hD5, hN5, hV6, by omega, hb6⟩
        case measure => first | (simp [intOf]; done) | (simp [intOf]; omega)

end Go.Proofs.YtbgihlfblmilmaaGreatDoor.Fr

/- Powers of ten, padding with zeros. -/
namespace Go.Proofs.YtbgihlfblmilmaaGreatDoor.Fr
open Go.RowKit Num

theorem vl_lit10 : vl (bs .u64) [10] = 10 := by rw [vl, show vl (bs .u64) [] = 0 from rfl, Nat.mul_zero]
set_option maxHeartbeats 1600000 in
theorem tenTo_gen (b n : Nat) (w : World) (hn : n ≤ 100000) (hv : Hid (vl (bs .u64) [10] = b)) : Calls Tryz.prog 113 #[.int .i64 (n : Int)] w (RetN .u64 w (b ^ n) (n + 1)) := by
  have hba := (Below.refl w.heap.size w).alloc (Nat.le_refl _) (.cells #[.int .u64 10] 82)
  have hok : Okd (bs .u64) [10] := by intro x hx; simp at hx; subst hx; decide
  have D : Dg .u64 (w.alloc (.cells #[.int .u64 10] 82)) (some ⟨w.heap.size, 0, none⟩) 1 1 [10] := Mk.dg64 (Mk.new w 82 .u64 [10]) rfl (by decide : 1 ≤ 9223372036854775807) hok
  go_enter Tryz.func113, Tryz.ntmps113
  go_wp2_with fail
  generalize w.alloc (.cells #[.int .u64 10] 82) = w1 at *
  refine (pow64_any _ 1 1 n (n + 1) [10] _ D b hv (by omega) (by omega) (by omega) (by omega)).mono ?_
  rintro e w2 ⟨A2, m2, c2, y2, rfl, D2, N2, V2, M2, hb2⟩
  have hw2 := hba.trans (hb2.mono hba.size)
  go_wp2
  go_ret
  exact ⟨_, _, _, _, rfl, D2, N2, V2, M2, hw2⟩
theorem tenToQ (n : Nat) (w : World) (hn : n ≤ 100000) : Calls Tryz.prog 113 #[.int .i64 (n : Int)] w (RetN .u64 w (10 ^ n) (n + 1)) := tenTo_gen 10 n w hn vl_lit10

theorem ret_str {a b : ByteArray} (h : a.data.toList = b.data.toList) : Ending.returned (.string a) = .returned (.string b) := by
  have : a = b := by
    cases a; cases b; congr 1; exact Array.ext' h
  rw [this]
theorem repeat_zero_list (c : Nat) : Lib.repeatL [(48 : UInt8)] c = List.replicate c 48 := by
  induction c with
  | zero => rfl
  | succ c ih => simp [Lib.repeatL, List.replicate_succ] at *; try exact ih

set_option maxHeartbeats 1600000 in
theorem paddedQ (l : List UInt8) (n : Nat) (w : World) (hn : n ≤ 1000000) (hl : l.length ≤ 1000000) : Calls Tryz.prog 116 #[.string ⟨l.toArray⟩, .int .i64 (n : Int)] w
    fun e w' => e = .returned (.string ⟨(List.replicate (n - l.length) 48 ++ l).toArray⟩) ∧ Below w.heap.size w w' := by
  have hsz : (⟨l.toArray⟩ : ByteArray).size = l.length := by simp [ByteArray.size]
  have hmx : max ((n : Int) - (l.length : Int)) 0 = ((n - l.length : Nat) : Int) := by omega
  have hmx := Lib.hid hmx
  go_enter Tryz.func116, Tryz.ntmps116
  go_wp2_with fail
  refine (Tryz.strings_Repeat ⟨#[48]⟩ (n - l.length) _ (by omega) (by show 1 * _ ≤ _; omega)).mono ?_
  rintro e w2 ⟨rfl, hb⟩
  rw [show (⟨#[48]⟩ : ByteArray).data.toList = [48] from rfl, repeat_zero_list]
  go_wp2
  go_ret
  exact ⟨ret_str (by simp), hb⟩
end Go.Proofs.YtbgihlfblmilmaaGreatDoor.Fr
