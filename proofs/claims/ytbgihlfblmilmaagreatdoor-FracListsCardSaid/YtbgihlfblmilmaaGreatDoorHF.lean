/- More of the reference: negative powers, distributions, the greatest. -/
import Derived.Test.YtbgihlfblmilmaaGreatDoorHE
import Derived.Test.YtbgihlfblmilmaaGreatDoorGX
namespace Go.Proofs.YtbgihlfblmilmaaGreatDoor.Fr
open Go.RowKit Num

set_option maxHeartbeats 6400000 in
set_option maxRecDepth 100000 in
theorem refPowNegQ (v1 : Value) (q1 : Rat) (n L : Nat) (w : World) (h1 : AF w v1 q1 L) (hz : q1 ≠ 0) (hn : n ≤ 10000) (hn1 : 1 ≤ n) (hL : 3 + n * (L + 5) + L ≤ 40000) :
    Calls Tryz.prog 49 #[v1, .int .i64 (-(n : Int))] w (RetFQ w (q1⁻¹ ^ n) (3 + n * (L + 5))) := by
  obtain ⟨s1, A1, n1, c1, A2, n2, c2, rfl⟩ := h1.form
  have hmono := Lib.hid (fun (k : Nat) (hk : k ≤ n) => Nat.mul_le_mul_right (L + 5) hk)
  obtain ⟨B1, B2, hw0⟩ := two_blk w 24 #[.bool s1, .slice A1 n1 c1, .slice A2 n2 c2] #[.bool false, .slice none 0 0, .slice none 0 0]
  have h1 := h1.below hw0
  have hgl := B2.lt
  go_enter Tryz.func49, Tryz.ntmps49
  go_upto_region 1 with fail
  generalize (w.alloc (.cells #[.bool s1, .slice A1 n1 c1, .slice A2 n2 c2] 24)).alloc (.cells #[.bool false, .slice none 0 0, .slice none 0 0] 24) = w1 at *
  have hneg : decide (-(n : Int) < 0) = true := decide_eq_true (by omega)
  have y0 := B1.cell 0
  have y1 := B1.cell 1
  have y2 := B1.cell 2
  go_wp2_with fail
  refine (refInvQ _ q1 L _ h1 (by omega) hz).mono ?_
  rintro e w2 ⟨_, rfl, hq5, hb5⟩
  obtain ⟨s5, A3, m3, c3, A4, m4, c4, rfl⟩ := hq5.form
  have B1 := B1.below hb5
  have B2 := B2.below hb5
  have hw2 := hw0.trans (hb5.mono hw0.size)
  have hZ := Bx.mk B1 hq5
  have B2 := ((B2.far (p := ⟨w.heap.size, 0, none⟩) (show w.heap.size + 1 ≠ w.heap.size by omega) (.bool s5)).far (p := ⟨w.heap.size, 1, none⟩) (show w.heap.size + 1 ≠ w.heap.size by omega) (.slice A3 m3 c3)).far (p := ⟨w.heap.size, 2, none⟩) (show w.heap.size + 1 ≠ w.heap.size by omega) (.slice A4 m4 c4)
  have hw2 := bel_set3 hw2 (Nat.le_refl _) (.bool s5) (.slice A3 m3 c3) (.slice A4 m4 c4)
  have r0 := B1.cell 0
  have r1 := B1.cell 1
  have r2 := B1.cell 2
  have f0 := B1.frozen 0
  have f1 := B1.frozen 1
  have f2 := B1.frozen 2
  have hsz : ((((w2.setCell ⟨w.heap.size, 0, none⟩ (.bool s5)).setCell ⟨w.heap.size, 1, none⟩ (.slice A3 m3 c3)).setCell ⟨w.heap.size, 2, none⟩ (.slice A4 m4 c4))).heap.size = w2.heap.size := by simp
  clear hq5 B1
  go_upto_region 3 with fail
  have hlt5 := hb5.size
  clear r0 r1 r2 f0 f1 f2 y0 y1 y2 hb5
  generalize (((w2.setCell ⟨w.heap.size, 0, none⟩ (.bool s5)).setCell ⟨w.heap.size, 1, none⟩ (.slice A3 m3 c3)).setCell ⟨w.heap.size, 2, none⟩ (.slice A4 m4 c4)) = w5 at *
  go_wp2_with fail
  refine (refOfQ 1 w5 (by decide)).mono ?_
  rintro e w3 ⟨_, rfl, hq2, hlw⟩
  obtain ⟨s2, A7, m7, c7, A8, m8, c8, rfl⟩ := hq2.form
  have hlt2 := hlw.size
  have hbw := (Below.refl w3.heap.size w3).alloc (Nat.le_refl _) (.cells #[.bool s2, .slice A7 m7 c7, .slice A8 m8 c8] 24)
  have hbx : Bx (w3.alloc (.cells #[.bool s2, .slice A7 m7 c7, .slice A8 m8 c8] 24)) w3.heap.size (q1⁻¹ ^ 0) (3 + 0 * (L + 5)) := ⟨_, _, _, _, _, _, _, Blk.new w3 24 #[.bool s2, .slice A7 m7 c7, .slice A8 m8 c8], by rw [Rat.pow_zero]; exact (hq2.below hbw).le (by omega)⟩
  have hw3 := hw2.trans (hlw.mono hw2.size)
  have hbase := hZ.below hlw
  have B2 := B2.below hlw
  clear hq2 hZ
  go_wp2
  generalize w3.alloc (.cells #[.bool s2, .slice A7 m7 c7, .slice A8 m8 c8] 24) = w4 at *

  go_loopw [6] (fun iv wr => ∃ k : Nat, iv = .int .i64 k ∧ k ≤ n ∧ Bx wr w3.heap.size (q1⁻¹ ^ k) (3 + k * (L + 5)) ∧ Below w3.heap.size w3 wr) (fun iv _ => n - (intOf iv).toNat)
  case atStart => exact ⟨0, rfl, Nat.zero_le _, hbx, hbw⟩
  case round =>
    clear hbx hbw
    obtain ⟨k, rfl, hkn, hX, hb⟩ := hrel
    by_cases hlt : k < n
    · obtain ⟨s3, A3, m3, c3, A4, m4, c4, X1, X2⟩ := hX
      obtain ⟨s4, A5, m5, c5, A6, m6, c6, Z1, Z2⟩ := hbase.below hb
      have hstep := Lib.hid (Rat.pow_succ q1⁻¹ k)
      have hm1 := hmono.out k (Nat.le_of_lt hlt)
      have hkk : 3 + (k + 1) * (L + 5) = 3 + k * (L + 5) + L + 5 := by rw [Nat.add_mul]; omega
      have y0 := X1.cell 0
      have y1 := X1.cell 1
      have y2 := X1.cell 2
      have y3 := Z1.cell 0
      have y4 := Z1.cell 1
      have y5 := Z1.cell 2
      go_wp2_with fail
      refine (refMulQ _ _ (q1⁻¹ ^ k) q1⁻¹ (3 + k * (L + 5)) (L + 2) _ X2.af Z2.af (by omega)).mono ?_
      rintro e w6 ⟨_, rfl, hq6, hb6⟩
      obtain ⟨s6, A7, m7, c7, A8, m8, c8, rfl⟩ := hq6.form
      have C6 := X1.below hb6
      have hX7 := Bx.mk C6 hq6
      have hb7 := (((hb.trans (hb6.mono hb.size)).setCell (p := ⟨w3.heap.size, 0, none⟩) (Nat.le_refl _) (.bool s6)).setCell (p := ⟨w3.heap.size, 1, none⟩) (Nat.le_refl _) (.slice A7 m7 c7)).setCell (p := ⟨w3.heap.size, 2, none⟩) (Nat.le_refl _) (.slice A8 m8 c8)
      have r0 := C6.cell 0
      have r1 := C6.cell 1
      have r2 := C6.cell 2
      have f0 := C6.frozen 0
      have f1 := C6.frozen 1
      have f2 := C6.frozen 2
      clear y0 y1 y2 y3 y4 y5 hq6 C6 X2 Z2
      go_wp2
      go_roundw
      case rel => exact ⟨k + 1, by go_num, hlt, by rw [hstep.out, hkk]; exact hX7.le (by omega), hb7⟩
      case measure => simp [intOf]; omega
    · obtain rfl : k = n := by omega
      obtain ⟨s3, A3, m3, c3, A4, m4, c4, X1, X2⟩ := hX
      have y0 := X1.cell 0
      have y1 := X1.cell 1
      have y2 := X1.cell 2
      have C9 := B2.below hb
      have hw9 := hw3.trans (hb.mono hw3.size)
      have r0 := C9.cell 0
      have r1 := C9.cell 1
      have r2 := C9.cell 2
      have f0 := C9.frozen 0
      have f1 := C9.frozen 1
      have f2 := C9.frozen 2
      go_wp2
      exact ret_frac rfl rfl (((C9.set_ 0 _).set_ 1 _).set_ 2 _) rfl ⟨_, rfl, X2.set3 C9 _ _ _, bel_set3 hw9 (by omega) _ _ _⟩

theorem sgn_neg (q : Rat) : decide (Fr.qs q < 0) = decide (q.num < 0) := by
  apply decide_eq_decide.2
  unfold Fr.qs cq
  have h1 : q.num < 0 ↔ q < 0 := by
    rw [← Int.not_le, ← Rat.not_le, Rat.num_nonneg]
  rw [h1]
  split
  · rename_i h; simp [h]
  · rename_i h; split <;> simp [h]
theorem cq_eq (a b : Rat) : ((cq a b : Int) == 0) = decide (a = b) := by
  unfold cq
  split
  · rename_i h
    rw [decide_eq_false (fun e => by subst e; exact absurd h (Rat.not_lt.2 (Rat.le_refl)))]; rfl
  · rename_i h
    split
    · rename_i h'
      rw [decide_eq_false (fun e => by subst e; exact absurd h' (Rat.not_lt.2 (Rat.le_refl)))]; rfl
    · rename_i h'
      rw [decide_eq_true (Rat.le_antisymm (Rat.not_lt.1 h') (Rat.not_lt.1 h))]; rfl

set_option maxHeartbeats 6400000 in
set_option maxRecDepth 100000 in
theorem refDistributionQ (A : Option Addr) (n c L : Nat) (qs : List Rat) (w : World) (h : Ls AF w A n c L qs) (hn : n ≤ 1000) (hL : 3 + n * (L + 3) + L ≤ 10000) :
    Calls Tryz.prog 59 #[.slice A n c] w fun e w' => e = .returned (.bool (!(ngs qs) && decide (qs.foldl (· + ·) 0 = 1))) ∧ Below w.heap.size w w' := by
  have hc1 := h.cap
  have hc2 := h.top
  have hlen := Lib.hid h.len
  have hw0 := Below.refl w.heap.size w
  go_enter Tryz.func59, Tryz.ntmps59
  go_upto_block 0 with fail
  go_wp2
  go_loopw [3] (fun iv wr => ∃ k : Nat, iv = .int .i64 k ∧ k ≤ n ∧ Hid (ngs (qs.take k) = false) ∧ Below w.heap.size w wr) (fun iv _ => n - (intOf iv).toNat)
  case atStart => exact ⟨0, rfl, Nat.zero_le _, rfl, hw0⟩
  case round =>
    clear hw0
    obtain ⟨k, rfl, hkn, hN, hb⟩ := hrel
    by_cases hlt : k < n
    · obtain ⟨ad, s, A1, m1, c1, A2, m2, c2, q, rfl, hq, k0, k1, k2, hv⟩ := (h.below bels_af hb).af hlt
      have hgd : qs.getD k 0 = q := by rw [List.getD_eq_getElem?_getD, hq]; rfl
      have hs := ngs_take (by rw [hlen.out]; exact hlt) hN.out (decide (q.num < 0)) (by rw [hgd])
      have hsq : decide (Fr.qs q < 0) = decide (q.num < 0) := sgn_neg q
      obtain ⟨b, hbq⟩ : ∃ b, decide (q.num < 0) = b := ⟨_, rfl⟩
      rw [hbq] at hs hsq
      have hs := Lib.hid hs
      clear hq hgd hbq
      go_wp2_with fail
      refine (refSignQ _ q L _ hv).mono ?_
      rintro e w2 ⟨rfl, hb2⟩
      have hb2 := hb.trans (hb2.mono hb.size)
      obtain ⟨t1, t2⟩ := qs_bound q
      cases b with
      | true =>
        go_wp2
        go_ret
        exact ⟨ret_bool (by rw [ngs_true hs.out]; rfl), hb2⟩
      | false =>
        go_wp2
        go_roundw
        case rel => exact ⟨k + 1, by go_num, hlt, hs, hb2⟩
        case measure => simp [intOf]; omega
    · obtain rfl : k = n := by omega
      have hN' := hN.out
      rw [List.take_of_length_le (by rw [hlen.out]; exact Nat.le_refl _)] at hN'
      have hN' := Lib.hid hN'
      have hL1 := h.below bels_af hb
      go_wp2_with fail
      refine (refSumQ _ _ _ L qs _ hL1 hn (by omega)).mono ?_
      rintro e w2 ⟨_, rfl, hq2, hb2⟩
      obtain ⟨s2, A3, m3, c3, A4, m4, c4, rfl⟩ := hq2.form
      have hw2 := hb.trans (hb2.mono hb.size)
      go_wp2_with fail
      refine (refOfQ 1 _ (by decide)).mono ?_
      rintro e w3 ⟨_, rfl, hq3, hb3⟩
      obtain ⟨s3, A5, m5, c5, A6, m6, c6, rfl⟩ := hq3.form
      have hw3 := hw2.trans (hb3.mono hw2.size)
      go_wp2_with fail
      refine (refCmpQ _ _ (qs.foldl (· + ·) 0) 1 _ 3 _ (hq2.below hb3).af hq3.af (by omega)).mono ?_
      rintro e w4 ⟨rfl, hb4⟩
      have hw4 := hw3.trans (hb4.mono hw3.size)
      have hce := Lib.hid (cq_eq (qs.foldl (· + ·) 0) 1)
      go_wp2
      go_ret
      exact ⟨ret_bool (by rw [hN'.out, ← hce.out]; rfl), hw4⟩
end Go.Proofs.YtbgihlfblmilmaaGreatDoor.Fr

/- The reference's greatest integer that is not greater; numbers rounded down. -/
namespace Go.Proofs.YtbgihlfblmilmaaGreatDoor.Fr
open Go.RowKit Num


set_option maxHeartbeats 6400000 in
set_option maxRecDepth 100000 in
theorem refDownQ (v1 : Value) (q1 : Rat) (L : Nat) (w : World) (h1 : AF w v1 q1 L) (hL : L ≤ 50000) :
    Calls Tryz.prog 35 #[v1] w (RetFQ w (q1.floor : Rat) (L + 3)) := by
  obtain ⟨s1, A1, n1, c1, A2, n2, c2, x1, x2, rfl, d1, d2, l1, l2, hq1⟩ := h1
  obtain ⟨B1, B3, hw0⟩ := two_blk w 24 #[.bool s1, .slice A1 n1 c1, .slice A2 n2 c2] #[.bool false, .slice none 0 0, .slice none 0 0]
  have d1 := d1.below hw0
  have d2 := d2.below hw0
  go_enter Tryz.func35, Tryz.ntmps35
  go_upto_region 1 with fail
  generalize (w.alloc (.cells #[.bool s1, .slice A1 n1 c1, .slice A2 n2 c2] 24)).alloc (.cells #[.bool false, .slice none 0 0, .slice none 0 0] 24) = w1 at *
  have hbd : Below w1.heap.size w1 w1.drew := (Below.refl _ _).drew
  have K1 : w1.cell? ⟨w.heap.size, 0, none⟩ = some (.bool s1) ∧ w1.cell? ⟨w.heap.size, 1, none⟩ = some (.slice A1 n1 c1) ∧ w1.cell? ⟨w.heap.size, 2, none⟩ = some (.slice A2 n2 c2) := ⟨B1.cell 0, B1.cell 1, B1.cell 2⟩
  obtain ⟨k0, k1, k2⟩ := K1
  go_region_held3 (fun wx => wx.cell? ⟨w.heap.size, 0, none⟩ = some (.bool s1) ∧ wx.cell? ⟨w.heap.size, 1, none⟩ = some (.slice A1 n1 c1) ∧ wx.cell? ⟨w.heap.size, 2, none⟩ = some (.slice A2 n2 c2))
    (first | exact ⟨k0, k1, k2⟩ | exact Kw5 | exact Kw6 | exact Kw7)
    (first
      | (go_at_call_of 89 (Value.slice A1 n1 c1); refine (trimB _ _ _ _ _ ((d1).below hbd)).mono ?_; rintro e w5 ⟨m5, y5, rfl, D5, N5, V5, M5, hb5⟩; have Kw5 : w5.cell? ⟨w.heap.size, 0, none⟩ = some (.bool s1) ∧ w5.cell? ⟨w.heap.size, 1, none⟩ = some (.slice A1 n1 c1) ∧ w5.cell? ⟨w.heap.size, 2, none⟩ = some (.slice A2 n2 c2) := ⟨((B1.drew).below hb5).cell 0, ((B1.drew).below hb5).cell 1, ((B1.drew).below hb5).cell 2⟩)
      | (go_at_call_of 81 (Value.agg #[.bool s1, .slice A1 n1 c1, .slice A2 n2 c2]); refine (lowQ _ _ _ _ _ _ _ _ _ (((d2).below hbd).below hb5)).mono ?_; rintro e w6 ⟨A6, m6, c6, y6, rfl, D6, N6, V6, M6, hb6⟩; have Kw6 : w6.cell? ⟨w.heap.size, 0, none⟩ = some (.bool s1) ∧ w6.cell? ⟨w.heap.size, 1, none⟩ = some (.slice A1 n1 c1) ∧ w6.cell? ⟨w.heap.size, 2, none⟩ = some (.slice A2 n2 c2) := ⟨(((B1.drew).below hb5).below hb6).cell 0, (((B1.drew).below hb5).below hb6).cell 1, (((B1.drew).below hb5).below hb6).cell 2⟩)
      | (go_at_call 90; refine (divide_any _ _ _ _ _ _ _ _ _ (D5.below hb6) D6 (by omega) (by omega) (by rw [V6.out]; exact dn_pos' _)).mono ?_; rintro e w7 ⟨_, _, rfl, ⟨A7, m7, c7, y7, rfl, D7, N7, V7, M7⟩, ⟨A8, m8, c8, y8, rfl, D8, N8, V8, M8⟩, hb7⟩; have Kw7 : w7.cell? ⟨w.heap.size, 0, none⟩ = some (.bool s1) ∧ w7.cell? ⟨w.heap.size, 1, none⟩ = some (.slice A1 n1 c1) ∧ w7.cell? ⟨w.heap.size, 2, none⟩ = some (.slice A2 n2 c2) := ⟨((((B1.drew).below hb5).below hb6).below hb7).cell 0, ((((B1.drew).below hb5).below hb6).below hb7).cell 1, ((((B1.drew).below hb5).below hb6).below hb7).cell 2⟩))
  have z0 := hw0.drew
  have z1 := z0.trans (hb5.mono z0.size)
  have z2 := z1.trans (hb6.mono z1.size)
  have z3 := z2.trans (hb7.mono z2.size)

  have hzz := z3
  have CB := ((B1.drew.below hb5).below hb6).below hb7
  have CR := ((B3.drew.below hb5).below hb6).below hb7
  have V7 := Lib.hid (show vl (bs .u32) y7 = vl (bs .u32) x1 / dn (vl (bs .u32) x2) by rw [V7.out, V5.out, V6.out])
  have V8 := Lib.hid (show vl (bs .u32) y8 = vl (bs .u32) x1 % dn (vl (bs .u32) x2) by rw [V8.out, V5.out, V6.out])
  clear z0 z1 z2 z3 hb5 hb6 hb7 Kw5 Kw6 Kw7 k0 k1 k2 B1 B3 hbd hw0 D5 D6 N5 N6 V5 V6 d1 d2
  obtain ⟨X, hX⟩ : ∃ X, X = vl (bs .u32) x1 := ⟨_, rfl⟩
  obtain ⟨Y, hY⟩ : ∃ Y, Y = dn (vl (bs .u32) x2) := ⟨_, rfl⟩
  have hYp : 0 < Y := by rw [hY]; exact dn_pos' _
  rw [← hX, ← hY] at V7 V8 hq1
  have hfl := Lib.hid (show q1.floor = (fq s1 X Y).floor by rw [hq1.out])
  clear hX hY hq1
  have r0 := CB.cell 0
  have ht8 := D8.cap
  cases s1 with
  | true =>
    go_wp2_with fail
    refine (trimB _ _ _ _ _ D8).mono ?_
    rintro e w9 ⟨m9, y9, rfl, D9, N9, V9, M9, hb9⟩
    have hzz := hzz.trans (hb9.mono hzz.size)
    have CB := CB.below hb9
    have CR := CR.below hb9
    have D7 := D7.below hb9
    have r0 := CB.cell 0
    have t9 := D9.cap
    have hp := nv_pos D9 N9 (by decide) (show Hid (vl (bs .u32) y9 = X % Y) from by show _ = _; rw [V9.out, V8.out])
    rcases Nat.eq_zero_or_pos m9 with hm | hm
    · subst hm
      have hr : ¬ 0 < X % Y := fun h => by rw [decide_eq_true h] at hp; exact absurd hp (by decide)
      have hval := Lib.hid (show (fq true X Y).floor = -((X / Y : Nat) : Int) by rw [floor_fq_neg hYp, if_neg hr]; rfl)
      clear hp hr
      go_wp2_with fail
      refine (make1Q true _ _ _ _ _ _ _ _ _ (D7) (Dg.nil .u32 _) (by omega) (by omega)).mono ?_
      rintro e w15 ⟨v15, rfl, hq15, hb15⟩
      have hq8 : FQ w15 v15 (q1.floor : Rat) (L + 3) := by
        have hh := hq15
        rw [V7.out, show dn (vl (bs .u32) []) = 1 from rfl, fq_nat, if_pos rfl] at hh
        rw [hfl.out, hval.out]
        exact hh.le (by omega)
      clear hq15
      obtain ⟨s8, A15, m15, c15, A16, m16, c16, rfl⟩ := hq8.form
      have P3 := CR.below hb15
      have hz2 := hzz.trans (hb15.mono hzz.size)
      have r0 := P3.cell 0
      have r1 := P3.cell 1
      have r2 := P3.cell 2
      have f0 := P3.frozen 0
      have f1 := P3.frozen 1
      have f2 := P3.frozen 2
      go_wp2
      exact ret_frac rfl rfl (((P3.set_ 0 _).set_ 1 _).set_ 2 _) rfl ⟨_, rfl, hq8.set3 P3 _ _ _, bel_set3 hz2 (by omega) _ _ _⟩

    · have hr : 0 < X % Y := by rw [decide_eq_true hm] at hp; exact of_decide_eq_true hp.symm
      have hval := Lib.hid (show (fq true X Y).floor = -((X / Y + 1 : Nat) : Int) by rw [floor_fq_neg hYp, if_pos hr])
      clear hp hr
      have D10 : Dg .u32 (w9.alloc (.cells #[.int .u32 1] 63)) (some ⟨w9.heap.size, 0, none⟩) 1 1 [1] := Mk.dg (Mk.new w9 _ .u32 [1]) rfl (by decide : 1 ≤ 1000000) (by intro x hx; simp at hx; subst hx; decide)
      have hba := (Below.refl w9.heap.size w9).alloc (Nat.le_refl _) (.cells #[.int .u32 1] 63)
      have hzz := hzz.trans (hba.mono hzz.size)
      have CB := CB.below hba
      have CR := CR.below hba
      have D7 := D7.below hba
      go_wp2_with fail
      generalize w9.alloc (.cells #[.int .u32 1] 63) = w10 at *
      refine (plus_any _ _ _ _ _ _ _ _ _ D7 D10 (by omega) (by omega)).mono ?_
      rintro e w11 ⟨A11, m11, c11, y11, rfl, D11, N11, V11, M11, hb11⟩
      have hzz := hzz.trans (hb11.mono hzz.size)
      have CB := CB.below hb11
      have CR := CR.below hb11
      have r0 := CB.cell 0
      have V11 := Lib.hid (show vl (bs .u32) y11 = X / Y + 1 by rw [V11.out, V7.out]; simp [vl])
      go_wp2_with fail
      refine (make1Q true _ _ _ _ _ _ _ _ _ (D11) (Dg.nil .u32 _) (by omega) (by omega)).mono ?_
      rintro e w15 ⟨v15, rfl, hq15, hb15⟩
      have hq8 : FQ w15 v15 (q1.floor : Rat) (L + 3) := by
        have hh := hq15
        rw [V11.out, show dn (vl (bs .u32) []) = 1 from rfl, fq_nat, if_pos rfl] at hh
        rw [hfl.out, hval.out]
        exact hh.le (by omega)
      clear hq15
      obtain ⟨s8, A15, m15, c15, A16, m16, c16, rfl⟩ := hq8.form
      have P3 := CR.below hb15
      have hz2 := hzz.trans (hb15.mono hzz.size)
      have r0 := P3.cell 0
      have r1 := P3.cell 1
      have r2 := P3.cell 2
      have f0 := P3.frozen 0
      have f1 := P3.frozen 1
      have f2 := P3.frozen 2
      go_wp2
      exact ret_frac rfl rfl (((P3.set_ 0 _).set_ 1 _).set_ 2 _) rfl ⟨_, rfl, hq8.set3 P3 _ _ _, bel_set3 hz2 (by omega) _ _ _⟩

  | false =>
    have hval := Lib.hid (show (fq false X Y).floor = ((X / Y : Nat) : Int) from floor_fq_pos hYp)
    go_wp2_with fail
    refine (make1Q false _ _ _ _ _ _ _ _ _ (D7) (Dg.nil .u32 _) (by omega) (by omega)).mono ?_
    rintro e w15 ⟨v15, rfl, hq15, hb15⟩
    have hq8 : FQ w15 v15 (q1.floor : Rat) (L + 3) := by
      have hh := hq15
      rw [V7.out, show dn (vl (bs .u32) []) = 1 from rfl, fq_nat, if_neg (by simp)] at hh
      rw [hfl.out, hval.out]
      exact hh.le (by omega)
    clear hq15
    obtain ⟨s8, A15, m15, c15, A16, m16, c16, rfl⟩ := hq8.form
    have P3 := CR.below hb15
    have hz2 := hzz.trans (hb15.mono hzz.size)
    have r0 := P3.cell 0
    have r1 := P3.cell 1
    have r2 := P3.cell 2
    have f0 := P3.frozen 0
    have f1 := P3.frozen 1
    have f2 := P3.frozen 2
    go_wp2
    exact ret_frac rfl rfl (((P3.set_ 0 _).set_ 1 _).set_ 2 _) rfl ⟨_, rfl, hq8.set3 P3 _ _ _, bel_set3 hz2 (by omega) _ _ _⟩

set_option maxHeartbeats 6400000 in
set_option maxRecDepth 100000 in
theorem refFloorQ (v1 : Value) (q1 : Rat) (d : Int) (L : Nat) (w : World) (h1 : AF w v1 q1 L) (hd : -9223372036854775808 ≤ d ∧ d ≤ 9223372036854775807) (hdq : (d : Rat) ≠ 0) (hL : L ≤ 10000) :
    Calls Tryz.prog 62 #[v1, .int .i64 d] w (RetFQ w (((q1 * (d : Rat)).floor : Rat) * (d : Rat)⁻¹) (L + 3 + 3 + 3 + (3 + 2) + 3)) := by
  obtain ⟨s1, A1, n1, c1, A2, n2, c2, rfl⟩ := h1.form
  obtain ⟨B1, B3, hw0⟩ := two_blk w 24 #[.bool s1, .slice A1 n1 c1, .slice A2 n2 c2] #[.bool false, .slice none 0 0, .slice none 0 0]
  have h1 := h1.below hw0
  go_enter Tryz.func62, Tryz.ntmps62
  go_upto_region 1 with fail
  generalize (w.alloc (.cells #[.bool s1, .slice A1 n1 c1, .slice A2 n2 c2] 24)).alloc (.cells #[.bool false, .slice none 0 0, .slice none 0 0] 24) = w1 at *
  have hbd : Below w1.heap.size w1 w1.drew := (Below.refl _ _).drew
  have K1 : w1.cell? ⟨w.heap.size, 0, none⟩ = some (.bool s1) ∧ w1.cell? ⟨w.heap.size, 1, none⟩ = some (.slice A1 n1 c1) ∧ w1.cell? ⟨w.heap.size, 2, none⟩ = some (.slice A2 n2 c2) := ⟨B1.cell 0, B1.cell 1, B1.cell 2⟩
  obtain ⟨k0, k1, k2⟩ := K1
  go_region_held3 (fun wx => wx.cell? ⟨w.heap.size, 0, none⟩ = some (.bool s1) ∧ wx.cell? ⟨w.heap.size, 1, none⟩ = some (.slice A1 n1 c1) ∧ wx.cell? ⟨w.heap.size, 2, none⟩ = some (.slice A2 n2 c2))
    (first | exact ⟨k0, k1, k2⟩ | exact Kw5 | exact Kw6 | exact Kw7 | exact Kwe | exact Kw8 | exact K9.out _ _ _)
    (first
      | (go_at_call 31; refine (refOfQ d _ hd).mono ?_; rintro e w5 ⟨_, rfl, hq5, hb5⟩; obtain ⟨s5, A5, m5, c5, A6, m6, c6, rfl⟩ := hq5.form; have Kw5 : w5.cell? ⟨w.heap.size, 0, none⟩ = some (.bool s1) ∧ w5.cell? ⟨w.heap.size, 1, none⟩ = some (.slice A1 n1 c1) ∧ w5.cell? ⟨w.heap.size, 2, none⟩ = some (.slice A2 n2 c2) := ⟨((B1.drew).below hb5).cell 0, ((B1.drew).below hb5).cell 1, ((B1.drew).below hb5).cell 2⟩)
      | (go_at_call 44; refine (refMulQ _ _ q1 (d : Rat) L 3 _ ((h1.below hbd).below hb5) hq5.af (by omega)).mono ?_; rintro e w6 ⟨_, rfl, hq6, hb6⟩; obtain ⟨s6, A7, m7, c7, A8, m8, c8, rfl⟩ := hq6.form; have Kw6 : w6.cell? ⟨w.heap.size, 0, none⟩ = some (.bool s1) ∧ w6.cell? ⟨w.heap.size, 1, none⟩ = some (.slice A1 n1 c1) ∧ w6.cell? ⟨w.heap.size, 2, none⟩ = some (.slice A2 n2 c2) := ⟨(((B1.drew).below hb5).below hb6).cell 0, (((B1.drew).below hb5).below hb6).cell 1, (((B1.drew).below hb5).below hb6).cell 2⟩)
      | (go_at_call 35; refine (refDownQ _ (q1 * (d : Rat)) (L + 3 + 3) _ hq6.af (by omega)).mono ?_; rintro e w7 ⟨_, rfl, hq7, hb7⟩; obtain ⟨s7, A9, m9, c9, A10, m10, c10, rfl⟩ := hq7.form; have Kw7 : w7.cell? ⟨w.heap.size, 0, none⟩ = some (.bool s1) ∧ w7.cell? ⟨w.heap.size, 1, none⟩ = some (.slice A1 n1 c1) ∧ w7.cell? ⟨w.heap.size, 2, none⟩ = some (.slice A2 n2 c2) := ⟨((((B1.drew).below hb5).below hb6).below hb7).cell 0, ((((B1.drew).below hb5).below hb6).below hb7).cell 1, ((((B1.drew).below hb5).below hb6).below hb7).cell 2⟩)
      | (go_at_call 31; refine (refOfQ d _ hd).mono ?_; rintro e we ⟨_, rfl, hqe, hbe⟩; have hq7 := hq7.below hbe; obtain ⟨se, Ae, me, ce, Af, mf, cf, rfl⟩ := hqe.form; have Kwe : we.cell? ⟨w.heap.size, 0, none⟩ = some (.bool s1) ∧ we.cell? ⟨w.heap.size, 1, none⟩ = some (.slice A1 n1 c1) ∧ we.cell? ⟨w.heap.size, 2, none⟩ = some (.slice A2 n2 c2) := ⟨(((((B1.drew).below hb5).below hb6).below hb7).below hbe).cell 0, (((((B1.drew).below hb5).below hb6).below hb7).below hbe).cell 1, (((((B1.drew).below hb5).below hb6).below hb7).below hbe).cell 2⟩)
      | (go_at_call 46; refine (refDivQ _ _ _ _ (L + 3 + 3 + 3) 3 _ hq7.af hqe.af (by omega) hdq).mono ?_; rintro e w8 ⟨_, rfl, hq8, hb8⟩; obtain ⟨s8, A13, m13, c13, A14, m14, c14, rfl⟩ := hq8.form; have Kw8 : w8.cell? ⟨w.heap.size, 0, none⟩ = some (.bool s1) ∧ w8.cell? ⟨w.heap.size, 1, none⟩ = some (.slice A1 n1 c1) ∧ w8.cell? ⟨w.heap.size, 2, none⟩ = some (.slice A2 n2 c2) := ⟨((((((B1.drew).below hb5).below hb6).below hb7).below hbe).below hb8).cell 0, ((((((B1.drew).below hb5).below hb6).below hb7).below hbe).below hb8).cell 1, ((((((B1.drew).below hb5).below hb6).below hb7).below hbe).below hb8).cell 2⟩; have K9 := Lib.hid (show ∀ a b d, (((w8.setCell ⟨w.heap.size + 1, 0, none⟩ a).setCell ⟨w.heap.size + 1, 1, none⟩ b).setCell ⟨w.heap.size + 1, 2, none⟩ d).cell? ⟨w.heap.size, 0, none⟩ = some (.bool s1) ∧ (((w8.setCell ⟨w.heap.size + 1, 0, none⟩ a).setCell ⟨w.heap.size + 1, 1, none⟩ b).setCell ⟨w.heap.size + 1, 2, none⟩ d).cell? ⟨w.heap.size, 1, none⟩ = some (.slice A1 n1 c1) ∧ (((w8.setCell ⟨w.heap.size + 1, 0, none⟩ a).setCell ⟨w.heap.size + 1, 1, none⟩ b).setCell ⟨w.heap.size + 1, 2, none⟩ d).cell? ⟨w.heap.size, 2, none⟩ = some (.slice A2 n2 c2) from fun a b d => ⟨(cell_set3 _ _ _ _ _ _ (by show w.heap.size ≠ _; omega)).trans Kw8.1, (cell_set3 _ _ _ _ _ _ (by show w.heap.size ≠ _; omega)).trans Kw8.2.1, (cell_set3 _ _ _ _ _ _ (by show w.heap.size ≠ _; omega)).trans Kw8.2.2⟩); have P3 := (((((B3.drew).below hb5).below hb6).below hb7).below hbe).below hb8; have r0 := P3.cell 0; have r1 := P3.cell 1; have r2 := P3.cell 2; have f0 := P3.frozen 0; have f1 := P3.frozen 1; have f2 := P3.frozen 2))
  have z0 := hw0.drew
  have z1 := z0.trans (hb5.mono z0.size)
  have z2 := z1.trans (hb6.mono z1.size)
  have z3 := z2.trans (hb7.mono z2.size)
  have z4 := z3.trans (hbe.mono z3.size)
  have z5 := z4.trans (hb8.mono z4.size)
  go_wp2
  exact ret_frac rfl rfl (((P3.set_ 0 _).set_ 1 _).set_ 2 _) rfl ⟨_, rfl, (hq8).set3 P3 _ _ _, bel_set3 z5 (by omega) _ _ _⟩
end Go.Proofs.YtbgihlfblmilmaaGreatDoor.Fr
