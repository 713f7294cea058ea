/- The reference's size of a number. -/
import Derived.Test.YtbgihlfblmilmaaGreatDoorHF
import Derived.Test.YtbgihlfblmilmaaGreatDoorGS
namespace Go.Proofs.YtbgihlfblmilmaaGreatDoor.Fr
open Go.RowKit Num

theorem bitsB (A : Option Addr) (n c : Nat) (xs : List Nat) (w : World) (h : Dg .u32 w A n c xs) (hn : n ≤ 100000) (x : Nat) (hx : Hid (vl (bs .u32) xs = x)) :
    Calls Tryz.prog 80 #[.slice A n c] w fun e w' => e = .returned (.int .i64 ((bl x : Nat) : Int)) ∧ Below w.heap.size w w' := by
  refine (bits_any A n c xs w h (by omega)).mono ?_
  rintro e w' ⟨he, hw⟩
  rw [hx.out] at he
  exact ⟨he, by rw [← hw]; exact Below.refl _ _⟩
theorem dn_dw' {D : Nat} (h : 0 < D) : dn (dw D) = D := dn_dw h
theorem bl_len32 {w : World} {A : Option Addr} {n c : Nat} {xs : List Nat} (h : Dg .u32 w A n c xs) : bl (vl (bs .u32) xs) ≤ 32 * n := by
  refine bl_le ?_
  have := vl_lt h.ok
  rw [h.len, show bs .u32 ^ n = 2 ^ (32 * n) by rw [Nat.pow_mul]; rfl] at this
  exact this


set_option maxHeartbeats 3200000 in
set_option maxRecDepth 100000 in
theorem refSizeQ (v1 : Value) (q1 : Rat) (L : Nat) (w : World) (h1 : AF w v1 q1 L) (hL : L ≤ 50000) :
    Calls Tryz.prog 28 #[v1] w fun e w' => e = .returned (.int .i64 (((bl q1.num.natAbs + bl q1.den : Nat)) : Int)) ∧ Below w.heap.size w w' := by
  obtain ⟨s1, A1, n1, c1, A2, n2, c2, rfl⟩ := h1.form
  have B1 := Blk.new w 24 #[.bool s1, .slice A1 n1 c1, .slice A2 n2 c2]
  have hw0 := (Below.refl w.heap.size w).alloc (Nat.le_refl _) (.cells #[.bool s1, .slice A1 n1 c1, .slice A2 n2 c2] 24)
  have h1 := h1.below hw0
  go_enter Tryz.func28, Tryz.ntmps28
  go_upto_region 1 with fail
  generalize w.alloc (.cells #[.bool s1, .slice A1 n1 c1, .slice A2 n2 c2] 24) = w1 at *
  have y0 := B1.cell 0
  have y1 := B1.cell 1
  have y2 := B1.cell 2
  go_wp2_with fail
  refine (refCanonQ _ q1 L _ h1 (by omega)).mono ?_
  rintro e w2 ⟨_, rfl, hq, hb2⟩
  obtain ⟨s2, A3', n3', c3', A4', n4', c4', rfl⟩ := hq.form
  have C2 := B1.below hb2
  have hw2 := hw0.trans (hb2.mono hw0.size)
  obtain ⟨s, A3, n3, c3, A4, n4, c4, X1, X2⟩ := Bx.mk C2 hq
  have hw3 := bel_set3 hw2 (Nat.le_refl _) (.bool s2) (.slice A3' n3' c3') (.slice A4' n4' c4')
  have r0 := C2.cell 0
  have r1 := C2.cell 1
  have r2 := C2.cell 2
  have f0 := C2.frozen 0
  have f1 := C2.frozen 1
  have f2 := C2.frozen 2
  clear B1 C2
  go_upto_region 2 with fail
  clear r0 r1 r2 f0 f1 f2 y0 y1 y2
  generalize ((w2.setCell ⟨w.heap.size, 0, none⟩ (.bool s2)).setCell ⟨w.heap.size, 1, none⟩ (.slice A3' n3' c3')).setCell ⟨w.heap.size, 2, none⟩ (.slice A4' n4' c4') = w4 at *
  obtain ⟨_, _, he, ⟨_, _, _, y3, rfl, D3, N3, V3, M3⟩, ⟨_, _, _, y4, rfl, D4, N4, V4, M4⟩⟩ := X2
  injection he with he
  simp only [Array.mk.injEq, List.cons.injEq, and_true, Value.slice.injEq, Value.bool.injEq] at he
  obtain ⟨rfl, ⟨rfl, rfl, rfl⟩, ⟨rfl, rfl, rfl⟩⟩ := he
  generalize decide (q1.num < 0) = s at *
  have L3 := bl_len32 D3
  rw [V3.out] at L3
  have hbd : Below w4.heap.size w4 w4.drew := (Below.refl _ _).drew
  have K1 : w4.cell? ⟨w.heap.size, 0, none⟩ = some (.bool s) ∧ w4.cell? ⟨w.heap.size, 1, none⟩ = some (.slice A3 n3 c3) ∧ w4.cell? ⟨w.heap.size, 2, none⟩ = some (.slice A4 n4 c4) := ⟨X1.cell 0, X1.cell 1, X1.cell 2⟩
  obtain ⟨k0, k1, k2⟩ := K1
  go_region_held3 (fun wx => wx.cell? ⟨w.heap.size, 0, none⟩ = some (.bool s) ∧ wx.cell? ⟨w.heap.size, 1, none⟩ = some (.slice A3 n3 c3) ∧ wx.cell? ⟨w.heap.size, 2, none⟩ = some (.slice A4 n4 c4))
    (first | exact ⟨k0, k1, k2⟩ | exact Kw5 | exact Kw6 | exact Kw7)
    (first
      | (go_at_call_of 80 (Value.slice A3 n3 c3); refine (bitsB _ _ _ _ _ (D3.below hbd) (by omega) _ V3).mono ?_; rintro e w5 ⟨rfl, hb5⟩; have Kw5 : w5.cell? ⟨w.heap.size, 0, none⟩ = some (.bool s) ∧ w5.cell? ⟨w.heap.size, 1, none⟩ = some (.slice A3 n3 c3) ∧ w5.cell? ⟨w.heap.size, 2, none⟩ = some (.slice A4 n4 c4) := ⟨((X1.drew).below hb5).cell 0, ((X1.drew).below hb5).cell 1, ((X1.drew).below hb5).cell 2⟩)
      | (go_at_call 81; refine (lowQ _ _ _ _ _ _ _ _ _ ((D4.below hbd).below hb5)).mono ?_; rintro e w6 ⟨A6, m6, c6, y6, rfl, D6, N6, V6, M6, hb6⟩; have V6 := Lib.hid (show vl (bs .u32) y6 = q1.den by rw [V6.out, V4.out, dn_dw' q1.den_pos]); have Kw6 : w6.cell? ⟨w.heap.size, 0, none⟩ = some (.bool s) ∧ w6.cell? ⟨w.heap.size, 1, none⟩ = some (.slice A3 n3 c3) ∧ w6.cell? ⟨w.heap.size, 2, none⟩ = some (.slice A4 n4 c4) := ⟨(((X1.drew).below hb5).below hb6).cell 0, (((X1.drew).below hb5).below hb6).cell 1, (((X1.drew).below hb5).below hb6).cell 2⟩)
      | (go_at_call_of 80 (Value.slice A6 m6 c6); refine (bitsB _ _ _ _ _ D6 (by omega) _ V6).mono ?_; rintro e w7 ⟨rfl, hb7⟩; have L6 := bl_len32 D6; have Kw7 : w7.cell? ⟨w.heap.size, 0, none⟩ = some (.bool s) ∧ w7.cell? ⟨w.heap.size, 1, none⟩ = some (.slice A3 n3 c3) ∧ w7.cell? ⟨w.heap.size, 2, none⟩ = some (.slice A4 n4 c4) := ⟨((((X1.drew).below hb5).below hb6).below hb7).cell 0, ((((X1.drew).below hb5).below hb6).below hb7).cell 1, ((((X1.drew).below hb5).below hb6).below hb7).cell 2⟩))

  have z0 := hw3.drew
  have z1 := z0.trans (hb5.mono z0.size)
  have z2 := z1.trans (hb6.mono z1.size)
  have z3 := z2.trans (hb7.mono z2.size)
  rw [V6.out] at L6
  go_wp2
  go_ret
  exact ⟨by first | rfl | exact ret_i64 (by omega) | exact ret_i64 (IntWalk.i64_in _ (by omega)), z3⟩
end Go.Proofs.YtbgihlfblmilmaaGreatDoor.Fr

/- Digits that end with zero. -/
namespace Go.Proofs.YtbgihlfblmilmaaGreatDoor.Fr
open Go.RowKit Num

set_option maxHeartbeats 1600000 in
theorem endsQ (A : Option Addr) (n c : Nat) (xs : List Nat) (w : World) (h : Dg .u32 w A n c xs) :
    Calls Tryz.prog 73 #[.slice A n c] w fun e w' => ∃ b, e = .returned (.bool b) ∧ Hid (b = false ↔ Nrm xs) ∧ w = w' := by
  have hc1 := h.cap
  have hc2 := h.top
  have hl := Lib.hid h.len
  cases n with
  | zero =>
    have hN := Lib.hid (show Nrm xs by rw [List.eq_nil_of_length_eq_zero hl.out]; exact Nrm.nil)
    go_enter Tryz.func73, Tryz.ntmps73
    go_wp2
    go_ret
    exact ⟨false, rfl, ⟨fun _ => hN.out, fun _ => rfl⟩, rfl⟩
  | succ p =>
    obtain ⟨ad, y, rfl, hcx, hy⟩ := h.at_ (j := p) (by omega)
    have hpos : ((0 : Int) < ((p + 1 : Nat) : Int)) := by omega
    by_cases h0 : y = 0
    · have hN := Lib.hid (show ¬ Nrm xs from fun hN => by have := nrm_top hN hl.out hy.out.1; omega)
      subst h0
      go_enter Tryz.func73, Tryz.ntmps73
      go_wp2
      go_ret
      exact ⟨true, rfl, ⟨fun h => absurd h (by decide), fun h => absurd h hN.out⟩, rfl⟩
    · have hN := Lib.hid (show Nrm xs by
        intro hp
        have e := Num.getD_in (xs := xs) (i := xs.length - 1) (by omega)
        rw [← e, hl.out, Nat.add_sub_cancel, hy.out.1]
        exact h0)
      have hne : ((y : Int) == 0) = false := by rw [beq_eq_false_iff_ne]; omega
      go_enter Tryz.func73, Tryz.ntmps73
      go_wp2
      go_ret
      exact ⟨false, rfl, ⟨fun _ => hN.out, fun _ => rfl⟩, rfl⟩
end Go.Proofs.YtbgihlfblmilmaaGreatDoor.Fr
