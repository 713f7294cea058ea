/- The document's numbers: whole numbers alone. -/
import Derived.Test.YtfgiiidfpbpniaaGreatDoorR1
namespace Go.Proofs.YtfgiiidfpbpniaaGreatDoor.Fr
open Go.RowKit Num

theorem cnum_one (X : Nat) : cnum X 1 = X := by unfold cnum; rw [Nat.gcd_one_right, Nat.div_one]
theorem cden_whole (X : Nat) : cden X 1 = 0 := by
  unfold cden
  rw [Nat.gcd_one_right]
  split
  · rfl
  · rfl
/-- a value that is a whole number with a sign -/
def IV (w : World) (v : Value) (neg : Bool) (X L : Nat) : Prop := FV w v neg X 0 L
/-- the call returned a whole number -/
def RetI (w : World) (neg : Bool) (X L : Nat) (e : Ending) (w' : World) : Prop := ∃ v, e = .returned v ∧ IV w' v neg X L ∧ Below w.heap.size w w'
theorem RetQ.whole {w w' : World} {neg : Bool} {X L : Nat} {e : Ending} (h : RetQ w neg X 1 L e w') : RetI w (cneg neg X) X L e w' := by
  obtain ⟨v, he, hF, hb⟩ := h
  rw [cnum_one, cden_whole] at hF
  exact ⟨v, he, hF, hb⟩
/-- what a whole number consists of -/
theorem IV.open_ {w : World} {v : Value} {neg : Bool} {X L : Nat} (h : IV w v neg X L) : ∃ A m c us A' c', v = .agg #[.bool neg, .slice A m c, .slice A' 0 c'] ∧ Dg .u32 w A m c us ∧ Nrm us ∧ Hid (vl (bs .u32) us = X) ∧ m ≤ L ∧ Dg .u32 w A' 0 c' [] := by
  obtain ⟨_, _, rfl, ⟨A, m, c, us, rfl, hD, hN, hv, hm⟩, ⟨A', m', c', us', rfl, hD', hN', hv', hm'⟩⟩ := h
  have h0 : us' = [] := by
    rcases Nat.eq_zero_or_pos us'.length with e | e
    · exact List.eq_nil_of_length_eq_zero e
    · have := hN'.pos (b := bs .u32) (by decide) e
      rw [hv'.out] at this
      omega
  subst h0
  have hm0 : m' = 0 := hD'.len.symm
  subst hm0
  exact ⟨A, m, c, us, A', c', rfl, hD, hN, hv, hm, hD'⟩
theorem trim_nrm (A : Option Addr) (n c : Nat) (xs : List Nat) (w : World) (h : Dg .u32 w A n c xs) (hN : Nrm xs) :
    Calls Tryz.prog 71 #[.slice A n c] w fun e w' => e = .returned (.slice A n c) ∧ w = w' :=
  (trim_any A n c xs w h).mono fun e w' ⟨he, hw⟩ => by
    have h1 : tl xs = n := by
      have h2 := h.tr.len
      rw [tr_nrm hN, h.len] at h2
      exact h2.symm
    rw [h1] at he
    exact ⟨he, hw⟩

set_option maxHeartbeats 800000 in
theorem low_one (neg : Bool) (A : Option Addr) (m c : Nat) (A' : Option Addr) (c' : Nat) (w : World) (h' : Dg .u32 w A' 0 c' []) :
    Calls Tryz.prog 72 #[.agg #[.bool neg, .slice A m c, .slice A' 0 c']] w (RetN .u32 w 1 1) := by
  have B := Blk.new w 48 #[.bool neg, .slice A m c, .slice A' 0 c']
  have hw0 := (Below.refl w.heap.size w).alloc (Nat.le_refl _) (.cells #[.bool neg, .slice A m c, .slice A' 0 c'] 48)
  have h1 := h'.below hw0
  go_enter Tryz.func72, Tryz.ntmps72
  go_upto_region 1 with fail
  generalize w.alloc (.cells #[.bool neg, .slice A m c, .slice A' 0 c'] 48) = w1 at *
  have k2 : w1.cell? ⟨w.heap.size, 2, none⟩ = some (.slice A' 0 c') := B.cell 2
  have hD := Dg.lit_one w1 112
  have hb := hw0.alloc hw0.size (.cells #[.int .u32 1] 112)
  go_wp2_with fail
  refine (trim_nrm _ _ _ _ _ h1 Nrm.nil).mono ?_
  rintro e w' ⟨rfl, rfl⟩
  go_wp2
  go_ret
  exact ⟨_, _, _, _, rfl, hD, nrm_lit1, vl_lit1 _, Nat.le_refl _, hb⟩

set_option maxHeartbeats 800000 in
theorem refOf_int (n : Nat) (w : World) (hn : n ≤ 9223372036854775807) :
    Calls Tryz.prog 28 #[.int .i64 (n : Int)] w (RetI w false n 3) := by
  have B0 := Blk.new w 48 #[.bool false, .slice none 0 0, .slice none 0 0]
  have hw0 := (Below.refl w.heap.size w).alloc (Nat.le_refl _) (.cells #[.bool false, .slice none 0 0, .slice none 0 0] 48)
  have hd : decide ((n : Int) < 0) = false := decide_eq_false (by omega)
  go_enter Tryz.func28, Tryz.ntmps28
  go_wp2_with fail
  generalize w.alloc (.cells #[.bool false, .slice none 0 0, .slice none 0 0] 48) = w1 at *
  refine (size_any (n : Int) _ (by omega)).mono ?_
  rintro e w' ⟨rfl, rfl⟩
  rw [Int.natAbs_natCast]
  go_wp2_with fail
  refine (natural_any n _ (by omega)).mono ?_
  rintro e w2 ⟨A2, m2, c2, us2, rfl, hD2, hN2, hv2, hm2, hb2⟩
  have hw2 := hw0.trans (hb2.mono hw0.size)
  go_wp2_with fail
  refine (make1_any _ _ _ _ _ _ _ _ _ _ hD2 (Dg.nil .u32 w2) (by omega) (by omega)).mono ?_
  intro e w4 hq
  rw [hv2.out] at hq
  have hq : RetQ w2 false n 1 (m2 + 0 + 1) e w4 := hq
  obtain ⟨v4, rfl, ⟨_, _, rfl, n5, n6⟩, hb4⟩ := hq.whole
  have C4 := (B0.below hb2).below hb4
  have hw4 := hw2.trans (hb4.mono hw2.size)
  have r0 := C4.cell 0
  have r1 := C4.cell 1
  have r2 := C4.cell 2
  have f0 := C4.frozen 0
  have f1 := C4.frozen 1
  have f2 := C4.frozen 2
  have n5' := nv_le n5 (show m2 + 0 + 1 ≤ 3 by omega)
  have n6' := nv_le n6 (show m2 + 0 + 1 ≤ 3 by omega)
  have hcn : cneg false n = false := rfl
  rw [hcn]
  obtain ⟨A5, m5, c5, us5, rfl, g5⟩ := n5
  obtain ⟨A6, m6, c6, us6, rfl, g6⟩ := n6
  go_wp2
  exact ret_frac rfl rfl (((C4.set_ 0 _).set_ 1 _).set_ 2 _) rfl ⟨_, rfl, ⟨_, _, rfl, nv_set3_32 n5' C4 _ _ _, nv_set3_32 n6' C4 _ _ _⟩, bel_set3 hw4 (Nat.le_refl _) _ _ _⟩

set_option maxHeartbeats 800000 in
/-- the negative of a number that is not negative -/
theorem refNeg_int (X L : Nat) (v : Value) (w : World) (h : IV w v false X L) (hL : L ≤ 100000) :
    Calls Tryz.prog 102 #[v] w (RetI w (cneg true X) X (L + 1)) := by
  obtain ⟨A, m, c, us, A', c', rfl, hD, hN, hv, hm, hD'⟩ := h.open_
  have B1 := (Blk.new w 48 #[.bool false, .slice A m c, .slice A' 0 c']).alloc (.cells #[.bool false, .slice none 0 0, .slice none 0 0] 48)
  have B2 := Blk.new (w.alloc (.cells #[.bool false, .slice A m c, .slice A' 0 c'] 48)) 48 #[.bool false, .slice none 0 0, .slice none 0 0]
  have e0 : (w.alloc (.cells #[.bool false, .slice A m c, .slice A' 0 c'] 48)).heap.size = w.heap.size + 1 := by simp
  have hw0 := ((Below.refl w.heap.size w).alloc (Nat.le_refl _) (.cells #[.bool false, .slice A m c, .slice A' 0 c'] 48)).alloc (by rw [e0]; omega) (.cells #[.bool false, .slice none 0 0, .slice none 0 0] 48)
  rw [e0] at B2
  clear e0
  have h1 := hD.below hw0
  have h2 := hD'.below hw0
  go_enter Tryz.func102, Tryz.ntmps102
  go_upto_region 1 with fail
  generalize (w.alloc (.cells #[.bool false, .slice A m c, .slice A' 0 c'] 48)).alloc (.cells #[.bool false, .slice none 0 0, .slice none 0 0] 48) = w1 at *
  have k0 : w1.cell? ⟨w.heap.size, 0, none⟩ = some (.bool false) := B1.cell 0
  have k1 : w1.cell? ⟨w.heap.size, 1, none⟩ = some (.slice A m c) := B1.cell 1
  have k2 : w1.cell? ⟨w.heap.size, 2, none⟩ = some (.slice A' 0 c') := B1.cell 2
  go_wp2_with fail
  refine (make1_any _ _ _ _ _ _ _ _ _ _ h1 h2 (by omega) (by omega)).mono ?_
  intro e w4 hq
  rw [hv.out] at hq
  have hq : RetQ w1 true X 1 (m + 0 + 1) e w4 := hq
  obtain ⟨v4, rfl, ⟨_, _, rfl, n5, n6⟩, hb4⟩ := hq.whole
  have C4 := B2.below hb4
  have hw4 := hw0.trans (hb4.mono hw0.size)
  have r0 := C4.cell 0
  have r1 := C4.cell 1
  have r2 := C4.cell 2
  have f0 := C4.frozen 0
  have f1 := C4.frozen 1
  have f2 := C4.frozen 2
  have n5' := nv_le n5 (show m + 0 + 1 ≤ L + 1 by omega)
  have n6' := nv_le n6 (show m + 0 + 1 ≤ L + 1 by omega)
  obtain ⟨A5, m5, c5, us5, rfl, g5⟩ := n5
  obtain ⟨A6, m6, c6, us6, rfl, g6⟩ := n6
  go_wp2
  exact ret_frac rfl rfl (((C4.set_ 0 _).set_ 1 _).set_ 2 _) rfl ⟨_, rfl, ⟨_, _, rfl, nv_set3_32 n5' C4 _ _ _, nv_set3_32 n6' C4 _ _ _⟩, bel_set3 hw4 (by omega) _ _ _⟩

set_option maxHeartbeats 800000 in
theorem refSign_int (neg : Bool) (X L : Nat) (v : Value) (w : World) (h : IV w v neg X L) :
    Calls Tryz.prog 73 #[v] w fun e w' => e = .returned (.int .i64 (if X = 0 then 0 else if neg = true then -1 else 1)) ∧ Below w.heap.size w w' := by
  obtain ⟨A, m, c, us, A', c', rfl, hD, hN, hv, hm, hD'⟩ := h.open_
  have B := Blk.new w 48 #[.bool neg, .slice A m c, .slice A' 0 c']
  have hw0 := (Below.refl w.heap.size w).alloc (Nat.le_refl _) (.cells #[.bool neg, .slice A m c, .slice A' 0 c'] 48)
  have h1 := hD.below hw0
  go_enter Tryz.func73, Tryz.ntmps73
  go_upto_region 1 with fail
  generalize w.alloc (.cells #[.bool neg, .slice A m c, .slice A' 0 c'] 48) = w1 at *
  have k0 : w1.cell? ⟨w.heap.size, 0, none⟩ = some (.bool neg) := B.cell 0
  have k1 : w1.cell? ⟨w.heap.size, 1, none⟩ = some (.slice A m c) := B.cell 1
  rcases Nat.eq_zero_or_pos m with h0 | h0
  · have hX : X = 0 := by
      have e := hv.out
      have e2 : us = [] := List.eq_nil_of_length_eq_zero (hD.len.trans h0)
      rw [e2] at e
      exact e.symm
    subst h0
    subst hX
    go_wp2_with fail
    refine (trim_nrm _ _ _ _ _ h1 hN).mono ?_
    rintro e w' ⟨rfl, rfl⟩
    go_wp2
    go_ret
    exact ⟨rfl, hw0⟩
  · have hX : X ≠ 0 := by
      have := hN.pos (b := bs .u32) (by decide) (by rw [hD.len]; exact h0)
      rw [hv.out] at this
      omega
    have hm0 : ((m : Int) == 0) = false := by rw [beq_eq_false_iff_ne]; omega
    have hm1 : ¬ m = 0 := by omega
    have hX := Lib.hid hX
    cases neg
    · go_wp2_with fail
      refine (trim_nrm _ _ _ _ _ h1 hN).mono ?_
      rintro e w' ⟨rfl, rfl⟩
      go_wp2
      go_ret
      exact ⟨rfl, hw0⟩
    · go_wp2_with fail
      refine (trim_nrm _ _ _ _ _ h1 hN).mono ?_
      rintro e w' ⟨rfl, rfl⟩
      go_wp2
      go_ret
      exact ⟨rfl, hw0⟩
end Go.Proofs.YtfgiiidfpbpniaaGreatDoor.Fr
