/- Powers with exponents from 0. -/
import Derived.Test.YtbgihlfblmilmaaGreatDoorGY
import Derived.Test.YtbgihlfblmilmaaGreatDoorGS
import Derived.Deep.RegionHeld3
namespace Go.Proofs.YtbgihlfblmilmaaGreatDoor.Fr
open Go.RowKit Num

/-- what holds while the factors of a power are computed -/
structure PwI (s : Bool) (w : World) (g1 g2 : Nat) (A5 A6 : Option Addr) (m5 c5 m6 c6 : Nat) (us5 us6 : List Nat) (W : World) : Prop where
  d5 : Dg .u64 W A5 m5 c5 us5
  d6 : Dg .u64 W A6 m6 c6 us6
  b : Blk W g1 67 #[.bool s, .slice A5 m5 c5, .slice A6 m6 c6]
  r : Blk W g2 24 #[.bool false, .slice none 0 0, .slice none 0 0]
  bel : Below w.heap.size w W
section
variable {s : Bool} {w W W' : World} {g1 g2 : Nat} {A5 A6 : Option Addr} {m5 c5 m6 c6 : Nat} {us5 us6 : List Nat}
theorem PwI.below (h : PwI s w g1 g2 A5 A6 m5 c5 m6 c6 us5 us6 W) (hb : Below W.heap.size W W') : PwI s w g1 g2 A5 A6 m5 c5 m6 c6 us5 us6 W' :=
  ⟨h.d5.below hb, h.d6.below hb, h.b.below hb, h.r.below hb, h.bel.trans (hb.mono h.bel.size)⟩
theorem PwI.alloc (h : PwI s w g1 g2 A5 A6 m5 c5 m6 c6 us5 us6 W) (o : Obj) : PwI s w g1 g2 A5 A6 m5 c5 m6 c6 us5 us6 (W.alloc o) := h.below ((Below.refl _ _).alloc (Nat.le_refl _) o)
theorem PwI.drew (h : PwI s w g1 g2 A5 A6 m5 c5 m6 c6 us5 us6 W) : PwI s w g1 g2 A5 A6 m5 c5 m6 c6 us5 us6 W.drew := h.below (bel_drewN (Below.refl _ _) 1)
theorem PwI.cells (h : PwI s w g1 g2 A5 A6 m5 c5 m6 c6 us5 us6 W) : W.cell? ⟨g1, 0, none⟩ = some (.bool s) ∧ W.cell? ⟨g1, 1, none⟩ = some (.slice A5 m5 c5) ∧ W.cell? ⟨g1, 2, none⟩ = some (.slice A6 m6 c6) := ⟨h.b.cell 0, h.b.cell 1, h.b.cell 2⟩
theorem PwI.cells3 (h : PwI s w g1 g2 A5 A6 m5 c5 m6 c6 us5 us6 W) {g : Nat} (hg : g1 ≠ g) (x y z : Value) : (((W.setCell ⟨g, 0, none⟩ x).setCell ⟨g, 1, none⟩ y).setCell ⟨g, 2, none⟩ z).cell? ⟨g1, 0, none⟩ = some (.bool s) ∧ (((W.setCell ⟨g, 0, none⟩ x).setCell ⟨g, 1, none⟩ y).setCell ⟨g, 2, none⟩ z).cell? ⟨g1, 1, none⟩ = some (.slice A5 m5 c5) ∧ (((W.setCell ⟨g, 0, none⟩ x).setCell ⟨g, 1, none⟩ y).setCell ⟨g, 2, none⟩ z).cell? ⟨g1, 2, none⟩ = some (.slice A6 m6 c6) :=
  ⟨(cell_set3 _ _ _ _ _ _ hg).trans h.cells.1, (cell_set3 _ _ _ _ _ _ hg).trans h.cells.2.1, (cell_set3 _ _ _ _ _ _ hg).trans h.cells.2.2⟩
end
/-- the sign of a power -/
theorem neg_pow (z : Int) (n : Nat) : decide (z ^ n < 0) = (decide (z < 0) && (decide (n % 2 = 1) && decide (0 < z.natAbs ^ n))) := by
  by_cases hz : z < 0
  · rw [decide_eq_true hz, Bool.true_and]
    obtain ⟨m, rfl⟩ : ∃ m : Nat, z = -(m : Int) := ⟨z.natAbs, by omega⟩
    have hm : 0 < m := by omega
    have hp : 0 < m ^ n := Nat.pow_pos hm
    have hpI : (0 : Int) < (m : Int) ^ n := by rw [← Int.natCast_pow]; exact Int.natCast_pos.2 hp
    rw [Int.natAbs_neg, Int.natAbs_natCast, decide_eq_true hp, Bool.and_true]
    rcases Nat.mod_two_eq_zero_or_one n with h | h
    · rw [Int.neg_pow, h, Int.pow_zero, Int.one_mul, decide_eq_false (by omega), decide_eq_false (by decide)]
    · rw [Int.neg_pow, h, Int.pow_succ, Int.pow_zero, Int.one_mul, decide_eq_true (by omega), decide_eq_true rfl]
  · rw [decide_eq_false hz, Bool.false_and]
    exact decide_eq_false (Int.not_lt.2 (Int.pow_nonneg (by omega)))
theorem neg_pow_q (q : Rat) (n : Nat) : (decide (q.num < 0) && (decide (n % 2 = 1) && decide (0 < q.num.natAbs ^ n))) = decide ((q ^ n).num < 0) := by
  rw [Rat.num_pow, neg_pow]
theorem RL.inv {w : World} {s : Bool} {v1 v2 : Value} {q : Rat} {L : Nat} (h : RL w (.agg #[.bool s, v1, v2]) q L) (hq : q ≠ 0) : RL w (.agg #[.bool s, v2, v1]) q⁻¹ L := by
  obtain ⟨_, _, e, h1, h2⟩ := h
  injection e with e
  simp only [Array.mk.injEq, List.cons.injEq, and_true, Value.bool.injEq] at e
  obtain ⟨rfl, rfl, rfl⟩ := e
  have hn : q.num ≠ 0 := fun h0 => hq (Rat.num_eq_zero.1 h0)
  have hd := q.den_pos
  refine ⟨v2, v1, ?_, ?_, ?_⟩
  · rw [Rat.num_inv]
    congr 4
    by_cases h0 : q.num < 0
    · rw [decide_eq_true h0, Int.sign_eq_neg_one_of_neg h0, decide_eq_true (by omega)]
    · rw [decide_eq_false h0, Int.sign_eq_one_of_pos (by omega), decide_eq_false (by omega)]
  · rw [Rat.num_inv, Int.natAbs_mul, Int.natAbs_sign_of_ne_zero hn, Nat.one_mul, Int.natAbs_natCast]
    exact h2
  · rw [Rat.den_inv, if_neg hn]
    exact h1

set_option linter.unusedSimpArgs false in
set_option maxHeartbeats 6400000 in
set_option maxRecDepth 100000 in
theorem PowQ (v1 : Value) (q1 : Rat) (n L E : Nat) (w : World) (h1 : AF w v1 q1 L) (hn : n ≤ 4096) (hE : (2 * L + 1) * n + 1 ≤ E) (hE1 : 2 * L + 1 ≤ E) (hE2 : E ≤ 100000) :
    Calls Tryz.prog 48 #[v1, .int .i64 (n : Int)] w (RetFE w (q1 ^ n) (2 * E) 0) := by
  obtain ⟨s1, A1, n1, c1, A2, n2, c2, rfl⟩ := h1.form
  obtain ⟨B1, B2, hw0⟩ := two_blk w 24 #[.bool s1, .slice A1 n1 c1, .slice A2 n2 c2] #[.bool false, .slice none 0 0, .slice none 0 0]
  have h1 := h1.below hw0
  have d1 : decide ((4096 : Int) < (n : Int)) = false := decide_eq_false (by omega)
  have d2 : decide ((n : Int) < -4096) = false := decide_eq_false (by omega)
  have d3 : decide ((n : Int) < 0) = false := decide_eq_false (by omega)
  go_enter Tryz.func48, Tryz.ntmps48
  go_upto_region 1 with fail
  generalize (w.alloc (.cells #[.bool s1, .slice A1 n1 c1, .slice A2 n2 c2] 24)).alloc (.cells #[.bool false, .slice none 0 0, .slice none 0 0] 24) = w1 at *
  have k0 : w1.cell? ⟨w.heap.size, 0, none⟩ = some (.bool s1) := B1.cell 0
  have k1 : w1.cell? ⟨w.heap.size, 1, none⟩ = some (.slice A1 n1 c1) := B1.cell 1
  have k2 : w1.cell? ⟨w.heap.size, 2, none⟩ = some (.slice A2 n2 c2) := B1.cell 2
  go_wp2_with fail
  refine (loadQ _ q1 L _ h1 (by omega)).mono ?_
  rintro r w2 ⟨_, rfl, hq2, hb2⟩
  obtain ⟨s2, A3, n3, c3, A4, n4, c4, rfl⟩ := hq2.form
  have C2 := B2.below hb2
  have hw2 := hw0.trans (hb2.mono hw0.size)
  go_wp2_with fail
  refine (reduceQ _ q1 _ _ hq2 (by omega)).mono ?_
  rintro r w4 ⟨_, rfl, hq4, hb4⟩
  obtain ⟨s, A3, m3, c3, A4, m4, c4, rfl⟩ := hq4.form
  have D2 := C2.below hb4
  have hw4 := hw2.trans (hb4.mono hw2.size)
  clear B1 B2 C2 h1 hq2 hb2 hw2 k0 k1 k2
  have E2 := D2.alloc (.cells #[.bool s, .slice A3 m3 c3, .slice A4 m4 c4] 67)
  have E3 := Blk.new w4 67 #[.bool s, .slice A3 m3 c3, .slice A4 m4 c4]
  have hq4 := hq4.below ((Below.refl _ _).alloc (Nat.le_refl _) (.cells #[.bool s, .slice A3 m3 c3, .slice A4 m4 c4] 67))
  go_wp2_with fail
  have hw5 := hw4.alloc hw4.size (.cells #[.bool s, .slice A3 m3 c3, .slice A4 m4 c4] 67)
  have hlt1 := E3.lt
  have hlt2 := E2.lt
  have hne12 : w.heap.size + 1 ≠ w4.heap.size := by have := D2.lt; omega
  generalize w4.heap.size = g1 at *
  generalize w4.alloc (.cells #[.bool s, .slice A3 m3 c3, .slice A4 m4 c4] 67) = wa at *
  obtain ⟨_, _, he, ⟨A5, m5, c5, us5, rfl, hD5, hN5, hv5, hm5⟩, ⟨A6, m6, c6, us6, rfl, hD6, hN6, hv6, hm6⟩⟩ := hq4
  injection he with he
  simp only [Array.mk.injEq, List.cons.injEq, and_true, Value.bool.injEq, Value.slice.injEq] at he
  obtain ⟨hs, ⟨rfl, rfl, rfl⟩, rfl, rfl, rfl⟩ := he
  have hm5n := Lib.hid (Nat.mul_le_mul_right n hm5)
  have hm6n := Lib.hid (Nat.mul_le_mul_right n hm6)
  have hb5 : m3 * n + 1 ≤ E := by have := hm5n.out; omega
  have hb6 : m4 * n + 1 ≤ E := by have := hm6n.out; omega
  have hsq := Lib.hid (neg_pow_q q1 n)
  rw [← hs] at hsq
  have hNum := Lib.hid (show q1.num.natAbs = q1.num.natAbs from rfl)
  obtain ⟨N, hNe⟩ : ∃ N, q1.num.natAbs = N := ⟨_, rfl⟩
  obtain ⟨D, hDe⟩ : ∃ D, q1.den = D := ⟨_, rfl⟩
  rw [hNe] at hv5 hsq
  rw [hDe] at hv6
  have hNum := Lib.hid hNe.symm
  have hDen := Lib.hid hDe.symm
  clear hNe hDe hs
  cases s with
  | false =>
    have hsgn : Hid (false = decide ((q1 ^ n).num < 0)) := by show _ = _; rw [← hsq.out]; rfl
    have I0 : PwI false w g1 (w.heap.size + 1) A3 A4 m3 c3 m4 c4 us5 us6 wa := ⟨hD5, hD6, E3, E2, hw5⟩
    clear E2 E3 hw5 hD5 hD6 D2 hw4 hb4 hsq
    have k0 := I0.cells.1
    have k1 := I0.cells.2.1
    have k2 := I0.cells.2.2
    go_cut [7] (fun v wx => ∃ g A7 m7 c7 us7 A8 m8 c8 us8, v = .pointer (some ⟨g, 0, none⟩) ∧ Blk wx g 67 #[.bool false, .slice A7 m7 c7, .slice A8 m8 c8] ∧ Dg .u64 wx A7 m7 c7 us7 ∧ Nrm us7 ∧ Hid (vl (bs .u64) us7 = N ^ n) ∧ m7 ≤ E ∧ Dg .u64 wx A8 m8 c8 us8 ∧ Nrm us8 ∧ Hid (vl (bs .u64) us8 = D ^ n) ∧ m8 ≤ E ∧ Blk wx (w.heap.size + 1) 24 #[.bool false, .slice none 0 0, .slice none 0 0] ∧ Below w.heap.size w wx)
    case first =>
      refine wp_region_held_drew (S := (fun wx => wx.cell? ⟨g1, 0, none⟩ = some (.bool false) ∧ wx.cell? ⟨g1, 1, none⟩ = some (.slice A3 m3 c3) ∧ wx.cell? ⟨g1, 2, none⟩ = some (.slice A4 m4 c4))) (by kernel_rfl) I0.drew.cells (fun hHeld => ?_)
      refine wpAnyH_take (i := 0) (v := .pointer (some ⟨g1, 0, none⟩)) rfl (by kernel_rfl) (by kernel_rfl) (by kernel_rfl) (fun _ _ _ h => h) (Or.inl ⟨by kernel_rfl, by (intro w hSw; (try dsimp only at hSw); go_simp; try exact hrr3)⟩) hHeld ?_
      try simp only [Act.put, List.setIfInBounds_toArray, List.set_cons_zero, List.set_cons_succ]
      refine wpAnyH_take (i := 1) (v := .bool false) rfl (by kernel_rfl) (by kernel_rfl) (by kernel_rfl) (fun _ _ _ h => h) (Or.inl ⟨by kernel_rfl, by (intro w hSw; (try dsimp only at hSw); go_simp; try exact hrr3)⟩) hHeld ?_
      try simp only [Act.put, List.setIfInBounds_toArray, List.set_cons_zero, List.set_cons_succ]
      refine wpAnyH_take (i := 2) (v := .bool false) rfl (by kernel_rfl) (by kernel_rfl) (by kernel_rfl) (fun _ _ _ h => h) (Or.inl ⟨by kernel_rfl, by (intro w hSw; (try dsimp only at hSw); go_simp; try exact hrr3)⟩) hHeld ?_
      try simp only [Act.put, List.setIfInBounds_toArray, List.set_cons_zero, List.set_cons_succ]
      refine wpAnyH_take (i := 3) (v := undef) rfl (by kernel_rfl) (by kernel_rfl) (by kernel_rfl) (fun _ _ _ h => h) (Or.inr ⟨by kernel_rfl, rfl⟩) hHeld ?_
      try simp only [Act.put, List.setIfInBounds_toArray, List.set_cons_zero, List.set_cons_succ]
      refine wpAnyH_take (i := 4) (v := undef) rfl (by kernel_rfl) (by kernel_rfl) (by kernel_rfl) (fun _ _ _ h => h) (Or.inr ⟨by kernel_rfl, rfl⟩) hHeld ?_
      try simp only [Act.put, List.setIfInBounds_toArray, List.set_cons_zero, List.set_cons_succ]
      refine wpAnyH_take (i := 5) (v := undef) rfl (by kernel_rfl) (by kernel_rfl) (by kernel_rfl) (fun _ _ _ h => h) (Or.inr ⟨by kernel_rfl, rfl⟩) hHeld ?_
      try simp only [Act.put, List.setIfInBounds_toArray, List.set_cons_zero, List.set_cons_succ]
      refine wpAnyH_take (i := 6) (v := .bool false) rfl (by kernel_rfl) (by kernel_rfl) (by kernel_rfl) (fun _ _ _ h => h) (Or.inl ⟨by kernel_rfl, by (intro w hSw; (try dsimp only at hSw); go_simp; try exact hrr3)⟩) hHeld ?_
      try simp only [Act.put, List.setIfInBounds_toArray, List.set_cons_zero, List.set_cons_succ]
      refine wpAnyH_take (i := 7) (v := .pointer (some ⟨g1, 1, none⟩)) rfl (by kernel_rfl) (by kernel_rfl) (by kernel_rfl) (fun _ _ _ h => h) (Or.inl ⟨by kernel_rfl, by (intro w hSw; (try dsimp only at hSw); go_simp; try exact hrr3)⟩) hHeld ?_
      try simp only [Act.put, List.setIfInBounds_toArray, List.set_cons_zero, List.set_cons_succ]
      refine wpAnyH_take (i := 8) (v := .slice A3 m3 c3) rfl (by kernel_rfl) (by kernel_rfl) (by kernel_rfl) (fun _ _ _ h => h) (Or.inl ⟨by kernel_rfl, by (intro w hSw; (try dsimp only at hSw); go_simp; try exact hrr3)⟩) hHeld ?_
      try simp only [Act.put, List.setIfInBounds_toArray, List.set_cons_zero, List.set_cons_succ]
      refine wpAnyH_take (i := 9) (v := .int .i64 (n : Int)) rfl (by kernel_rfl) (by kernel_rfl) (by kernel_rfl) (fun _ _ _ h => h) (Or.inl ⟨by kernel_rfl, by (intro w hSw; (try dsimp only at hSw); go_simp; try exact hrr3)⟩) hHeld ?_
      try simp only [Act.put, List.setIfInBounds_toArray, List.set_cons_zero, List.set_cons_succ]
      refine wpAnyH_take (i := 11) (v := .pointer (some ⟨g1, 2, none⟩)) rfl (by kernel_rfl) (by kernel_rfl) (by kernel_rfl) (fun _ _ _ h => h) (Or.inl ⟨by kernel_rfl, by (intro w hSw; (try dsimp only at hSw); go_simp; try exact hrr3)⟩) hHeld ?_
      try simp only [Act.put, List.setIfInBounds_toArray, List.set_cons_zero, List.set_cons_succ]
      refine wpAnyH_take (i := 12) (v := .slice A4 m4 c4) rfl (by kernel_rfl) (by kernel_rfl) (by kernel_rfl) (fun _ _ _ h => h) (Or.inl ⟨by kernel_rfl, by (intro w hSw; (try dsimp only at hSw); go_simp; try exact hrr3)⟩) hHeld ?_
      try simp only [Act.put, List.setIfInBounds_toArray, List.set_cons_zero, List.set_cons_succ]
      refine wpAnyH_take (i := 13) (v := .int .i64 (n : Int)) rfl (by kernel_rfl) (by kernel_rfl) (by kernel_rfl) (fun _ _ _ h => h) (Or.inl ⟨by kernel_rfl, by (intro w hSw; (try dsimp only at hSw); go_simp; try exact hrr3)⟩) hHeld ?_
      try simp only [Act.put, List.setIfInBounds_toArray, List.set_cons_zero, List.set_cons_succ]
      refine wpAnyH_ready (rs := [10, 16]) (by kernel_rfl) (by simp) ?_
      refine AllReadyH.cons rfl (fun K hK => ?_) ?_
      · skip
        go_simp
        refine (pow64_any _ _ _ _ E _ _ I0.drew.d5 N hv5 (by omega) (by omega) (by omega) (by omega)).mono ?_
        rintro r w5 ⟨A7, m7, c7, us7, rfl, hD7, hN7, hv7, hm7, hb5⟩
        have I5 := I0.drew.below hb5
        have hs5 : wa.heap.size ≤ w5.heap.size := hb5.size
        go_wp2_with fail
        refine hK.out _ _ ?_ (fun hHeld => ?_)
        · exact I5.cells
        clear hK K
        try simp only [Act.put, List.setIfInBounds_toArray, List.set_cons_zero, List.set_cons_succ]
        refine wpAnyH_ready (rs := [14, 16]) (by kernel_rfl) (by simp) ?_
        refine AllReadyH.cons rfl (fun K hK => ?_) ?_
        · skip
          go_simp
          refine (pow64_any _ _ _ _ E _ _ I5.d6 D hv6 (by omega) (by omega) (by omega) (by omega)).mono ?_
          rintro r w6 ⟨A8, m8, c8, us8, rfl, hD8, hN8, hv8, hm8, hb6⟩
          have I6 := I5.below hb6
          have D76 := hD7.below hb6
          have hs6 : w5.heap.size ≤ w6.heap.size := hb6.size
          go_wp2_with fail
          refine hK.out _ _ ?_ (fun hHeld => ?_)
          · exact I6.cells
          clear hK K
          try simp only [Act.put, List.setIfInBounds_toArray, List.set_cons_zero, List.set_cons_succ]
          refine wpAnyH_ready (rs := [15, 16]) (by kernel_rfl) (by simp) ?_
          refine AllReadyH.cons rfl (fun K hK => ?_) ?_
          · skip
            go_simp
            refine (signed_any _ _ _ _ _ _ _ _ (by omega)).mono ?_
            rintro r w7 ⟨rfl, hb7⟩
            have I7 := I6.below hb7
            have D77 := D76.below hb7
            have D87 := hD8.below hb7
            have hs7 : w6.heap.size ≤ w7.heap.size := hb7.size
            go_wp2_with fail
            refine hK.out _ _ ?_ (fun hHeld => ?_)
            · exact I7.cells
            clear hK K
            try simp only [Act.put, List.setIfInBounds_toArray, List.set_cons_zero, List.set_cons_succ]
            refine wpAnyH_ready (rs := [16]) (by kernel_rfl) (by simp) ?_
            refine AllReadyH.cons rfl (fun K hK => ?_) AllReadyH.nil
            go_simp
            refine hK.out _ _ ?_ (fun hHeld => ?_)
            · exact (I7.alloc _).cells
            clear hK K
            try simp only [Act.put, List.setIfInBounds_toArray, List.set_cons_zero, List.set_cons_succ]
            have Ia := I7.alloc (.cells #[.bool false, .slice none 0 0, .slice none 0 0] 67)
            have Za : Blk ((w7 : World).alloc (.cells #[.bool false, .slice none 0 0, .slice none 0 0] 67)) (w7 : World).heap.size 67 #[.bool false, .slice none 0 0, .slice none 0 0] := Blk.new w7 67 #[.bool false, .slice none 0 0, .slice none 0 0]
            have hgz := Lib.hid (show g1 ≠ (w7 : World).heap.size by have h1 := hlt1; skip; have h5 := hs5; have h6 := hs6; have h7 := hs7; omega)
            have hg2 := Lib.hid (show w.heap.size + 1 ≠ (w7 : World).heap.size by have h1 := hlt2; skip; have h5 := hs5; have h6 := hs6; have h7 := hs7; omega)
            have hg3 := Lib.hid (show w.heap.size ≤ (w7 : World).heap.size by have h1 := hlt2; skip; have h5 := hs5; have h6 := hs6; have h7 := hs7; omega)
            have D7a := D77.alloc (.cells #[.bool false, .slice none 0 0, .slice none 0 0] 67)
            have D8a := D87.alloc (.cells #[.bool false, .slice none 0 0, .slice none 0 0] 67)
            refine wpAnyH_ready (rs := [17]) (by kernel_rfl) (by simp) ?_
            refine AllReadyH.cons rfl (fun K hK => ?_) AllReadyH.nil
            have r0 := Za.cell 0
            have r1 := Za.cell 1
            have r2 := Za.cell 2
            have f0 := Za.frozen 0
            have f1 := Za.frozen 1
            have f2 := Za.frozen 2
            go_simp
            refine hK.out _ _ ?_ (fun hHeld => ?_)
            · exact (I7.alloc _).cells
            clear hK K
            try simp only [Act.put, List.setIfInBounds_toArray, List.set_cons_zero, List.set_cons_succ]
            refine wpAnyH_done (by kernel_rfl) ?_ _
            go_wp2_with fail
            go_meet
            exact ⟨_, A7, m7, c7, us7, A8, m8, c8, us8, rfl, Blk.new _ _ _, D77.alloc _, hN7, hv7, hm7, D87.alloc _, hN8, hv8, hm8, I7.r.alloc _, I7.bel.alloc I7.bel.size _⟩
          refine AllReadyH.cons rfl (fun K hK => ?_) AllReadyH.nil
          go_simp
          refine hK.out _ _ ?_ (fun hHeld => ?_)
          · exact (I6.alloc _).cells
          clear hK K
          try simp only [Act.put, List.setIfInBounds_toArray, List.set_cons_zero, List.set_cons_succ]
          have Ia := I6.alloc (.cells #[.bool false, .slice none 0 0, .slice none 0 0] 67)
          have Za : Blk ((w6 : World).alloc (.cells #[.bool false, .slice none 0 0, .slice none 0 0] 67)) (w6 : World).heap.size 67 #[.bool false, .slice none 0 0, .slice none 0 0] := Blk.new w6 67 #[.bool false, .slice none 0 0, .slice none 0 0]
          have hgz := Lib.hid (show g1 ≠ (w6 : World).heap.size by have h1 := hlt1; skip; have h5 := hs5; have h6 := hs6; omega)
          have hg2 := Lib.hid (show w.heap.size + 1 ≠ (w6 : World).heap.size by have h1 := hlt2; skip; have h5 := hs5; have h6 := hs6; omega)
          have hg3 := Lib.hid (show w.heap.size ≤ (w6 : World).heap.size by have h1 := hlt2; skip; have h5 := hs5; have h6 := hs6; omega)
          have D7a := D76.alloc (.cells #[.bool false, .slice none 0 0, .slice none 0 0] 67)
          have D8a := hD8.alloc (.cells #[.bool false, .slice none 0 0, .slice none 0 0] 67)
          refine wpAnyH_ready (rs := [15]) (by kernel_rfl) (by simp) ?_
          refine AllReadyH.cons rfl (fun K hK => ?_) AllReadyH.nil
          go_simp
          refine (signed_any _ _ _ _ _ _ _ _ (by omega)).mono ?_
          rintro r w7 ⟨rfl, hb7⟩
          have I7 := Ia.below hb7
          have D77 := D7a.below hb7
          have D87 := D8a.below hb7
          have Z7 := Za.below hb7
          go_wp2_with fail
          refine hK.out _ _ ?_ (fun hHeld => ?_)
          · exact I7.cells
          clear hK K
          try simp only [Act.put, List.setIfInBounds_toArray, List.set_cons_zero, List.set_cons_succ]
          refine wpAnyH_ready (rs := [17]) (by kernel_rfl) (by simp) ?_
          refine AllReadyH.cons rfl (fun K hK => ?_) AllReadyH.nil
          have r0 := Z7.cell 0
          have r1 := Z7.cell 1
          have r2 := Z7.cell 2
          have f0 := Z7.frozen 0
          have f1 := Z7.frozen 1
          have f2 := Z7.frozen 2
          go_simp
          refine hK.out _ _ ?_ (fun hHeld => ?_)
          · exact I7.cells3 hgz.out _ _ _
          clear hK K
          try simp only [Act.put, List.setIfInBounds_toArray, List.set_cons_zero, List.set_cons_succ]
          refine wpAnyH_done (by kernel_rfl) ?_ _
          go_wp2_with fail
          go_meet
          exact ⟨_, A7, m7, c7, us7, A8, m8, c8, us8, rfl, ((Z7.set_ 0 _).set_ 1 _).set_ 2 _, D77.set3 Z7 _ _ _, hN7, hv7, hm7, D87.set3 Z7 _ _ _, hN8, hv8, hm8, ((I7.r.far hg2.out _).far hg2.out _).far hg2.out _, bel_set3 I7.bel hg3.out _ _ _⟩
        refine AllReadyH.cons rfl (fun K hK => ?_) AllReadyH.nil
        go_simp
        refine hK.out _ _ ?_ (fun hHeld => ?_)
        · exact (I5.alloc _).cells
        clear hK K
        try simp only [Act.put, List.setIfInBounds_toArray, List.set_cons_zero, List.set_cons_succ]
        have Ia := I5.alloc (.cells #[.bool false, .slice none 0 0, .slice none 0 0] 67)
        have Za : Blk ((w5 : World).alloc (.cells #[.bool false, .slice none 0 0, .slice none 0 0] 67)) (w5 : World).heap.size 67 #[.bool false, .slice none 0 0, .slice none 0 0] := Blk.new w5 67 #[.bool false, .slice none 0 0, .slice none 0 0]
        have hgz := Lib.hid (show g1 ≠ (w5 : World).heap.size by have h1 := hlt1; skip; have h5 := hs5; omega)
        have hg2 := Lib.hid (show w.heap.size + 1 ≠ (w5 : World).heap.size by have h1 := hlt2; skip; have h5 := hs5; omega)
        have hg3 := Lib.hid (show w.heap.size ≤ (w5 : World).heap.size by have h1 := hlt2; skip; have h5 := hs5; omega)
        have D7a := hD7.alloc (.cells #[.bool false, .slice none 0 0, .slice none 0 0] 67)
        refine wpAnyH_ready (rs := [14]) (by kernel_rfl) (by simp) ?_
        refine AllReadyH.cons rfl (fun K hK => ?_) AllReadyH.nil
        go_simp
        refine (pow64_any _ _ _ _ E _ _ Ia.d6 D hv6 (by omega) (by omega) (by omega) (by omega)).mono ?_
        rintro r w6 ⟨A8, m8, c8, us8, rfl, hD8, hN8, hv8, hm8, hb6⟩
        have I6 := Ia.below hb6
        have D76 := D7a.below hb6
        have Z6 := Za.below hb6
        go_wp2_with fail
        refine hK.out _ _ ?_ (fun hHeld => ?_)
        · exact I6.cells
        clear hK K
        try simp only [Act.put, List.setIfInBounds_toArray, List.set_cons_zero, List.set_cons_succ]
        refine wpAnyH_ready (rs := [15]) (by kernel_rfl) (by simp) ?_
        refine AllReadyH.cons rfl (fun K hK => ?_) AllReadyH.nil
        go_simp
        refine (signed_any _ _ _ _ _ _ _ _ (by omega)).mono ?_
        rintro r w7 ⟨rfl, hb7⟩
        have I7 := I6.below hb7
        have D77 := D76.below hb7
        have D87 := hD8.below hb7
        have Z7 := Z6.below hb7
        go_wp2_with fail
        refine hK.out _ _ ?_ (fun hHeld => ?_)
        · exact I7.cells
        clear hK K
        try simp only [Act.put, List.setIfInBounds_toArray, List.set_cons_zero, List.set_cons_succ]
        refine wpAnyH_ready (rs := [17]) (by kernel_rfl) (by simp) ?_
        refine AllReadyH.cons rfl (fun K hK => ?_) AllReadyH.nil
        have r0 := Z7.cell 0
        have r1 := Z7.cell 1
        have r2 := Z7.cell 2
        have f0 := Z7.frozen 0
        have f1 := Z7.frozen 1
        have f2 := Z7.frozen 2
        go_simp
        refine hK.out _ _ ?_ (fun hHeld => ?_)
        · exact I7.cells3 hgz.out _ _ _
        clear hK K
        try simp only [Act.put, List.setIfInBounds_toArray, List.set_cons_zero, List.set_cons_succ]
        refine wpAnyH_done (by kernel_rfl) ?_ _
        go_wp2_with fail
        go_meet
        exact ⟨_, A7, m7, c7, us7, A8, m8, c8, us8, rfl, ((Z7.set_ 0 _).set_ 1 _).set_ 2 _, D77.set3 Z7 _ _ _, hN7, hv7, hm7, D87.set3 Z7 _ _ _, hN8, hv8, hm8, ((I7.r.far hg2.out _).far hg2.out _).far hg2.out _, bel_set3 I7.bel hg3.out _ _ _⟩
      refine AllReadyH.cons rfl (fun K hK => ?_) AllReadyH.nil
      go_simp
      refine hK.out _ _ ?_ (fun hHeld => ?_)
      · exact (I0.drew.alloc _).cells
      clear hK K
      try simp only [Act.put, List.setIfInBounds_toArray, List.set_cons_zero, List.set_cons_succ]
      have Ia := I0.drew.alloc (.cells #[.bool false, .slice none 0 0, .slice none 0 0] 67)
      have Za : Blk ((wa.drew : World).alloc (.cells #[.bool false, .slice none 0 0, .slice none 0 0] 67)) wa.heap.size 67 #[.bool false, .slice none 0 0, .slice none 0 0] := Blk.new wa.drew 67 #[.bool false, .slice none 0 0, .slice none 0 0]
      have hgz := Lib.hid (show g1 ≠ wa.heap.size by have h1 := hlt1; skip; omega)
      have hg2 := Lib.hid (show w.heap.size + 1 ≠ wa.heap.size by have h1 := hlt2; skip; omega)
      have hg3 := Lib.hid (show w.heap.size ≤ wa.heap.size by have h1 := hlt2; skip; omega)
      refine wpAnyH_ready (rs := [10]) (by kernel_rfl) (by simp) ?_
      refine AllReadyH.cons rfl (fun K hK => ?_) AllReadyH.nil
      go_simp
      refine (pow64_any _ _ _ _ E _ _ Ia.d5 N hv5 (by omega) (by omega) (by omega) (by omega)).mono ?_
      rintro r w5 ⟨A7, m7, c7, us7, rfl, hD7, hN7, hv7, hm7, hb5⟩
      have I5 := Ia.below hb5
      have Z5 := Za.below hb5
      go_wp2_with fail
      refine hK.out _ _ ?_ (fun hHeld => ?_)
      · exact I5.cells
      clear hK K
      try simp only [Act.put, List.setIfInBounds_toArray, List.set_cons_zero, List.set_cons_succ]
      refine wpAnyH_ready (rs := [14]) (by kernel_rfl) (by simp) ?_
      refine AllReadyH.cons rfl (fun K hK => ?_) AllReadyH.nil
      go_simp
      refine (pow64_any _ _ _ _ E _ _ I5.d6 D hv6 (by omega) (by omega) (by omega) (by omega)).mono ?_
      rintro r w6 ⟨A8, m8, c8, us8, rfl, hD8, hN8, hv8, hm8, hb6⟩
      have I6 := I5.below hb6
      have D76 := hD7.below hb6
      have Z6 := Z5.below hb6
      go_wp2_with fail
      refine hK.out _ _ ?_ (fun hHeld => ?_)
      · exact I6.cells
      clear hK K
      try simp only [Act.put, List.setIfInBounds_toArray, List.set_cons_zero, List.set_cons_succ]
      refine wpAnyH_ready (rs := [15]) (by kernel_rfl) (by simp) ?_
      refine AllReadyH.cons rfl (fun K hK => ?_) AllReadyH.nil
      go_simp
      refine (signed_any _ _ _ _ _ _ _ _ (by omega)).mono ?_
      rintro r w7 ⟨rfl, hb7⟩
      have I7 := I6.below hb7
      have D77 := D76.below hb7
      have D87 := hD8.below hb7
      have Z7 := Z6.below hb7
      go_wp2_with fail
      refine hK.out _ _ ?_ (fun hHeld => ?_)
      · exact I7.cells
      clear hK K
      try simp only [Act.put, List.setIfInBounds_toArray, List.set_cons_zero, List.set_cons_succ]
      refine wpAnyH_ready (rs := [17]) (by kernel_rfl) (by simp) ?_
      refine AllReadyH.cons rfl (fun K hK => ?_) AllReadyH.nil
      have r0 := Z7.cell 0
      have r1 := Z7.cell 1
      have r2 := Z7.cell 2
      have f0 := Z7.frozen 0
      have f1 := Z7.frozen 1
      have f2 := Z7.frozen 2
      go_simp
      refine hK.out _ _ ?_ (fun hHeld => ?_)
      · exact I7.cells3 hgz.out _ _ _
      clear hK K
      try simp only [Act.put, List.setIfInBounds_toArray, List.set_cons_zero, List.set_cons_succ]
      refine wpAnyH_done (by kernel_rfl) ?_ _
      go_wp2_with fail
      go_meet
      exact ⟨_, A7, m7, c7, us7, A8, m8, c8, us8, rfl, ((Z7.set_ 0 _).set_ 1 _).set_ 2 _, D77.set3 Z7 _ _ _, hN7, hv7, hm7, D87.set3 Z7 _ _ _, hN8, hv8, hm8, ((I7.r.far hg2.out _).far hg2.out _).far hg2.out _, bel_set3 I7.bel hg3.out _ _ _⟩
    case rest =>
      clear I0 k0 k1 k2 hlt1 hlt2
      obtain ⟨g, A7, m7, c7, us7, A8, m8, c8, us8, rfl, G1, D7, N7, V7, M7, D8, N8, V8, M8, R, hwc⟩ := hcut
      have g0 := G1.cell 0
      have g1 := G1.cell 1
      have g2 := G1.cell 2
      have hRL : RL _ (.agg #[.bool false, .slice A7 m7 c7, .slice A8 m8 c8]) (q1 ^ n) E := ⟨_, _, by rw [show false = decide ((q1 ^ n).num < 0) from hsgn.out], NV.mk D7 N7 (show _ = _ by rw [V7.out, hNum.out, Rat.num_pow, Int.natAbs_pow]) M7, NV.mk D8 N8 (show _ = _ by rw [V8.out, hDen.out, Rat.den_pow]) M8⟩
      go_wp2_with fail
      refine (keepQ _ (q1 ^ n) E _ hRL (by omega)).mono ?_
      rintro r w8 ⟨_, rfl, hq8, hb8⟩
      have R2 := R.below hb8
      have hw8 := hwc.trans (hb8.mono hwc.size)
      have r0 := R2.cell 0
      have r1 := R2.cell 1
      have r2 := R2.cell 2
      have f0 := R2.frozen 0
      have f1 := R2.frozen 1
      have f2 := R2.frozen 2
      obtain ⟨s8, A9, m9, c9, A10, m10, c10, rfl⟩ := hq8.form
      go_wp2
      exact ret_frac2 rfl rfl (((R2.set_ 0 _).set_ 1 _).set_ 2 _) rfl ⟨_, rfl, hq8.set3 R2 _ _ _, bel_set3 hw8 (by omega) _ _ _⟩
  | true =>
    obtain ⟨rr, hrr⟩ : ∃ rr : Int, ((n % 2 : Nat) : Int) = rr := ⟨_, rfl⟩
    have hrr2 : IntKind.i64.wrap (((n : Int)).tmod 2) = rr := by rw [← hrr]; show IntKind.i64.wrap (Int.tmod (n : Int) 2) = _; rw [show Int.tmod (n : Int) 2 = ((n % 2 : Nat) : Int) from (Int.ofNat_tmod n 2).symm]; exact IntWalk.i64_in _ (by omega)
    have hrr3 : Int.tmod (n : Int) 2 = rr := by rw [← hrr]; exact (Int.ofNat_tmod n 2).symm
    obtain ⟨od, hod⟩ : ∃ od, decide (n % 2 = 1) = od := ⟨_, rfl⟩
    have hod2 : (rr == 1) = od := by
      rw [← hod, ← hrr]
      rcases Nat.mod_two_eq_zero_or_one n with h9 | h9 <;> rw [h9] <;> rfl
    have hsgn : Hid ((od && decide (0 < N ^ n)) = decide ((q1 ^ n).num < 0)) := by show _ = _; rw [← hsq.out, hod]; rfl
    clear hrr hod
    have I0 : PwI true w g1 (w.heap.size + 1) A3 A4 m3 c3 m4 c4 us5 us6 wa := ⟨hD5, hD6, E3, E2, hw5⟩
    clear E2 E3 hw5 hD5 hD6 D2 hw4 hb4 hsq
    have k0 := I0.cells.1
    have k1 := I0.cells.2.1
    have k2 := I0.cells.2.2
    go_cut [7] (fun v wx => ∃ g A7 m7 c7 us7 A8 m8 c8 us8, v = .pointer (some ⟨g, 0, none⟩) ∧ Blk wx g 67 #[.bool (od && decide (0 < m7)), .slice A7 m7 c7, .slice A8 m8 c8] ∧ Dg .u64 wx A7 m7 c7 us7 ∧ Nrm us7 ∧ Hid (vl (bs .u64) us7 = N ^ n) ∧ m7 ≤ E ∧ Dg .u64 wx A8 m8 c8 us8 ∧ Nrm us8 ∧ Hid (vl (bs .u64) us8 = D ^ n) ∧ m8 ≤ E ∧ Blk wx (w.heap.size + 1) 24 #[.bool false, .slice none 0 0, .slice none 0 0] ∧ Below w.heap.size w wx)
    case first =>
      refine wp_region_held_drew (S := (fun wx => wx.cell? ⟨g1, 0, none⟩ = some (.bool true) ∧ wx.cell? ⟨g1, 1, none⟩ = some (.slice A3 m3 c3) ∧ wx.cell? ⟨g1, 2, none⟩ = some (.slice A4 m4 c4))) (by kernel_rfl) I0.drew.cells (fun hHeld => ?_)
      refine wpAnyH_take (i := 0) (v := .pointer (some ⟨g1, 0, none⟩)) rfl (by kernel_rfl) (by kernel_rfl) (by kernel_rfl) (fun _ _ _ h => h) (Or.inl ⟨by kernel_rfl, by (intro w hSw; (try dsimp only at hSw); go_simp; try exact hrr3)⟩) hHeld ?_
      try simp only [Act.put, List.setIfInBounds_toArray, List.set_cons_zero, List.set_cons_succ]
      refine wpAnyH_take (i := 1) (v := .bool true) rfl (by kernel_rfl) (by kernel_rfl) (by kernel_rfl) (fun _ _ _ h => h) (Or.inl ⟨by kernel_rfl, by (intro w hSw; (try dsimp only at hSw); go_simp; try exact hrr3)⟩) hHeld ?_
      try simp only [Act.put, List.setIfInBounds_toArray, List.set_cons_zero, List.set_cons_succ]
      refine wpAnyH_take (i := 2) (v := .bool true) rfl (by kernel_rfl) (by kernel_rfl) (by kernel_rfl) (fun _ _ _ h => h) (Or.inl ⟨by kernel_rfl, by (intro w hSw; (try dsimp only at hSw); go_simp; try exact hrr3)⟩) hHeld ?_
      try simp only [Act.put, List.setIfInBounds_toArray, List.set_cons_zero, List.set_cons_succ]
      refine wpAnyH_take (i := 3) (v := .int .i64 (n : Int)) rfl (by kernel_rfl) (by kernel_rfl) (by kernel_rfl) (fun _ _ _ h => h) (Or.inl ⟨by kernel_rfl, by (intro w hSw; (try dsimp only at hSw); go_simp; try exact hrr3)⟩) hHeld ?_
      try simp only [Act.put, List.setIfInBounds_toArray, List.set_cons_zero, List.set_cons_succ]
      refine wpAnyH_take (i := 4) (v := .int .i64 rr) rfl (by kernel_rfl) (by kernel_rfl) (by kernel_rfl) (fun _ _ _ h => h) (Or.inl ⟨by kernel_rfl, by (intro w hSw; (try dsimp only at hSw); go_simp; try exact hrr3)⟩) hHeld ?_
      try simp only [Act.put, List.setIfInBounds_toArray, List.set_cons_zero, List.set_cons_succ]
      refine wpAnyH_take (i := 5) (v := .bool od) rfl (by kernel_rfl) (by kernel_rfl) (by kernel_rfl) (fun _ _ _ h => h) (Or.inl ⟨by kernel_rfl, by (intro w hSw; (try dsimp only at hSw); go_simp; try exact hrr3)⟩) hHeld ?_
      try simp only [Act.put, List.setIfInBounds_toArray, List.set_cons_zero, List.set_cons_succ]
      refine wpAnyH_take (i := 6) (v := .bool od) rfl (by kernel_rfl) (by kernel_rfl) (by kernel_rfl) (fun _ _ _ h => h) (Or.inl ⟨by kernel_rfl, by (intro w hSw; (try dsimp only at hSw); go_simp; try exact hrr3)⟩) hHeld ?_
      try simp only [Act.put, List.setIfInBounds_toArray, List.set_cons_zero, List.set_cons_succ]
      refine wpAnyH_take (i := 7) (v := .pointer (some ⟨g1, 1, none⟩)) rfl (by kernel_rfl) (by kernel_rfl) (by kernel_rfl) (fun _ _ _ h => h) (Or.inl ⟨by kernel_rfl, by (intro w hSw; (try dsimp only at hSw); go_simp; try exact hrr3)⟩) hHeld ?_
      try simp only [Act.put, List.setIfInBounds_toArray, List.set_cons_zero, List.set_cons_succ]
      refine wpAnyH_take (i := 8) (v := .slice A3 m3 c3) rfl (by kernel_rfl) (by kernel_rfl) (by kernel_rfl) (fun _ _ _ h => h) (Or.inl ⟨by kernel_rfl, by (intro w hSw; (try dsimp only at hSw); go_simp; try exact hrr3)⟩) hHeld ?_
      try simp only [Act.put, List.setIfInBounds_toArray, List.set_cons_zero, List.set_cons_succ]
      refine wpAnyH_take (i := 9) (v := .int .i64 (n : Int)) rfl (by kernel_rfl) (by kernel_rfl) (by kernel_rfl) (fun _ _ _ h => h) (Or.inl ⟨by kernel_rfl, by (intro w hSw; (try dsimp only at hSw); go_simp; try exact hrr3)⟩) hHeld ?_
      try simp only [Act.put, List.setIfInBounds_toArray, List.set_cons_zero, List.set_cons_succ]
      refine wpAnyH_take (i := 11) (v := .pointer (some ⟨g1, 2, none⟩)) rfl (by kernel_rfl) (by kernel_rfl) (by kernel_rfl) (fun _ _ _ h => h) (Or.inl ⟨by kernel_rfl, by (intro w hSw; (try dsimp only at hSw); go_simp; try exact hrr3)⟩) hHeld ?_
      try simp only [Act.put, List.setIfInBounds_toArray, List.set_cons_zero, List.set_cons_succ]
      refine wpAnyH_take (i := 12) (v := .slice A4 m4 c4) rfl (by kernel_rfl) (by kernel_rfl) (by kernel_rfl) (fun _ _ _ h => h) (Or.inl ⟨by kernel_rfl, by (intro w hSw; (try dsimp only at hSw); go_simp; try exact hrr3)⟩) hHeld ?_
      try simp only [Act.put, List.setIfInBounds_toArray, List.set_cons_zero, List.set_cons_succ]
      refine wpAnyH_take (i := 13) (v := .int .i64 (n : Int)) rfl (by kernel_rfl) (by kernel_rfl) (by kernel_rfl) (fun _ _ _ h => h) (Or.inl ⟨by kernel_rfl, by (intro w hSw; (try dsimp only at hSw); go_simp; try exact hrr3)⟩) hHeld ?_
      try simp only [Act.put, List.setIfInBounds_toArray, List.set_cons_zero, List.set_cons_succ]
      refine wpAnyH_ready (rs := [10, 16]) (by kernel_rfl) (by simp) ?_
      refine AllReadyH.cons rfl (fun K hK => ?_) ?_
      · skip
        go_simp
        refine (pow64_any _ _ _ _ E _ _ I0.drew.d5 N hv5 (by omega) (by omega) (by omega) (by omega)).mono ?_
        rintro r w5 ⟨A7, m7, c7, us7, rfl, hD7, hN7, hv7, hm7, hb5⟩
        have I5 := I0.drew.below hb5
        have hs5 : wa.heap.size ≤ w5.heap.size := hb5.size
        go_wp2_with fail
        refine hK.out _ _ ?_ (fun hHeld => ?_)
        · exact I5.cells
        clear hK K
        try simp only [Act.put, List.setIfInBounds_toArray, List.set_cons_zero, List.set_cons_succ]
        refine wpAnyH_ready (rs := [14, 16]) (by kernel_rfl) (by simp) ?_
        refine AllReadyH.cons rfl (fun K hK => ?_) ?_
        · skip
          go_simp
          refine (pow64_any _ _ _ _ E _ _ I5.d6 D hv6 (by omega) (by omega) (by omega) (by omega)).mono ?_
          rintro r w6 ⟨A8, m8, c8, us8, rfl, hD8, hN8, hv8, hm8, hb6⟩
          have I6 := I5.below hb6
          have D76 := hD7.below hb6
          have hs6 : w5.heap.size ≤ w6.heap.size := hb6.size
          go_wp2_with fail
          refine hK.out _ _ ?_ (fun hHeld => ?_)
          · exact I6.cells
          clear hK K
          try simp only [Act.put, List.setIfInBounds_toArray, List.set_cons_zero, List.set_cons_succ]
          refine wpAnyH_ready (rs := [15, 16]) (by kernel_rfl) (by simp) ?_
          refine AllReadyH.cons rfl (fun K hK => ?_) ?_
          · skip
            go_simp
            refine (signed_any _ _ _ _ _ _ _ _ (by omega)).mono ?_
            rintro r w7 ⟨rfl, hb7⟩
            have I7 := I6.below hb7
            have D77 := D76.below hb7
            have D87 := hD8.below hb7
            have hs7 : w6.heap.size ≤ w7.heap.size := hb7.size
            go_wp2_with fail
            refine hK.out _ _ ?_ (fun hHeld => ?_)
            · exact I7.cells
            clear hK K
            try simp only [Act.put, List.setIfInBounds_toArray, List.set_cons_zero, List.set_cons_succ]
            refine wpAnyH_ready (rs := [16]) (by kernel_rfl) (by simp) ?_
            refine AllReadyH.cons rfl (fun K hK => ?_) AllReadyH.nil
            go_simp
            refine hK.out _ _ ?_ (fun hHeld => ?_)
            · exact (I7.alloc _).cells
            clear hK K
            try simp only [Act.put, List.setIfInBounds_toArray, List.set_cons_zero, List.set_cons_succ]
            have Ia := I7.alloc (.cells #[.bool false, .slice none 0 0, .slice none 0 0] 67)
            have Za : Blk ((w7 : World).alloc (.cells #[.bool false, .slice none 0 0, .slice none 0 0] 67)) (w7 : World).heap.size 67 #[.bool false, .slice none 0 0, .slice none 0 0] := Blk.new w7 67 #[.bool false, .slice none 0 0, .slice none 0 0]
            have hgz := Lib.hid (show g1 ≠ (w7 : World).heap.size by have h1 := hlt1; skip; have h5 := hs5; have h6 := hs6; have h7 := hs7; omega)
            have hg2 := Lib.hid (show w.heap.size + 1 ≠ (w7 : World).heap.size by have h1 := hlt2; skip; have h5 := hs5; have h6 := hs6; have h7 := hs7; omega)
            have hg3 := Lib.hid (show w.heap.size ≤ (w7 : World).heap.size by have h1 := hlt2; skip; have h5 := hs5; have h6 := hs6; have h7 := hs7; omega)
            have D7a := D77.alloc (.cells #[.bool false, .slice none 0 0, .slice none 0 0] 67)
            have D8a := D87.alloc (.cells #[.bool false, .slice none 0 0, .slice none 0 0] 67)
            refine wpAnyH_ready (rs := [17]) (by kernel_rfl) (by simp) ?_
            refine AllReadyH.cons rfl (fun K hK => ?_) AllReadyH.nil
            have r0 := Za.cell 0
            have r1 := Za.cell 1
            have r2 := Za.cell 2
            have f0 := Za.frozen 0
            have f1 := Za.frozen 1
            have f2 := Za.frozen 2
            go_simp
            refine hK.out _ _ ?_ (fun hHeld => ?_)
            · exact (I7.alloc _).cells
            clear hK K
            try simp only [Act.put, List.setIfInBounds_toArray, List.set_cons_zero, List.set_cons_succ]
            refine wpAnyH_done (by kernel_rfl) ?_ _
            go_wp2_with fail
            go_meet
            exact ⟨_, A7, m7, c7, us7, A8, m8, c8, us8, rfl, Blk.new _ _ _, D77.alloc _, hN7, hv7, hm7, D87.alloc _, hN8, hv8, hm8, I7.r.alloc _, I7.bel.alloc I7.bel.size _⟩
          refine AllReadyH.cons rfl (fun K hK => ?_) AllReadyH.nil
          go_simp
          refine hK.out _ _ ?_ (fun hHeld => ?_)
          · exact (I6.alloc _).cells
          clear hK K
          try simp only [Act.put, List.setIfInBounds_toArray, List.set_cons_zero, List.set_cons_succ]
          have Ia := I6.alloc (.cells #[.bool false, .slice none 0 0, .slice none 0 0] 67)
          have Za : Blk ((w6 : World).alloc (.cells #[.bool false, .slice none 0 0, .slice none 0 0] 67)) (w6 : World).heap.size 67 #[.bool false, .slice none 0 0, .slice none 0 0] := Blk.new w6 67 #[.bool false, .slice none 0 0, .slice none 0 0]
          have hgz := Lib.hid (show g1 ≠ (w6 : World).heap.size by have h1 := hlt1; skip; have h5 := hs5; have h6 := hs6; omega)
          have hg2 := Lib.hid (show w.heap.size + 1 ≠ (w6 : World).heap.size by have h1 := hlt2; skip; have h5 := hs5; have h6 := hs6; omega)
          have hg3 := Lib.hid (show w.heap.size ≤ (w6 : World).heap.size by have h1 := hlt2; skip; have h5 := hs5; have h6 := hs6; omega)
          have D7a := D76.alloc (.cells #[.bool false, .slice none 0 0, .slice none 0 0] 67)
          have D8a := hD8.alloc (.cells #[.bool false, .slice none 0 0, .slice none 0 0] 67)
          refine wpAnyH_ready (rs := [15]) (by kernel_rfl) (by simp) ?_
          refine AllReadyH.cons rfl (fun K hK => ?_) AllReadyH.nil
          go_simp
          refine (signed_any _ _ _ _ _ _ _ _ (by omega)).mono ?_
          rintro r w7 ⟨rfl, hb7⟩
          have I7 := Ia.below hb7
          have D77 := D7a.below hb7
          have D87 := D8a.below hb7
          have Z7 := Za.below hb7
          go_wp2_with fail
          refine hK.out _ _ ?_ (fun hHeld => ?_)
          · exact I7.cells
          clear hK K
          try simp only [Act.put, List.setIfInBounds_toArray, List.set_cons_zero, List.set_cons_succ]
          refine wpAnyH_ready (rs := [17]) (by kernel_rfl) (by simp) ?_
          refine AllReadyH.cons rfl (fun K hK => ?_) AllReadyH.nil
          have r0 := Z7.cell 0
          have r1 := Z7.cell 1
          have r2 := Z7.cell 2
          have f0 := Z7.frozen 0
          have f1 := Z7.frozen 1
          have f2 := Z7.frozen 2
          go_simp
          refine hK.out _ _ ?_ (fun hHeld => ?_)
          · exact I7.cells3 hgz.out _ _ _
          clear hK K
          try simp only [Act.put, List.setIfInBounds_toArray, List.set_cons_zero, List.set_cons_succ]
          refine wpAnyH_done (by kernel_rfl) ?_ _
          go_wp2_with fail
          go_meet
          exact ⟨_, A7, m7, c7, us7, A8, m8, c8, us8, rfl, ((Z7.set_ 0 _).set_ 1 _).set_ 2 _, D77.set3 Z7 _ _ _, hN7, hv7, hm7, D87.set3 Z7 _ _ _, hN8, hv8, hm8, ((I7.r.far hg2.out _).far hg2.out _).far hg2.out _, bel_set3 I7.bel hg3.out _ _ _⟩
        refine AllReadyH.cons rfl (fun K hK => ?_) AllReadyH.nil
        go_simp
        refine hK.out _ _ ?_ (fun hHeld => ?_)
        · exact (I5.alloc _).cells
        clear hK K
        try simp only [Act.put, List.setIfInBounds_toArray, List.set_cons_zero, List.set_cons_succ]
        have Ia := I5.alloc (.cells #[.bool false, .slice none 0 0, .slice none 0 0] 67)
        have Za : Blk ((w5 : World).alloc (.cells #[.bool false, .slice none 0 0, .slice none 0 0] 67)) (w5 : World).heap.size 67 #[.bool false, .slice none 0 0, .slice none 0 0] := Blk.new w5 67 #[.bool false, .slice none 0 0, .slice none 0 0]
        have hgz := Lib.hid (show g1 ≠ (w5 : World).heap.size by have h1 := hlt1; skip; have h5 := hs5; omega)
        have hg2 := Lib.hid (show w.heap.size + 1 ≠ (w5 : World).heap.size by have h1 := hlt2; skip; have h5 := hs5; omega)
        have hg3 := Lib.hid (show w.heap.size ≤ (w5 : World).heap.size by have h1 := hlt2; skip; have h5 := hs5; omega)
        have D7a := hD7.alloc (.cells #[.bool false, .slice none 0 0, .slice none 0 0] 67)
        refine wpAnyH_ready (rs := [14]) (by kernel_rfl) (by simp) ?_
        refine AllReadyH.cons rfl (fun K hK => ?_) AllReadyH.nil
        go_simp
        refine (pow64_any _ _ _ _ E _ _ Ia.d6 D hv6 (by omega) (by omega) (by omega) (by omega)).mono ?_
        rintro r w6 ⟨A8, m8, c8, us8, rfl, hD8, hN8, hv8, hm8, hb6⟩
        have I6 := Ia.below hb6
        have D76 := D7a.below hb6
        have Z6 := Za.below hb6
        go_wp2_with fail
        refine hK.out _ _ ?_ (fun hHeld => ?_)
        · exact I6.cells
        clear hK K
        try simp only [Act.put, List.setIfInBounds_toArray, List.set_cons_zero, List.set_cons_succ]
        refine wpAnyH_ready (rs := [15]) (by kernel_rfl) (by simp) ?_
        refine AllReadyH.cons rfl (fun K hK => ?_) AllReadyH.nil
        go_simp
        refine (signed_any _ _ _ _ _ _ _ _ (by omega)).mono ?_
        rintro r w7 ⟨rfl, hb7⟩
        have I7 := I6.below hb7
        have D77 := D76.below hb7
        have D87 := hD8.below hb7
        have Z7 := Z6.below hb7
        go_wp2_with fail
        refine hK.out _ _ ?_ (fun hHeld => ?_)
        · exact I7.cells
        clear hK K
        try simp only [Act.put, List.setIfInBounds_toArray, List.set_cons_zero, List.set_cons_succ]
        refine wpAnyH_ready (rs := [17]) (by kernel_rfl) (by simp) ?_
        refine AllReadyH.cons rfl (fun K hK => ?_) AllReadyH.nil
        have r0 := Z7.cell 0
        have r1 := Z7.cell 1
        have r2 := Z7.cell 2
        have f0 := Z7.frozen 0
        have f1 := Z7.frozen 1
        have f2 := Z7.frozen 2
        go_simp
        refine hK.out _ _ ?_ (fun hHeld => ?_)
        · exact I7.cells3 hgz.out _ _ _
        clear hK K
        try simp only [Act.put, List.setIfInBounds_toArray, List.set_cons_zero, List.set_cons_succ]
        refine wpAnyH_done (by kernel_rfl) ?_ _
        go_wp2_with fail
        go_meet
        exact ⟨_, A7, m7, c7, us7, A8, m8, c8, us8, rfl, ((Z7.set_ 0 _).set_ 1 _).set_ 2 _, D77.set3 Z7 _ _ _, hN7, hv7, hm7, D87.set3 Z7 _ _ _, hN8, hv8, hm8, ((I7.r.far hg2.out _).far hg2.out _).far hg2.out _, bel_set3 I7.bel hg3.out _ _ _⟩
      refine AllReadyH.cons rfl (fun K hK => ?_) AllReadyH.nil
      go_simp
      refine hK.out _ _ ?_ (fun hHeld => ?_)
      · exact (I0.drew.alloc _).cells
      clear hK K
      try simp only [Act.put, List.setIfInBounds_toArray, List.set_cons_zero, List.set_cons_succ]
      have Ia := I0.drew.alloc (.cells #[.bool false, .slice none 0 0, .slice none 0 0] 67)
      have Za : Blk ((wa.drew : World).alloc (.cells #[.bool false, .slice none 0 0, .slice none 0 0] 67)) wa.heap.size 67 #[.bool false, .slice none 0 0, .slice none 0 0] := Blk.new wa.drew 67 #[.bool false, .slice none 0 0, .slice none 0 0]
      have hgz := Lib.hid (show g1 ≠ wa.heap.size by have h1 := hlt1; skip; omega)
      have hg2 := Lib.hid (show w.heap.size + 1 ≠ wa.heap.size by have h1 := hlt2; skip; omega)
      have hg3 := Lib.hid (show w.heap.size ≤ wa.heap.size by have h1 := hlt2; skip; omega)
      refine wpAnyH_ready (rs := [10]) (by kernel_rfl) (by simp) ?_
      refine AllReadyH.cons rfl (fun K hK => ?_) AllReadyH.nil
      go_simp
      refine (pow64_any _ _ _ _ E _ _ Ia.d5 N hv5 (by omega) (by omega) (by omega) (by omega)).mono ?_
      rintro r w5 ⟨A7, m7, c7, us7, rfl, hD7, hN7, hv7, hm7, hb5⟩
      have I5 := Ia.below hb5
      have Z5 := Za.below hb5
      go_wp2_with fail
      refine hK.out _ _ ?_ (fun hHeld => ?_)
      · exact I5.cells
      clear hK K
      try simp only [Act.put, List.setIfInBounds_toArray, List.set_cons_zero, List.set_cons_succ]
      refine wpAnyH_ready (rs := [14]) (by kernel_rfl) (by simp) ?_
      refine AllReadyH.cons rfl (fun K hK => ?_) AllReadyH.nil
      go_simp
      refine (pow64_any _ _ _ _ E _ _ I5.d6 D hv6 (by omega) (by omega) (by omega) (by omega)).mono ?_
      rintro r w6 ⟨A8, m8, c8, us8, rfl, hD8, hN8, hv8, hm8, hb6⟩
      have I6 := I5.below hb6
      have D76 := hD7.below hb6
      have Z6 := Z5.below hb6
      go_wp2_with fail
      refine hK.out _ _ ?_ (fun hHeld => ?_)
      · exact I6.cells
      clear hK K
      try simp only [Act.put, List.setIfInBounds_toArray, List.set_cons_zero, List.set_cons_succ]
      refine wpAnyH_ready (rs := [15]) (by kernel_rfl) (by simp) ?_
      refine AllReadyH.cons rfl (fun K hK => ?_) AllReadyH.nil
      go_simp
      refine (signed_any _ _ _ _ _ _ _ _ (by omega)).mono ?_
      rintro r w7 ⟨rfl, hb7⟩
      have I7 := I6.below hb7
      have D77 := D76.below hb7
      have D87 := hD8.below hb7
      have Z7 := Z6.below hb7
      go_wp2_with fail
      refine hK.out _ _ ?_ (fun hHeld => ?_)
      · exact I7.cells
      clear hK K
      try simp only [Act.put, List.setIfInBounds_toArray, List.set_cons_zero, List.set_cons_succ]
      refine wpAnyH_ready (rs := [17]) (by kernel_rfl) (by simp) ?_
      refine AllReadyH.cons rfl (fun K hK => ?_) AllReadyH.nil
      have r0 := Z7.cell 0
      have r1 := Z7.cell 1
      have r2 := Z7.cell 2
      have f0 := Z7.frozen 0
      have f1 := Z7.frozen 1
      have f2 := Z7.frozen 2
      go_simp
      refine hK.out _ _ ?_ (fun hHeld => ?_)
      · exact I7.cells3 hgz.out _ _ _
      clear hK K
      try simp only [Act.put, List.setIfInBounds_toArray, List.set_cons_zero, List.set_cons_succ]
      refine wpAnyH_done (by kernel_rfl) ?_ _
      go_wp2_with fail
      go_meet
      exact ⟨_, A7, m7, c7, us7, A8, m8, c8, us8, rfl, ((Z7.set_ 0 _).set_ 1 _).set_ 2 _, D77.set3 Z7 _ _ _, hN7, hv7, hm7, D87.set3 Z7 _ _ _, hN8, hv8, hm8, ((I7.r.far hg2.out _).far hg2.out _).far hg2.out _, bel_set3 I7.bel hg3.out _ _ _⟩
    case rest =>
      clear I0 k0 k1 k2 hlt1 hlt2
      obtain ⟨g, A7, m7, c7, us7, A8, m8, c8, us8, rfl, G1, D7, N7, V7, M7, D8, N8, V8, M8, R, hwc⟩ := hcut
      have g0 := G1.cell 0
      have g1 := G1.cell 1
      have g2 := G1.cell 2
      have hRL : RL _ (.agg #[.bool (od && decide (0 < m7)), .slice A7 m7 c7, .slice A8 m8 c8]) (q1 ^ n) E := ⟨_, _, by rw [show (od && decide (0 < m7)) = decide ((q1 ^ n).num < 0) from by rw [nv_pos D7 N7 (by decide) V7, hsgn.out]], NV.mk D7 N7 (show _ = _ by rw [V7.out, hNum.out, Rat.num_pow, Int.natAbs_pow]) M7, NV.mk D8 N8 (show _ = _ by rw [V8.out, hDen.out, Rat.den_pow]) M8⟩
      go_wp2_with fail
      refine (keepQ _ (q1 ^ n) E _ hRL (by omega)).mono ?_
      rintro r w8 ⟨_, rfl, hq8, hb8⟩
      have R2 := R.below hb8
      have hw8 := hwc.trans (hb8.mono hwc.size)
      have r0 := R2.cell 0
      have r1 := R2.cell 1
      have r2 := R2.cell 2
      have f0 := R2.frozen 0
      have f1 := R2.frozen 1
      have f2 := R2.frozen 2
      obtain ⟨s8, A9, m9, c9, A10, m10, c10, rfl⟩ := hq8.form
      go_wp2
      exact ret_frac2 rfl rfl (((R2.set_ 0 _).set_ 1 _).set_ 2 _) rfl ⟨_, rfl, hq8.set3 R2 _ _ _, bel_set3 hw8 (by omega) _ _ _⟩
end Go.Proofs.YtbgihlfblmilmaaGreatDoor.Fr
