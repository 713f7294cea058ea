/- Powers and sizes of numbers that are integers of one digit. -/
import Derived.Test.YtoljffghaklpdaaDoorPK
namespace Go.Proofs.YtoljffghaklpdaaDoor.Fr
open Go.RowKit Num

/-- what holds while the factors of a power are computed -/
structure PowI (w : World) (g1 g2 : Nat) (A5 A6 : Option Addr) (m5 c5 m6 c6 : Nat) (us5 us6 : List Nat) (W : World) : Prop where
  d5 : Dg .u64 W A5 m5 c5 us5
  d6 : Dg .u64 W A6 m6 c6 us6
  b : Blk W g1 89 #[.bool false, .slice A5 m5 c5, .slice A6 m6 c6]
  r : Blk W g2 75 #[.bool false, .slice none 0 0, .slice none 0 0]
  bel : Below w.heap.size w W
section
variable {w W W' : World} {g1 g2 : Nat} {A5 A6 : Option Addr} {m5 c5 m6 c6 : Nat} {us5 us6 : List Nat}
theorem PowI.below (h : PowI w g1 g2 A5 A6 m5 c5 m6 c6 us5 us6 W) (hb : Below W.heap.size W W') : PowI w g1 g2 A5 A6 m5 c5 m6 c6 us5 us6 W' :=
  ⟨h.d5.below hb, h.d6.below hb, h.b.below hb, h.r.below hb, h.bel.trans (hb.mono h.bel.size)⟩
theorem PowI.alloc (h : PowI w g1 g2 A5 A6 m5 c5 m6 c6 us5 us6 W) (o : Obj) : PowI w g1 g2 A5 A6 m5 c5 m6 c6 us5 us6 (W.alloc o) := h.below ((Below.refl _ _).alloc (Nat.le_refl _) o)
theorem PowI.drew (h : PowI w g1 g2 A5 A6 m5 c5 m6 c6 us5 us6 W) : PowI w g1 g2 A5 A6 m5 c5 m6 c6 us5 us6 W.drew := h.below (bel_drewN (Below.refl _ _) 1)
theorem PowI.cells (h : PowI w g1 g2 A5 A6 m5 c5 m6 c6 us5 us6 W) : W.cell? ⟨g1, 0, none⟩ = some (.bool false) ∧ W.cell? ⟨g1, 1, none⟩ = some (.slice A5 m5 c5) ∧ W.cell? ⟨g1, 2, none⟩ = some (.slice A6 m6 c6) := ⟨h.b.cell 0, h.b.cell 1, h.b.cell 2⟩
theorem PowI.cells3 (h : PowI w g1 g2 A5 A6 m5 c5 m6 c6 us5 us6 W) {g : Nat} (hg : g1 ≠ g) (x y z : Value) : (((W.setCell ⟨g, 0, none⟩ x).setCell ⟨g, 1, none⟩ y).setCell ⟨g, 2, none⟩ z).cell? ⟨g1, 0, none⟩ = some (.bool false) ∧ (((W.setCell ⟨g, 0, none⟩ x).setCell ⟨g, 1, none⟩ y).setCell ⟨g, 2, none⟩ z).cell? ⟨g1, 1, none⟩ = some (.slice A5 m5 c5) ∧ (((W.setCell ⟨g, 0, none⟩ x).setCell ⟨g, 1, none⟩ y).setCell ⟨g, 2, none⟩ z).cell? ⟨g1, 2, none⟩ = some (.slice A6 m6 c6) :=
  ⟨(cell_set3 _ _ _ _ _ _ hg).trans h.cells.1, (cell_set3 _ _ _ _ _ _ hg).trans h.cells.2.1, (cell_set3 _ _ _ _ _ _ hg).trans h.cells.2.2⟩
end
theorem Dg.set3 {k : IntKind} {w : World} {A : Option Addr} {n c : Nat} {xs : List Nat} (h : Dg k w A n c xs) {g : Nat} {t : TypeId} {a : Bool} {p1 q1 : Option Addr} {p2 p3 q2 q3 : Nat}
    (hB : Blk w g t #[.bool a, .slice p1 p2 p3, .slice q1 q2 q3]) (x y z : Value) : Dg k (((w.setCell ⟨g, 0, none⟩ x).setCell ⟨g, 1, none⟩ y).setCell ⟨g, 2, none⟩ z) A n c xs :=
  (((h.farp (h.nob hB) 0 x).farp (h.nob hB) 1 y).farp (h.nob hB) 2 z)

set_option maxHeartbeats 3200000 in
set_option maxRecDepth 100000 in
theorem Pow_any (A A' : Option Addr) (n c n' c' : Nat) (xs ys : List Nat) (w : World) (h : Dg .u32 w A n c xs) (h' : Dg .u32 w A' n' c' ys) (hn : n ≤ 2) (hn' : n' ≤ 2) (X e : Nat) (hX : Hid (vl (bs .u32) xs = X)) (hY : Hid (vl (bs .u32) ys = 0)) (he : e ≤ 39) (hXb : Hid (X < bs .u64)) :
    Calls Tryd.prog 69 #[.agg #[.bool false, .slice A n c, .slice A' n' c'], .int .i64 (e : Int)] w
      fun r w' => ∃ v, r = .returned (.tuple #[v, .int .i64 0]) ∧ FV w' v false (X ^ e) 0 78 ∧ Below w.heap.size w w' := by
  have B1 := (Blk.new w 75 #[.bool false, .slice A n c, .slice A' n' c']).alloc (.cells #[.bool false, .slice none 0 0, .slice none 0 0] 75)
  have B2 := Blk.new (w.alloc (.cells #[.bool false, .slice A n c, .slice A' n' c'] 75)) 75 #[.bool false, .slice none 0 0, .slice none 0 0]
  have e1 : (w.alloc (.cells #[.bool false, .slice A n c, .slice A' n' c'] 75)).heap.size = w.heap.size + 1 := by simp
  have hw0 := ((Below.refl w.heap.size w).alloc (Nat.le_refl _) (.cells #[.bool false, .slice A n c, .slice A' n' c'] 75)).alloc (by rw [e1]; omega) (.cells #[.bool false, .slice none 0 0, .slice none 0 0] 75)
  rw [e1] at B2
  clear e1
  have h1 := h.below hw0
  have h2 := h'.below hw0
  have d1 : decide ((4096 : Int) < (e : Int)) = false := decide_eq_false (by omega)
  have d2 : decide ((e : Int) < -4096) = false := decide_eq_false (by omega)
  have d3 : decide ((e : Int) < 0) = false := decide_eq_false (by omega)
  go_enter Tryd.func69, Tryd.ntmps69
  go_upto_region 1 with fail
  generalize (w.alloc (.cells #[.bool false, .slice A n c, .slice A' n' c'] 75)).alloc (.cells #[.bool false, .slice none 0 0, .slice none 0 0] 75) = w1 at *
  have k0 : w1.cell? ⟨w.heap.size, 0, none⟩ = some (.bool false) := B1.cell 0
  have k1 : w1.cell? ⟨w.heap.size, 1, none⟩ = some (.slice A n c) := B1.cell 1
  have k2 : w1.cell? ⟨w.heap.size, 2, none⟩ = some (.slice A' n' c') := B1.cell 2
  go_wp2_with fail
  refine (load_any false _ _ _ _ _ _ _ _ _ h1 h2 (by omega) (by omega)).mono ?_
  rw [hX.out, hY.out]
  rintro r w2 ⟨_, rfl, ⟨_, _, rfl, ⟨A3, m3, c3, us3, rfl, hD3, hN3, hv3, hm3⟩, ⟨A4, m4, c4, us4, rfl, hD4, hN4, hv4, hm4⟩⟩, hb2⟩
  rw [show (false && decide (0 < X)) = false from rfl]
  have C1 := B1.below hb2
  have C2 := B2.below hb2
  have hw2 := hw0.trans (hb2.mono hw0.size)
  have hm41 : m4 ≤ 1 := by
    have := len_of_lt hN4 hv4.out (k := 1) (by decide)
    rw [hD4.len] at this
    exact this
  have hm31 : m3 ≤ 5 := by omega
  go_wp2_with fail
  refine (reduce_one false _ _ _ _ _ _ _ _ _ hD3 hD4 hN3 hN4 X 1 hv3 hv4 (by omega) hm41 (Nat.gcd_one_right X)).mono ?_
  rintro r w4 ⟨_, rfl, ⟨_, _, rfl, ⟨A5, m5, c5, us5, rfl, hD5, hN5, hv5, hm5⟩, ⟨A6, m6, c6, us6, rfl, hD6, hN6, hv6, hm6⟩⟩, hb4⟩
  have D1 := C1.below hb4
  have D2 := C2.below hb4
  have hw4 := hw2.trans (hb4.mono hw2.size)
  clear hD3 hD4 hN3 hN4 hv3 hv4 B1 B2 C1 C2 h1 h2
  have hm61 : m6 ≤ 1 := by
    have := len_of_lt hN6 hv6.out (k := 1) (by decide)
    rw [hD6.len] at this
    exact this
  have hm51 : m5 ≤ 1 := by
    have := len_of_lt hN5 hv5.out (k := 1) (by rw [Nat.pow_one]; exact hXb.out)
    rw [hD5.len] at this
    exact this
  have E1 := D1.alloc (.cells #[.bool false, .slice A5 m5 c5, .slice A6 m6 c6] 89)
  have E2 := D2.alloc (.cells #[.bool false, .slice A5 m5 c5, .slice A6 m6 c6] 89)
  have E3 := Blk.new w4 89 #[.bool false, .slice A5 m5 c5, .slice A6 m6 c6]
  go_wp2_with fail
  have hw5 := hw4.alloc hw4.size (.cells #[.bool false, .slice A5 m5 c5, .slice A6 m6 c6] 89)
  have I0 : PowI w w4.heap.size (w.heap.size + 1) A5 A6 m5 c5 m6 c6 us5 us6 (w4.alloc (.cells #[.bool false, .slice A5 m5 c5, .slice A6 m6 c6] 89)) := ⟨hD5.alloc _, hD6.alloc _, E3, E2, hw5⟩
  have hlt1 := E3.lt
  have hlt2 := E2.lt
  have hne12 : w.heap.size + 1 ≠ w4.heap.size := by have := D2.lt; omega
  generalize w4.heap.size = g1 at *
  generalize w4.alloc (.cells #[.bool false, .slice A5 m5 c5, .slice A6 m6 c6] 89) = wa at *
  clear E1 E2 E3 hw5 hD5 hD6 D1 D2 hw4 hb4 hb2 hw2
  have k0 := I0.cells.1
  have k1 := I0.cells.2.1
  have k2 := I0.cells.2.2
  go_cut [7] (fun v wx => ∃ g A7 m7 c7 us7 A8 m8 c8 us8, v = .pointer (some ⟨g, 0, none⟩) ∧ Blk wx g 89 #[.bool false, .slice A7 m7 c7, .slice A8 m8 c8] ∧ Dg .u64 wx A7 m7 c7 us7 ∧ Nrm us7 ∧ Hid (vl (bs .u64) us7 = X ^ e) ∧ m7 ≤ 39 ∧
    Dg .u64 wx A8 m8 c8 us8 ∧ Nrm us8 ∧ Hid (vl (bs .u64) us8 = 1) ∧ m8 ≤ 39 ∧ Blk wx (w.heap.size + 1) 75 #[.bool false, .slice none 0 0, .slice none 0 0] ∧ Below w.heap.size w wx)
  case first =>
    refine wp_region_held_drew (S := (fun wx => wx.cell? ⟨g1, 0, none⟩ = some (.bool false) ∧ wx.cell? ⟨g1, 1, none⟩ = some (.slice A5 m5 c5) ∧ wx.cell? ⟨g1, 2, none⟩ = some (.slice A6 m6 c6))) (by kernel_rfl) I0.drew.cells (fun hHeld => ?_)
    refine wpAnyH_take (i := 0) (v := .pointer (some ⟨g1, 0, none⟩)) rfl (by kernel_rfl) (by kernel_rfl) (by kernel_rfl) (fun _ _ _ h => h) (Or.inl ⟨by rfl, by (intro w hSw; (try dsimp only at hSw); go_simp)⟩) hHeld ?_
    try simp only [Act.put, List.setIfInBounds_toArray]
    refine wpAnyH_take (i := 1) (v := .bool false) rfl (by kernel_rfl) (by kernel_rfl) (by kernel_rfl) (fun _ _ _ h => h) (Or.inl ⟨by rfl, by (intro w hSw; (try dsimp only at hSw); go_simp)⟩) hHeld ?_
    try simp only [Act.put]
    refine wpAnyH_take (i := 2) (v := .bool false) rfl (by kernel_rfl) (by kernel_rfl) (by kernel_rfl) (fun _ _ _ h => h) (Or.inl ⟨by rfl, by (intro w hSw; (try dsimp only at hSw); go_simp)⟩) hHeld ?_
    try simp only [Act.put]
    refine wpAnyH_take (i := 3) (v := undef) rfl (by kernel_rfl) (by kernel_rfl) (by kernel_rfl) (fun _ _ _ h => h) (Or.inr ⟨by rfl, rfl⟩) hHeld ?_
    try simp only [Act.put]
    refine wpAnyH_take (i := 4) (v := undef) rfl (by kernel_rfl) (by kernel_rfl) (by kernel_rfl) (fun _ _ _ h => h) (Or.inr ⟨by rfl, rfl⟩) hHeld ?_
    try simp only [Act.put]
    refine wpAnyH_take (i := 5) (v := undef) rfl (by kernel_rfl) (by kernel_rfl) (by kernel_rfl) (fun _ _ _ h => h) (Or.inr ⟨by rfl, rfl⟩) hHeld ?_
    try simp only [Act.put]
    refine wpAnyH_take (i := 6) (v := .bool false) rfl (by kernel_rfl) (by kernel_rfl) (by kernel_rfl) (fun _ _ _ h => h) (Or.inl ⟨by rfl, by (intro w hSw; (try dsimp only at hSw); go_simp)⟩) hHeld ?_
    try simp only [Act.put]
    refine wpAnyH_take (i := 7) (v := .pointer (some ⟨g1, 1, none⟩)) rfl (by kernel_rfl) (by kernel_rfl) (by kernel_rfl) (fun _ _ _ h => h) (Or.inl ⟨by rfl, by (intro w hSw; (try dsimp only at hSw); go_simp)⟩) hHeld ?_
    try simp only [Act.put]
    refine wpAnyH_take (i := 8) (v := .slice A5 m5 c5) rfl (by kernel_rfl) (by kernel_rfl) (by kernel_rfl) (fun _ _ _ h => h) (Or.inl ⟨by rfl, by (intro w hSw; (try dsimp only at hSw); go_simp)⟩) hHeld ?_
    try simp only [Act.put]
    refine wpAnyH_take (i := 9) (v := .int .i64 e) rfl (by kernel_rfl) (by kernel_rfl) (by kernel_rfl) (fun _ _ _ h => h) (Or.inl ⟨by rfl, by (intro w hSw; (try dsimp only at hSw); go_simp)⟩) hHeld ?_
    try simp only [Act.put]
    refine wpAnyH_take (i := 11) (v := .pointer (some ⟨g1, 2, none⟩)) rfl (by kernel_rfl) (by kernel_rfl) (by kernel_rfl) (fun _ _ _ h => h) (Or.inl ⟨by rfl, by (intro w hSw; (try dsimp only at hSw); go_simp)⟩) hHeld ?_
    try simp only [Act.put]
    refine wpAnyH_take (i := 12) (v := .slice A6 m6 c6) rfl (by kernel_rfl) (by kernel_rfl) (by kernel_rfl) (fun _ _ _ h => h) (Or.inl ⟨by rfl, by (intro w hSw; (try dsimp only at hSw); go_simp)⟩) hHeld ?_
    try simp only [Act.put]
    refine wpAnyH_take (i := 13) (v := .int .i64 e) rfl (by kernel_rfl) (by kernel_rfl) (by kernel_rfl) (fun _ _ _ h => h) (Or.inl ⟨by rfl, by (intro w hSw; (try dsimp only at hSw); go_simp)⟩) hHeld ?_
    try simp only [Act.put]
    refine wpAnyH_ready (rs := [10, 16]) (by kernel_rfl) (by simp) ?_
    refine AllReadyH.cons rfl (fun K hK => ?_) ?_
    · skip
      go_simp
      refine (pow_any _ _ _ _ _ _ I0.drew.d5 X hv5 hm51 he).mono ?_
      rintro r w5 ⟨A7, m7, c7, us7, rfl, hD7, hN7, hv7, hm7, hb5⟩
      have I5 := I0.drew.below hb5
      have hs5 : wa.heap.size ≤ w5.heap.size := hb5.size
      go_wp2_with fail
      refine hK.out _ _ ?_ (fun hHeld => ?_)
      · exact I5.cells
      clear hK K
      try simp only [Act.put, List.setIfInBounds_toArray, List.set_cons_zero, List.set_cons_succ]
      refine wpAnyH_ready (rs := [14, 16]) (by kernel_rfl) (by simp) ?_
      refine AllReadyH.cons rfl (fun K hK => ?_) ?_
      · skip
        go_simp
        refine (pow_any _ _ _ _ _ _ I5.d6 1 hv6 hm61 he).mono ?_
        rintro r w6 ⟨A8, m8, c8, us8, rfl, hD8, hN8, hv8, hm8, hb6⟩
        have I6 := I5.below hb6
        have D76 := hD7.below hb6
        have hs6 : w5.heap.size ≤ w6.heap.size := hb6.size
        go_wp2_with fail
        refine hK.out _ _ ?_ (fun hHeld => ?_)
        · exact I6.cells
        clear hK K
        try simp only [Act.put, List.setIfInBounds_toArray, List.set_cons_zero, List.set_cons_succ]
        refine wpAnyH_ready (rs := [15, 16]) (by kernel_rfl) (by simp) ?_
        refine AllReadyH.cons rfl (fun K hK => ?_) ?_
        · skip
          go_simp
          refine (signed_any _ _ _ _ _ _ _ _ (by omega)).mono ?_
          rintro r w7 ⟨rfl, hb7⟩
          have I7 := I6.below hb7
          have D77 := D76.below hb7
          have D87 := hD8.below hb7
          have hs7 : w6.heap.size ≤ w7.heap.size := hb7.size
          go_wp2_with fail
          refine hK.out _ _ ?_ (fun hHeld => ?_)
          · exact I7.cells
          clear hK K
          try simp only [Act.put, List.setIfInBounds_toArray, List.set_cons_zero, List.set_cons_succ]
          refine wpAnyH_ready (rs := [16]) (by kernel_rfl) (by simp) ?_
          refine AllReadyH.cons rfl (fun K hK => ?_) AllReadyH.nil
          go_simp
          refine hK.out _ _ ?_ (fun hHeld => ?_)
          · exact (I7.alloc _).cells
          clear hK K
          try simp only [Act.put, List.setIfInBounds_toArray, List.set_cons_zero, List.set_cons_succ]
          have Ia := I7.alloc (.cells #[.bool false, .slice none 0 0, .slice none 0 0] 89)
          have Za : Blk ((w7 : World).alloc (.cells #[.bool false, .slice none 0 0, .slice none 0 0] 89)) (w7 : World).heap.size 89 #[.bool false, .slice none 0 0, .slice none 0 0] := Blk.new w7 89 #[.bool false, .slice none 0 0, .slice none 0 0]
          have hgz := Lib.hid (show g1 ≠ (w7 : World).heap.size by have h1 := hlt1; skip; have h5 := hs5; have h6 := hs6; have h7 := hs7; omega)
          have hg2 := Lib.hid (show w.heap.size + 1 ≠ (w7 : World).heap.size by have h1 := hlt2; skip; have h5 := hs5; have h6 := hs6; have h7 := hs7; omega)
          have hg3 := Lib.hid (show w.heap.size ≤ (w7 : World).heap.size by have h1 := hlt2; skip; have h5 := hs5; have h6 := hs6; have h7 := hs7; omega)
          have D7a := D77.alloc (.cells #[.bool false, .slice none 0 0, .slice none 0 0] 89)
          have D8a := D87.alloc (.cells #[.bool false, .slice none 0 0, .slice none 0 0] 89)
          refine wpAnyH_ready (rs := [17]) (by kernel_rfl) (by simp) ?_
          refine AllReadyH.cons rfl (fun K hK => ?_) AllReadyH.nil
          have r0 := Za.cell 0
          have r1 := Za.cell 1
          have r2 := Za.cell 2
          have f0 := Za.frozen 0
          have f1 := Za.frozen 1
          have f2 := Za.frozen 2
          go_simp
          refine hK.out _ _ ?_ (fun hHeld => ?_)
          · exact (I7.alloc _).cells
          clear hK K
          try simp only [Act.put, List.setIfInBounds_toArray, List.set_cons_zero, List.set_cons_succ]
          refine wpAnyH_done (by kernel_rfl) ?_ _
          go_wp2_with fail
          go_meet
          exact ⟨_, A7, m7, c7, us7, A8, m8, c8, us8, rfl, Blk.new _ _ _, D77.alloc _, hN7, hv7, hm7, D87.alloc _, hN8, (by show _ = _; rw [hv8.out, Nat.one_pow]), hm8, I7.r.alloc _, I7.bel.alloc I7.bel.size _⟩
        refine AllReadyH.cons rfl (fun K hK => ?_) AllReadyH.nil
        go_simp
        refine hK.out _ _ ?_ (fun hHeld => ?_)
        · exact (I6.alloc _).cells
        clear hK K
        try simp only [Act.put, List.setIfInBounds_toArray, List.set_cons_zero, List.set_cons_succ]
        have Ia := I6.alloc (.cells #[.bool false, .slice none 0 0, .slice none 0 0] 89)
        have Za : Blk ((w6 : World).alloc (.cells #[.bool false, .slice none 0 0, .slice none 0 0] 89)) (w6 : World).heap.size 89 #[.bool false, .slice none 0 0, .slice none 0 0] := Blk.new w6 89 #[.bool false, .slice none 0 0, .slice none 0 0]
        have hgz := Lib.hid (show g1 ≠ (w6 : World).heap.size by have h1 := hlt1; skip; have h5 := hs5; have h6 := hs6; omega)
        have hg2 := Lib.hid (show w.heap.size + 1 ≠ (w6 : World).heap.size by have h1 := hlt2; skip; have h5 := hs5; have h6 := hs6; omega)
        have hg3 := Lib.hid (show w.heap.size ≤ (w6 : World).heap.size by have h1 := hlt2; skip; have h5 := hs5; have h6 := hs6; omega)
        have D7a := D76.alloc (.cells #[.bool false, .slice none 0 0, .slice none 0 0] 89)
        have D8a := hD8.alloc (.cells #[.bool false, .slice none 0 0, .slice none 0 0] 89)
        refine wpAnyH_ready (rs := [15]) (by kernel_rfl) (by simp) ?_
        refine AllReadyH.cons rfl (fun K hK => ?_) AllReadyH.nil
        go_simp
        refine (signed_any _ _ _ _ _ _ _ _ (by omega)).mono ?_
        rintro r w7 ⟨rfl, hb7⟩
        have I7 := Ia.below hb7
        have D77 := D7a.below hb7
        have D87 := D8a.below hb7
        have Z7 := Za.below hb7
        go_wp2_with fail
        refine hK.out _ _ ?_ (fun hHeld => ?_)
        · exact I7.cells
        clear hK K
        try simp only [Act.put, List.setIfInBounds_toArray, List.set_cons_zero, List.set_cons_succ]
        refine wpAnyH_ready (rs := [17]) (by kernel_rfl) (by simp) ?_
        refine AllReadyH.cons rfl (fun K hK => ?_) AllReadyH.nil
        have r0 := Z7.cell 0
        have r1 := Z7.cell 1
        have r2 := Z7.cell 2
        have f0 := Z7.frozen 0
        have f1 := Z7.frozen 1
        have f2 := Z7.frozen 2
        go_simp
        refine hK.out _ _ ?_ (fun hHeld => ?_)
        · exact I7.cells3 hgz.out _ _ _
        clear hK K
        try simp only [Act.put, List.setIfInBounds_toArray, List.set_cons_zero, List.set_cons_succ]
        refine wpAnyH_done (by kernel_rfl) ?_ _
        go_wp2_with fail
        go_meet
        exact ⟨_, A7, m7, c7, us7, A8, m8, c8, us8, rfl, ((Z7.set_ 0 _).set_ 1 _).set_ 2 _, D77.set3 Z7 _ _ _, hN7, hv7, hm7, D87.set3 Z7 _ _ _, hN8, (by show _ = _; rw [hv8.out, Nat.one_pow]), hm8, ((I7.r.far hg2.out _).far hg2.out _).far hg2.out _, bel_set3 I7.bel hg3.out _ _ _⟩
      refine AllReadyH.cons rfl (fun K hK => ?_) AllReadyH.nil
      go_simp
      refine hK.out _ _ ?_ (fun hHeld => ?_)
      · exact (I5.alloc _).cells
      clear hK K
      try simp only [Act.put, List.setIfInBounds_toArray, List.set_cons_zero, List.set_cons_succ]
      have Ia := I5.alloc (.cells #[.bool false, .slice none 0 0, .slice none 0 0] 89)
      have Za : Blk ((w5 : World).alloc (.cells #[.bool false, .slice none 0 0, .slice none 0 0] 89)) (w5 : World).heap.size 89 #[.bool false, .slice none 0 0, .slice none 0 0] := Blk.new w5 89 #[.bool false, .slice none 0 0, .slice none 0 0]
      have hgz := Lib.hid (show g1 ≠ (w5 : World).heap.size by have h1 := hlt1; skip; have h5 := hs5; omega)
      have hg2 := Lib.hid (show w.heap.size + 1 ≠ (w5 : World).heap.size by have h1 := hlt2; skip; have h5 := hs5; omega)
      have hg3 := Lib.hid (show w.heap.size ≤ (w5 : World).heap.size by have h1 := hlt2; skip; have h5 := hs5; omega)
      have D7a := hD7.alloc (.cells #[.bool false, .slice none 0 0, .slice none 0 0] 89)
      refine wpAnyH_ready (rs := [14]) (by kernel_rfl) (by simp) ?_
      refine AllReadyH.cons rfl (fun K hK => ?_) AllReadyH.nil
      go_simp
      refine (pow_any _ _ _ _ _ _ Ia.d6 1 hv6 hm61 he).mono ?_
      rintro r w6 ⟨A8, m8, c8, us8, rfl, hD8, hN8, hv8, hm8, hb6⟩
      have I6 := Ia.below hb6
      have D76 := D7a.below hb6
      have Z6 := Za.below hb6
      go_wp2_with fail
      refine hK.out _ _ ?_ (fun hHeld => ?_)
      · exact I6.cells
      clear hK K
      try simp only [Act.put, List.setIfInBounds_toArray, List.set_cons_zero, List.set_cons_succ]
      refine wpAnyH_ready (rs := [15]) (by kernel_rfl) (by simp) ?_
      refine AllReadyH.cons rfl (fun K hK => ?_) AllReadyH.nil
      go_simp
      refine (signed_any _ _ _ _ _ _ _ _ (by omega)).mono ?_
      rintro r w7 ⟨rfl, hb7⟩
      have I7 := I6.below hb7
      have D77 := D76.below hb7
      have D87 := hD8.below hb7
      have Z7 := Z6.below hb7
      go_wp2_with fail
      refine hK.out _ _ ?_ (fun hHeld => ?_)
      · exact I7.cells
      clear hK K
      try simp only [Act.put, List.setIfInBounds_toArray, List.set_cons_zero, List.set_cons_succ]
      refine wpAnyH_ready (rs := [17]) (by kernel_rfl) (by simp) ?_
      refine AllReadyH.cons rfl (fun K hK => ?_) AllReadyH.nil
      have r0 := Z7.cell 0
      have r1 := Z7.cell 1
      have r2 := Z7.cell 2
      have f0 := Z7.frozen 0
      have f1 := Z7.frozen 1
      have f2 := Z7.frozen 2
      go_simp
      refine hK.out _ _ ?_ (fun hHeld => ?_)
      · exact I7.cells3 hgz.out _ _ _
      clear hK K
      try simp only [Act.put, List.setIfInBounds_toArray, List.set_cons_zero, List.set_cons_succ]
      refine wpAnyH_done (by kernel_rfl) ?_ _
      go_wp2_with fail
      go_meet
      exact ⟨_, A7, m7, c7, us7, A8, m8, c8, us8, rfl, ((Z7.set_ 0 _).set_ 1 _).set_ 2 _, D77.set3 Z7 _ _ _, hN7, hv7, hm7, D87.set3 Z7 _ _ _, hN8, (by show _ = _; rw [hv8.out, Nat.one_pow]), hm8, ((I7.r.far hg2.out _).far hg2.out _).far hg2.out _, bel_set3 I7.bel hg3.out _ _ _⟩
    refine AllReadyH.cons rfl (fun K hK => ?_) AllReadyH.nil
    go_simp
    refine hK.out _ _ ?_ (fun hHeld => ?_)
    · exact (I0.drew.alloc _).cells
    clear hK K
    try simp only [Act.put, List.setIfInBounds_toArray, List.set_cons_zero, List.set_cons_succ]
    have Ia := I0.drew.alloc (.cells #[.bool false, .slice none 0 0, .slice none 0 0] 89)
    have Za : Blk ((wa.drew : World).alloc (.cells #[.bool false, .slice none 0 0, .slice none 0 0] 89)) wa.heap.size 89 #[.bool false, .slice none 0 0, .slice none 0 0] := Blk.new wa.drew 89 #[.bool false, .slice none 0 0, .slice none 0 0]
    have hgz := Lib.hid (show g1 ≠ wa.heap.size by have h1 := hlt1; skip; omega)
    have hg2 := Lib.hid (show w.heap.size + 1 ≠ wa.heap.size by have h1 := hlt2; skip; omega)
    have hg3 := Lib.hid (show w.heap.size ≤ wa.heap.size by have h1 := hlt2; skip; omega)
    refine wpAnyH_ready (rs := [10]) (by kernel_rfl) (by simp) ?_
    refine AllReadyH.cons rfl (fun K hK => ?_) AllReadyH.nil
    go_simp
    refine (pow_any _ _ _ _ _ _ Ia.d5 X hv5 hm51 he).mono ?_
    rintro r w5 ⟨A7, m7, c7, us7, rfl, hD7, hN7, hv7, hm7, hb5⟩
    have I5 := Ia.below hb5
    have Z5 := Za.below hb5
    go_wp2_with fail
    refine hK.out _ _ ?_ (fun hHeld => ?_)
    · exact I5.cells
    clear hK K
    try simp only [Act.put, List.setIfInBounds_toArray, List.set_cons_zero, List.set_cons_succ]
    refine wpAnyH_ready (rs := [14]) (by kernel_rfl) (by simp) ?_
    refine AllReadyH.cons rfl (fun K hK => ?_) AllReadyH.nil
    go_simp
    refine (pow_any _ _ _ _ _ _ I5.d6 1 hv6 hm61 he).mono ?_
    rintro r w6 ⟨A8, m8, c8, us8, rfl, hD8, hN8, hv8, hm8, hb6⟩
    have I6 := I5.below hb6
    have D76 := hD7.below hb6
    have Z6 := Z5.below hb6
    go_wp2_with fail
    refine hK.out _ _ ?_ (fun hHeld => ?_)
    · exact I6.cells
    clear hK K
    try simp only [Act.put, List.setIfInBounds_toArray, List.set_cons_zero, List.set_cons_succ]
    refine wpAnyH_ready (rs := [15]) (by kernel_rfl) (by simp) ?_
    refine AllReadyH.cons rfl (fun K hK => ?_) AllReadyH.nil
    go_simp
    refine (signed_any _ _ _ _ _ _ _ _ (by omega)).mono ?_
    rintro r w7 ⟨rfl, hb7⟩
    have I7 := I6.below hb7
    have D77 := D76.below hb7
    have D87 := hD8.below hb7
    have Z7 := Z6.below hb7
    go_wp2_with fail
    refine hK.out _ _ ?_ (fun hHeld => ?_)
    · exact I7.cells
    clear hK K
    try simp only [Act.put, List.setIfInBounds_toArray, List.set_cons_zero, List.set_cons_succ]
    refine wpAnyH_ready (rs := [17]) (by kernel_rfl) (by simp) ?_
    refine AllReadyH.cons rfl (fun K hK => ?_) AllReadyH.nil
    have r0 := Z7.cell 0
    have r1 := Z7.cell 1
    have r2 := Z7.cell 2
    have f0 := Z7.frozen 0
    have f1 := Z7.frozen 1
    have f2 := Z7.frozen 2
    go_simp
    refine hK.out _ _ ?_ (fun hHeld => ?_)
    · exact I7.cells3 hgz.out _ _ _
    clear hK K
    try simp only [Act.put, List.setIfInBounds_toArray, List.set_cons_zero, List.set_cons_succ]
    refine wpAnyH_done (by kernel_rfl) ?_ _
    go_wp2_with fail
    go_meet
    exact ⟨_, A7, m7, c7, us7, A8, m8, c8, us8, rfl, ((Z7.set_ 0 _).set_ 1 _).set_ 2 _, D77.set3 Z7 _ _ _, hN7, hv7, hm7, D87.set3 Z7 _ _ _, hN8, (by show _ = _; rw [hv8.out, Nat.one_pow]), hm8, ((I7.r.far hg2.out _).far hg2.out _).far hg2.out _, bel_set3 I7.bel hg3.out _ _ _⟩
  case rest =>
    clear I0 k0 k1 k2 hlt1 hlt2 hw0
    obtain ⟨g, A7, m7, c7, us7, A8, m8, c8, us8, rfl, G1, D7, N7, V7, M7, D8, N8, V8, M8, R, hwc⟩ := hcut
    have g0 := G1.cell 0
    have g1 := G1.cell 1
    have g2 := G1.cell 2
    go_wp2_with fail
    refine (keep_any false _ _ _ _ _ _ _ _ _ D7 D8 N7 N8 _ 1 V7 V8 (by omega) (by omega)).mono ?_
    rintro r w8 ⟨_, rfl, ⟨_, _, rfl, n5, n6⟩, hb8⟩
    have R2 := R.below hb8
    have hw8 := hwc.trans (hb8.mono hwc.size)
    have r0 := R2.cell 0
    have r1 := R2.cell 1
    have r2 := R2.cell 2
    have f0 := R2.frozen 0
    have f1 := R2.frozen 1
    have f2 := R2.frozen 2
    have n5' := n5.le (show 2 * max m7 m8 ≤ 78 by omega)
    have n6' := n6.le (show 2 * max m7 m8 ≤ 78 by omega)
    obtain ⟨A5, m5, c5, us5, rfl, _⟩ := n5
    obtain ⟨A6, m6, c6, us6, rfl, _⟩ := n6
    go_wp2
    exact ret_frac2 rfl rfl (((R2.set_ 0 _).set_ 1 _).set_ 2 _) rfl ⟨_, rfl, ⟨_, _, rfl, nv_set3 n5' R2 _ _ _, nv_set3 n6' R2 _ _ _⟩, bel_set3 hw8 (by omega) _ _ _⟩
end Go.Proofs.YtoljffghaklpdaaDoor.Fr
