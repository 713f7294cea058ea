/- Readings are collected: the closure that goes from word to word. -/
import Derived.Test.YtpdfjlbfhnapkaaGreatDoorTR
namespace Go.Proofs.YtpdfjlbfhnapkaaGreatDoor
open Go.RowKit
set_option linter.unusedSimpArgs false
set_option linter.unusedVariables false
set_option maxRecDepth 100000

/-- what the closure is given -/
def fnV (b : Nat) : Value := .func (.func 107) #[] #[.pointer (some ⟨b, 0, none⟩), .pointer (some ⟨b + 2, 0, none⟩), .pointer (some ⟨b + 1, 0, none⟩), .pointer (some ⟨b + 3, 0, none⟩)]
structure Env (ws : List Str) (w0 : World) (g b : Nat) (R : Value) (w : World) : Prop where
  bel : Below b w0 w
  c0 : w.cell? ⟨b, 0, none⟩ = some (.slice (some ⟨g, 0, none⟩) ws.length ws.length)
  c3 : w.cell? ⟨b + 1, 0, none⟩ = some (.slice (some ⟨g + 1, 0, none⟩) (ws.length + 1) (ws.length + 1))
  c6 : w.cell? ⟨b + 3, 0, none⟩ = some (fnV b)
  b5 : Blk w (b + 2) 32 #[R]
  bz : b + 4 ≤ w.heap.size
/-- nothing but the rows turned -/
structure Frm (b : Nat) (V R : Value) (w w' : World) : Prop where
  os : w'.os = w.os
  tape : w'.tape = w.tape
  output : w'.output = w.output
  size : w.heap.size ≤ w'.heap.size
  block : ∀ k, k < w.heap.size → k ≠ b + 2 → some k ≠ V.ownBlock → some k ≠ R.ownBlock → w'.heap[k]? = w.heap[k]?
section
variable {ws : List Str} {w0 w w' w9 : World} {g b : Nat} {V R R' : Value}
theorem Frm.refl (b : Nat) (V R : Value) (w : World) : Frm b V R w w := ⟨rfl, rfl, rfl, Nat.le_refl _, fun _ _ _ _ _ => rfl⟩
theorem Frm.bel (h : Frm b V R w w') (hb : Below w'.heap.size w' w9) : Frm b V R w w9 := ⟨hb.os.trans h.os, hb.tape.trans h.tape, hb.output.trans h.output, Nat.le_trans h.size hb.size, fun k hk h1 h2 h3 => (hb.block k (Nat.lt_of_lt_of_le hk h.size)).trans (h.block k hk h1 h2 h3)⟩
theorem Frm.grown (h : Frm b V R w w') {row : Option Nat} (hg : w'.grownBy w9 row) (hr : ∀ k, row = some k → k < w.heap.size → some k = V.ownBlock ∨ some k = R.ownBlock ∨ k = b + 2) : Frm b V R w w9 := ⟨hg.os.trans h.os, hg.tape.trans h.tape, hg.output.trans h.output, Nat.le_trans h.size hg.size, fun k hk h1 h2 h3 => (hg.block k (Nat.lt_of_lt_of_le hk h.size) (fun e => by
  rcases hr k e.symm hk with h9 | h9 | h9
  · exact h2 h9
  · exact h3 h9
  · exact h1 h9)).trans (h.block k hk h1 h2 h3)⟩
theorem Frm.trans {V' R1 : Value} (h : Frm b V R w w') (h2 : Frm b V' R1 w' w9) (hV : ∀ k, V'.ownBlock = some k → k < w.heap.size → some k = V.ownBlock) (hR : ∀ k, R1.ownBlock = some k → k < w.heap.size → some k = R.ownBlock) : Frm b V R w w9 :=
  ⟨h2.os.trans h.os, h2.tape.trans h.tape, h2.output.trans h.output, Nat.le_trans h.size h2.size, fun k hk h3 h4 h5 => (h2.block k (Nat.lt_of_lt_of_le hk h.size) h3 (fun e => h4 (hV k e.symm hk)) (fun e => h5 (hR k e.symm hk))).trans (h.block k hk h3 h4 h5)⟩
theorem Env.frm (h : Env ws w0 g b R w) (hF : Frm b V R w w') (hw0 : w0.heap.size = b) {n m : Nat} {xs ys : List Value} (hV : w.ownsRow (b + 4) 9 1 V n xs) (hR : w.ownsRow (b + 4) 9 1 R m ys) (h5 : Blk w' (b + 2) 32 #[R']) : Env ws w0 g b R' w' := by
  have hne : ∀ k, k < b + 4 → some k ≠ V.ownBlock ∧ some k ≠ R.ownBlock := fun k hk => ⟨fun e => by have := (hV.lt k e.symm).1; omega, fun e => by have := (hR.lt k e.symm).1; omega⟩
  have hbl : ∀ k, k < b + 4 → k ≠ b + 2 → w'.heap[k]? = w.heap[k]? := fun k hk h2 => hF.block k (Nat.lt_of_lt_of_le hk h.bz) h2 (hne k hk).1 (hne k hk).2
  exact ⟨⟨hF.os.trans h.bel.os, hF.tape.trans h.bel.tape, hF.output.trans h.bel.output, Nat.le_trans h.bel.size hF.size, fun k hk => (hbl k (by omega) (by omega)).trans (h.bel.block k hk)⟩,
    (cell_heap (hbl b (by omega) (by omega))).trans h.c0, (cell_heap (hbl (b + 1) (by omega) (by omega))).trans h.c3, (cell_heap (hbl (b + 3) (by omega) (by omega))).trans h.c6, h5, Nat.le_trans h.bz hF.size⟩
theorem Env.below (h : Env ws w0 g b R w) (hb : Below w.heap.size w w') : Env ws w0 g b R w' := by
  have hz := h.bz
  exact ⟨h.bel.trans (hb.mono (by omega)), (hb.cell (p := ⟨b, 0, none⟩) (by show b < _; omega)).trans h.c0, (hb.cell (p := ⟨b + 1, 0, none⟩) (by show b + 1 < _; omega)).trans h.c3, (hb.cell (p := ⟨b + 3, 0, none⟩) (by show b + 3 < _; omega)).trans h.c6, h.b5.below hb, Nat.le_trans hz hb.size⟩
end
/-- the call went through all readings from a word on -/
def RetRd (ws : List Str) (w0 : World) (g b : Nat) (a : Nat) (ps rs : List Str) (V R : Value) (w : World) (e : Ending) (w' : World) : Prop :=
  ∃ R', e = .returned (.tuple #[]) ∧ Env ws w0 g b R' w' ∧ w'.ownsRow (b + 4) 9 1 R' (rs ++ (rd ws a).map fun r => joinW (ps ++ r)).length (svs (rs ++ (rd ws a).map fun r => joinW (ps ++ r))) ∧ w'.ownsRow (b + 4) 9 1 V ps.length (svs ps) ∧ Frm b V R w w' ∧ ∀ k, R'.ownBlock = some k → k < w.heap.size → some k = R.ownBlock
def SmS (ps : List Str) : Prop := ∀ x ∈ ps, x.length ≤ 2000
theorem joinS_len {ps : List Str} (h : SmS ps) (hl : ps.length ≤ 3000) : (joinW ps).length ≤ 100000000 := by
  have h1 := joinW_len h
  have : ps.length * 2001 ≤ 3000 * 2001 := Nat.mul_le_mul_right _ hl
  omega
set_option maxHeartbeats 16000000 in
theorem read_end (ws : List Str) (w0 : World) (g b : Nat) (hw0 : w0.heap.size = b) (hwn : ws.length ≤ 2001) (a : Nat) (ha : a = ws.length) (ps rs : List Str) (V R : Value) (w : World) (hE : Env ws w0 g b R w) (hps : SmS ps) (hpa : ps.length ≤ a) (hrl : rs.length ≤ 1000) (hV : w.ownsRow (b + 4) 9 1 V ps.length (svs ps)) (hR : w.ownsRow (b + 4) 9 1 R rs.length (svs rs)) (hVR : ∀ k, V.ownBlock = some k → R.ownBlock ≠ some k) :
    Calls Tryz.prog 107 #[.int .i64 (a : Int), V, .pointer (some ⟨b, 0, none⟩), .pointer (some ⟨b + 2, 0, none⟩), .pointer (some ⟨b + 1, 0, none⟩), .pointer (some ⟨b + 3, 0, none⟩)] w (RetRd ws w0 g b a ps rs V R w) := by
  obtain ⟨i0, hi, hz0, hz1, hz2⟩ := info_parts info_str
  have hc0 := hE.c0
  have hout := Lib.hid (show rs ++ (rd ws a).map (fun r => joinW (ps ++ r)) = rs ++ [joinW ps] by rw [rd_end ws (by omega)]; simp)
  rw [← ha] at hc0
  have hB5 := hE.b5
  have hbz := hE.bz
  have hjl := joinS_len hps (by omega)
  have hJ0 := Lib.hid (fun (w9 : World) (h9 : w9.ownsRow (b + 4) 9 1 V ps.length (svs ps)) => join_any ps V (b + 4) w9 h9 hjl (by omega))
  clear hjl ha
  go_enter Tryz.func107, Tryz.ntmps107
  go_wp2
  refine wp_region_held_drew (S := (fun _ => True)) (by kernel_rfl) trivial (fun hHeld => ?_)
  have hD := bel_drewN (Below.refl w.heap.size w) 1
  have F0 := (Frm.refl b V R w).bel hD
  have hB0 := hB5.below hD
  have hV0 := own_below hV hD
  have hR0 := own_below hR hD
  have hz0' : b + 4 ≤ (w.drewN 1).heap.size := hbz
  have e5 : w.cell? ⟨b + 2, 0, none⟩ = some R := hB5.cell 0
  clear hc0 hD
  refine wpAnyH_take (i := 1) (v := V) rfl (by kernel_rfl) (by kernel_rfl) (by kernel_rfl) (fun _ _ _ h => h) (Or.inl ⟨by kernel_rfl, by (intro w hSw; (try dsimp only at hSw); go_simp)⟩) hHeld ?_
  simp only [Act.put, List.getElem_toArray, List.getElem_cons_succ, List.getElem_cons_zero, List.setIfInBounds_toArray, List.set_cons_zero, List.set_cons_succ]
  refine wpAnyH_ready (rs := [0, 2]) (by kernel_rfl) (by simp) ?_
  refine AllReadyH.cons rfl (fun K hK => ?_) (AllReadyH.cons rfl (fun K hK => ?_) AllReadyH.nil)
  · have c5 : (w.drewN 1).cell? ⟨b + 2, 0, none⟩ = some R := hB0.cell 0
    go_simp
    refine hK.out _ _ trivial (fun hHeld => ?_)
    clear hK K c5
    try simp only [Act.put, List.getElem_toArray, List.getElem_cons_succ, List.getElem_cons_zero, List.setIfInBounds_toArray, List.set_cons_zero, List.set_cons_succ]
    refine wpAnyH_ready (rs := [2]) (by kernel_rfl) (by simp) ?_
    refine AllReadyH.cons rfl (fun K hK => ?_) AllReadyH.nil
    go_simp
    refine (hJ0.out _ hV0).mono ?_
    rintro e x1 ⟨rfl, hx⟩
    have F1 := F0.bel hx
    have hB1 := hB0.below hx
    have hV1 := own_below hV0 hx
    have hR1 := own_below hR0 hx
    have hz1' : b + 4 ≤ x1.heap.size := Nat.le_trans hz0' hx.size
    clear hx
    go_wp2_with fail
    refine hK.out _ _ trivial (fun hHeld => ?_)
    clear hK K
    try simp only [Act.put, List.getElem_toArray, List.getElem_cons_succ, List.getElem_cons_zero, List.setIfInBounds_toArray, List.set_cons_zero, List.set_cons_succ]
    refine wpAnyH_ready (rs := [3]) (by kernel_rfl) (by simp) ?_
    refine AllReadyH.cons rfl (fun K hK => ?_) AllReadyH.nil
    have hx := (Below.refl (x1).heap.size (x1)).alloc (Nat.le_refl _) (.cells #[.string ⟨(joinW ps).toArray⟩] 9)
    have hL := src_lit (x := joinW ps) (Blk.new (x1) 9 #[.string ⟨(joinW ps).toArray⟩])
    have F2 := F1.bel hx
    have hB2 := hB1.below hx
    have hV2 := own_below hV1 hx
    have hR2 := own_below hR1 hx
    have hz2' : b + 4 ≤ ((x1).alloc (.cells #[.string ⟨(joinW ps).toArray⟩] 9)).heap.size := Nat.le_trans hz1' hx.size
    clear hx
    go_simp
    refine hK.out _ _ trivial (fun hHeld => ?_)
    clear hK K
    try simp only [Act.put, List.getElem_toArray, List.getElem_cons_succ, List.getElem_cons_zero, List.setIfInBounds_toArray, List.set_cons_zero, List.set_cons_succ]
    refine wpAnyH_ready (rs := [4]) (by kernel_rfl) (by simp) ?_
    refine AllReadyH.cons rfl (fun K hK => ?_) AllReadyH.nil
    refine step_append_any (by rfl) _ _ _ (by rfl) (b + 4) 9 i0 (.string ⟨#[]⟩) 1 16 Tryz.underlying32 hi hz0 hz1 hz2 (by rfl) (by decide) R rs.length (svs rs) (by rfl) hR2 _ 1 1 (svs [joinW ps]) (by rfl) hL (by unfold maxLen; omega) (by omega) hz2' ?_
    intro R9 x9 hO hG hat
    have hbR : ∀ q, R.ownBlock = some q → b + 4 ≤ q := fun q e => (hR2.lt q e).1
    have F9 := F2.grown hG (fun q e _ => Or.inr (Or.inl e.symm))
    have hB9 := hB2.grown hG (fun e => by have := hbR _ e.symm; omega)
    have hV9 := own_far hV2 hG (fun q e e2 => hVR q e e2)
    have hR9 := own_app hO rfl rfl
    have hRk : ∀ q, R9.ownBlock = some q → q < w.heap.size → some q = R.ownBlock := fun q e hq => by
      rcases hat with h9 | h9
      · rw [← h9]; exact e.symm
      · rw [e] at h9; injection h9 with h9; have := F2.size; omega
    clear hO hG hat
    refine hK.out _ _ trivial (fun hHeld => ?_)
    clear hK K
    try simp only [Act.put, List.getElem_toArray, List.getElem_cons_succ, List.getElem_cons_zero, List.setIfInBounds_toArray, List.set_cons_zero, List.set_cons_succ]
    refine wpAnyH_ready (rs := [5]) (by kernel_rfl) (by simp) ?_
    refine AllReadyH.cons rfl (fun K hK => ?_) AllReadyH.nil
    obtain ⟨m9, hm9⟩ : ∃ m9, (rs ++ [joinW ps]).length = m9 := ⟨_, rfl⟩
    rw [hm9] at hR9
    have hm9 := Lib.hid hm9
    obtain ⟨A9, c9, rfl, _⟩ := Src.of_own hR9 (oneCell_svs _)
    have z5 : x9.cell? ⟨b + 2, 0, none⟩ = some R := hB9.cell 0
    have z6 := hB9.frozen 0
    go_simp
    refine hK.out _ _ trivial (fun hHeld => ?_)
    clear hK K
    try simp only [Act.put, List.getElem_toArray, List.getElem_cons_succ, List.getElem_cons_zero, List.setIfInBounds_toArray, List.set_cons_zero, List.set_cons_succ]
    refine wpAnyH_done (by kernel_rfl) ?_ _
    have hG2 := grown_set x9 (b + 2) 0 (.slice A9 m9 c9)
    have F10 := F9.grown hG2 (fun q e _ => Or.inr (Or.inr (by injection e with e; exact e.symm)))
    have hR10 := own_grown hR9 hG2 (fun q e => by injection e with e; omega)
    have hV10 := own_grown hV9 hG2 (fun q e => by injection e with e; omega)
    have hE10 := hE.frm F10 hw0 hV hR (hB9.set_ 0 _)
    go_wp2
    go_end0
    exact ⟨_, rfl, hE10, by rw [hout.out, hm9.out]; exact hR10, hV10, F10, hRk⟩
  · go_simp
    refine (hJ0.out _ hV0).mono ?_
    rintro e x1 ⟨rfl, hx⟩
    have F1 := F0.bel hx
    have hB1 := hB0.below hx
    have hV1 := own_below hV0 hx
    have hR1 := own_below hR0 hx
    have hz1' : b + 4 ≤ x1.heap.size := Nat.le_trans hz0' hx.size
    clear hx
    go_wp2_with fail
    refine hK.out _ _ trivial (fun hHeld => ?_)
    clear hK K
    try simp only [Act.put, List.getElem_toArray, List.getElem_cons_succ, List.getElem_cons_zero, List.setIfInBounds_toArray, List.set_cons_zero, List.set_cons_succ]
    refine wpAnyH_ready (rs := [0, 3]) (by kernel_rfl) (by simp) ?_
    refine AllReadyH.cons rfl (fun K hK => ?_) (AllReadyH.cons rfl (fun K hK => ?_) AllReadyH.nil)
    · have c5 : (x1).cell? ⟨b + 2, 0, none⟩ = some R := hB1.cell 0
      go_simp
      refine hK.out _ _ trivial (fun hHeld => ?_)
      clear hK K c5
      try simp only [Act.put, List.getElem_toArray, List.getElem_cons_succ, List.getElem_cons_zero, List.setIfInBounds_toArray, List.set_cons_zero, List.set_cons_succ]
      refine wpAnyH_ready (rs := [3]) (by kernel_rfl) (by simp) ?_
      refine AllReadyH.cons rfl (fun K hK => ?_) AllReadyH.nil
      have hx := (Below.refl (x1).heap.size (x1)).alloc (Nat.le_refl _) (.cells #[.string ⟨(joinW ps).toArray⟩] 9)
      have hL := src_lit (x := joinW ps) (Blk.new (x1) 9 #[.string ⟨(joinW ps).toArray⟩])
      have F2 := F1.bel hx
      have hB2 := hB1.below hx
      have hV2 := own_below hV1 hx
      have hR2 := own_below hR1 hx
      have hz2' : b + 4 ≤ ((x1).alloc (.cells #[.string ⟨(joinW ps).toArray⟩] 9)).heap.size := Nat.le_trans hz1' hx.size
      clear hx
      go_simp
      refine hK.out _ _ trivial (fun hHeld => ?_)
      clear hK K
      try simp only [Act.put, List.getElem_toArray, List.getElem_cons_succ, List.getElem_cons_zero, List.setIfInBounds_toArray, List.set_cons_zero, List.set_cons_succ]
      refine wpAnyH_ready (rs := [4]) (by kernel_rfl) (by simp) ?_
      refine AllReadyH.cons rfl (fun K hK => ?_) AllReadyH.nil
      refine step_append_any (by rfl) _ _ _ (by rfl) (b + 4) 9 i0 (.string ⟨#[]⟩) 1 16 Tryz.underlying32 hi hz0 hz1 hz2 (by rfl) (by decide) R rs.length (svs rs) (by rfl) hR2 _ 1 1 (svs [joinW ps]) (by rfl) hL (by unfold maxLen; omega) (by omega) hz2' ?_
      intro R9 x9 hO hG hat
      have hbR : ∀ q, R.ownBlock = some q → b + 4 ≤ q := fun q e => (hR2.lt q e).1
      have F9 := F2.grown hG (fun q e _ => Or.inr (Or.inl e.symm))
      have hB9 := hB2.grown hG (fun e => by have := hbR _ e.symm; omega)
      have hV9 := own_far hV2 hG (fun q e e2 => hVR q e e2)
      have hR9 := own_app hO rfl rfl
      have hRk : ∀ q, R9.ownBlock = some q → q < w.heap.size → some q = R.ownBlock := fun q e hq => by
        rcases hat with h9 | h9
        · rw [← h9]; exact e.symm
        · rw [e] at h9; injection h9 with h9; have := F2.size; omega
      clear hO hG hat
      refine hK.out _ _ trivial (fun hHeld => ?_)
      clear hK K
      try simp only [Act.put, List.getElem_toArray, List.getElem_cons_succ, List.getElem_cons_zero, List.setIfInBounds_toArray, List.set_cons_zero, List.set_cons_succ]
      refine wpAnyH_ready (rs := [5]) (by kernel_rfl) (by simp) ?_
      refine AllReadyH.cons rfl (fun K hK => ?_) AllReadyH.nil
      obtain ⟨m9, hm9⟩ : ∃ m9, (rs ++ [joinW ps]).length = m9 := ⟨_, rfl⟩
      rw [hm9] at hR9
      have hm9 := Lib.hid hm9
      obtain ⟨A9, c9, rfl, _⟩ := Src.of_own hR9 (oneCell_svs _)
      have z5 : x9.cell? ⟨b + 2, 0, none⟩ = some R := hB9.cell 0
      have z6 := hB9.frozen 0
      go_simp
      refine hK.out _ _ trivial (fun hHeld => ?_)
      clear hK K
      try simp only [Act.put, List.getElem_toArray, List.getElem_cons_succ, List.getElem_cons_zero, List.setIfInBounds_toArray, List.set_cons_zero, List.set_cons_succ]
      refine wpAnyH_done (by kernel_rfl) ?_ _
      have hG2 := grown_set x9 (b + 2) 0 (.slice A9 m9 c9)
      have F10 := F9.grown hG2 (fun q e _ => Or.inr (Or.inr (by injection e with e; exact e.symm)))
      have hR10 := own_grown hR9 hG2 (fun q e => by injection e with e; omega)
      have hV10 := own_grown hV9 hG2 (fun q e => by injection e with e; omega)
      have hE10 := hE.frm F10 hw0 hV hR (hB9.set_ 0 _)
      go_wp2
      go_end0
      exact ⟨_, rfl, hE10, by rw [hout.out, hm9.out]; exact hR10, hV10, F10, hRk⟩
    · have hx := (Below.refl (x1).heap.size (x1)).alloc (Nat.le_refl _) (.cells #[.string ⟨(joinW ps).toArray⟩] 9)
      have hL := src_lit (x := joinW ps) (Blk.new (x1) 9 #[.string ⟨(joinW ps).toArray⟩])
      have F2 := F1.bel hx
      have hB2 := hB1.below hx
      have hV2 := own_below hV1 hx
      have hR2 := own_below hR1 hx
      have hz2' : b + 4 ≤ ((x1).alloc (.cells #[.string ⟨(joinW ps).toArray⟩] 9)).heap.size := Nat.le_trans hz1' hx.size
      clear hx
      go_simp
      refine hK.out _ _ trivial (fun hHeld => ?_)
      clear hK K
      try simp only [Act.put, List.getElem_toArray, List.getElem_cons_succ, List.getElem_cons_zero, List.setIfInBounds_toArray, List.set_cons_zero, List.set_cons_succ]
      refine wpAnyH_ready (rs := [0]) (by kernel_rfl) (by simp) ?_
      refine AllReadyH.cons rfl (fun K hK => ?_) AllReadyH.nil
      have c5 : ((x1).alloc (.cells #[.string ⟨(joinW ps).toArray⟩] 9)).cell? ⟨b + 2, 0, none⟩ = some R := hB2.cell 0
      go_simp
      refine hK.out _ _ trivial (fun hHeld => ?_)
      clear hK K c5
      try simp only [Act.put, List.getElem_toArray, List.getElem_cons_succ, List.getElem_cons_zero, List.setIfInBounds_toArray, List.set_cons_zero, List.set_cons_succ]
      refine wpAnyH_ready (rs := [4]) (by kernel_rfl) (by simp) ?_
      refine AllReadyH.cons rfl (fun K hK => ?_) AllReadyH.nil
      refine step_append_any (by rfl) _ _ _ (by rfl) (b + 4) 9 i0 (.string ⟨#[]⟩) 1 16 Tryz.underlying32 hi hz0 hz1 hz2 (by rfl) (by decide) R rs.length (svs rs) (by rfl) hR2 _ 1 1 (svs [joinW ps]) (by rfl) hL (by unfold maxLen; omega) (by omega) hz2' ?_
      intro R9 x9 hO hG hat
      have hbR : ∀ q, R.ownBlock = some q → b + 4 ≤ q := fun q e => (hR2.lt q e).1
      have F9 := F2.grown hG (fun q e _ => Or.inr (Or.inl e.symm))
      have hB9 := hB2.grown hG (fun e => by have := hbR _ e.symm; omega)
      have hV9 := own_far hV2 hG (fun q e e2 => hVR q e e2)
      have hR9 := own_app hO rfl rfl
      have hRk : ∀ q, R9.ownBlock = some q → q < w.heap.size → some q = R.ownBlock := fun q e hq => by
        rcases hat with h9 | h9
        · rw [← h9]; exact e.symm
        · rw [e] at h9; injection h9 with h9; have := F2.size; omega
      clear hO hG hat
      refine hK.out _ _ trivial (fun hHeld => ?_)
      clear hK K
      try simp only [Act.put, List.getElem_toArray, List.getElem_cons_succ, List.getElem_cons_zero, List.setIfInBounds_toArray, List.set_cons_zero, List.set_cons_succ]
      refine wpAnyH_ready (rs := [5]) (by kernel_rfl) (by simp) ?_
      refine AllReadyH.cons rfl (fun K hK => ?_) AllReadyH.nil
      obtain ⟨m9, hm9⟩ : ∃ m9, (rs ++ [joinW ps]).length = m9 := ⟨_, rfl⟩
      rw [hm9] at hR9
      have hm9 := Lib.hid hm9
      obtain ⟨A9, c9, rfl, _⟩ := Src.of_own hR9 (oneCell_svs _)
      have z5 : x9.cell? ⟨b + 2, 0, none⟩ = some R := hB9.cell 0
      have z6 := hB9.frozen 0
      go_simp
      refine hK.out _ _ trivial (fun hHeld => ?_)
      clear hK K
      try simp only [Act.put, List.getElem_toArray, List.getElem_cons_succ, List.getElem_cons_zero, List.setIfInBounds_toArray, List.set_cons_zero, List.set_cons_succ]
      refine wpAnyH_done (by kernel_rfl) ?_ _
      have hG2 := grown_set x9 (b + 2) 0 (.slice A9 m9 c9)
      have F10 := F9.grown hG2 (fun q e _ => Or.inr (Or.inr (by injection e with e; exact e.symm)))
      have hR10 := own_grown hR9 hG2 (fun q e => by injection e with e; omega)
      have hV10 := own_grown hV9 hG2 (fun q e => by injection e with e; omega)
      have hE10 := hE.frm F10 hw0 hV hR (hB9.set_ 0 _)
      go_wp2
      go_end0
      exact ⟨_, rfl, hE10, by rw [hout.out, hm9.out]; exact hR10, hV10, F10, hRk⟩

def stepR (ws : List Str) (s : Str × Nat) : List (List Str) := if 0 < way ws s.2 then (rd ws s.2).map (s.1 :: ·) else []
/-- what the first ways of some word give -/
def outs (ws : List Str) (a : Nat) (ps : List Str) (q : Nat) : List Str := (((stepsF ws a).take q).flatMap (stepR ws)).map fun r => joinW (ps ++ r)
theorem outs_zero (ws : List Str) (a : Nat) (ps : List Str) : outs ws a ps 0 = [] := by unfold outs; rw [List.take_zero]; rfl
theorem outs_succ {ws : List Str} {a q : Nat} {ps : List Str} {s : Str × Nat} (h : (stepsF ws a)[q]? = some s) : outs ws a ps (q + 1) = outs ws a ps q ++ (stepR ws s).map fun r => joinW (ps ++ r) := by
  unfold outs
  rw [List.take_add_one, h, List.flatMap_append, List.map_append]
  simp
theorem outs_le (ws : List Str) (a : Nat) (ps : List Str) (m : Nat) : (outs ws a ps m).length ≤ (((stepsF ws a).flatMap (stepR ws)).map fun r => joinW (ps ++ r)).length := by
  unfold outs
  rw [List.length_map, List.length_map]
  conv => rhs; rw [← List.take_append_drop m (stepsF ws a)]
  rw [List.flatMap_append, List.length_append]
  omega
theorem outs_bound {ws : List Str} {a q : Nat} {ps : List Str} {s : Str × Nat} (ha : a < ws.length) (h : (stepsF ws a)[q]? = some s) : (outs ws a ps q).length + (stepR ws s).length ≤ (rd ws a).length := by
  have h1 := outs_le ws a ps (q + 1)
  rw [outs_succ h, List.length_append, List.length_map, List.length_map] at h1
  rw [rd_at ws ha]
  exact h1
theorem Frm.own {b base e size n : Nat} {V R v : Value} {xs : List Value} {w w' : World} (hF : Frm b V R w w') (h : w.ownsRow base e size v n xs) (h1 : ∀ k, v.ownBlock = some k → k ≠ b + 2) (h2 : ∀ k, v.ownBlock = some k → V.ownBlock ≠ some k) (h3 : ∀ k, v.ownBlock = some k → R.ownBlock ≠ some k) : w'.ownsRow base e size v n xs := by
  obtain ⟨hl, h9⟩ := h
  rcases h9 with h9 | ⟨g, cap, cur, rfl, q1, q2, q3⟩
  · exact ⟨hl, .inl h9⟩
  · exact ⟨hl, .inr ⟨g, cap, cur, rfl, q1, (hF.block g (Blk.lt (show Blk w g e cur from q2)) (h1 g rfl) (fun e9 => h2 g rfl e9.symm) (fun e9 => h3 g rfl e9.symm)).trans q2, q3⟩⟩
theorem outs_all {ws : List Str} {a : Nat} {ps : List Str} (h : a < ws.length) : outs ws a ps (stepsF ws a).length = (rd ws a).map fun r => joinW (ps ++ r) := by
  unfold outs
  rw [List.take_length, rd_at ws h]
  rfl
theorem spv_get0 : ∀ {xs : List (Str × Nat)} {q : Nat} {x : Str} {n : Nat}, xs[q]? = some (x, n) → (spv xs)[2 * q]? = some (.string ⟨x.toArray⟩) := by
  intro xs
  induction xs with
  | nil => intro q x n h; cases h
  | cons y ys ih =>
    intro q x n h
    cases q with
    | zero => injection h with h; subst h; rfl
    | succ q => exact ih (q := q) h
theorem spv_get1 : ∀ {xs : List (Str × Nat)} {q : Nat} {x : Str} {n : Nat}, xs[q]? = some (x, n) → (spv xs)[2 * q + 1]? = some (.int .i64 ((n : Nat) : Int)) := by
  intro xs
  induction xs with
  | nil => intro q x n h; cases h
  | cons y ys ih =>
    intro q x n h
    cases q with
    | zero => injection h with h; subst h; rfl
    | succ q => exact ih (q := q) h
set_option maxHeartbeats 16000000 in
theorem read_any (ws : List Str) (hws : SmS ws) (hwn : ws.length ≤ 2001) (w0 w2 : World) (g b : Nat) (hgb : g + 1 < b) (hw0 : w0.heap.size = b) (hst0 : St ws w2 g 0 (fun i => ((way ws i : Nat) : Int)) w0) :
    ∀ d a, ws.length - a ≤ d → a ≤ ws.length → ∀ (ps rs : List Str) (V R : Value) (w : World), Env ws w0 g b R w → SmS ps → ps.length ≤ a → rs.length + (rd ws a).length ≤ 1000 → w.ownsRow (b + 4) 9 1 V ps.length (svs ps) → w.ownsRow (b + 4) 9 1 R rs.length (svs rs) → (∀ k, V.ownBlock = some k → R.ownBlock ≠ some k) →
    Calls Tryz.prog 107 #[.int .i64 (a : Int), V, .pointer (some ⟨b, 0, none⟩), .pointer (some ⟨b + 2, 0, none⟩), .pointer (some ⟨b + 1, 0, none⟩), .pointer (some ⟨b + 3, 0, none⟩)] w (RetRd ws w0 g b a ps rs V R w) := by
  obtain ⟨i0, hi, hz0, hz1, hz2⟩ := info_parts info_str
  intro d
  induction d with
  | zero =>
    intro a hd ha ps rs V R w hE hps hpa hrl hV hR hVR
    exact read_end ws w0 g b hw0 hwn a (by omega) ps rs V R w hE hps hpa (by omega) hV hR hVR
  | succ d ih0 =>
    have ih := Lib.hid ih0
    clear ih0
    intro a hd ha ps rs V R w hE hps hpa hrl hV hR hVR
    have hc0 := hE.c0
    have hc3 := hE.c3
    have hc6 := hE.c6
    have hc5 := hE.b5.cell 0
    have hc5 : w.cell? ⟨b + 2, 0, none⟩ = some R := hc5
    obtain ⟨n, hn⟩ : ∃ n, ws.length = n := ⟨_, rfl⟩
    have hnn := Lib.hid hn
    rw [hn] at hc0 hc3
    have han : a ≤ n := by omega
    have hn2 : n ≤ 2001 := by omega
    clear hn
    rcases Nat.lt_or_ge a n with hlt | hge
    · have g1 : ((a : Int) == (n : Int)) = false := by rw [beq_eq_false_iff_ne]; omega
      obtain ⟨VR, hrc0, hro0⟩ := hst0.row (Nat.zero_le a) (by rw [hnn.out]; exact hlt)
      have hrc : w.cell? ⟨g, a, none⟩ = some VR := (hE.bel.cell (p := ⟨g, a, none⟩) (by show g < b; omega)).trans hrc0
      have h0 : (0 : Int) ≤ (a : Int) := by omega
      have h1 : (a : Int) < (n : Int) := by omega
      obtain ⟨AR, cR, rfl, hSR⟩ := Src.of_own hro0 (by
        intro u hu
        unfold spv at hu
        rw [List.mem_flatMap] at hu
        obtain ⟨x, _, hx⟩ := hu
        simp only [List.mem_cons, List.not_mem_nil, or_false] at hx
        rcases hx with rfl | rfl <;> rfl)
      obtain ⟨L, hL⟩ : ∃ L, (stepsF ws a).length = L := ⟨_, rfl⟩
      rw [hL] at hrc hSR hro0
      have hL37 : L ≤ 37 := by rw [← hL]; exact stepsF_len ws a
      have hLL := Lib.hid hL
      clear hL hSR hrc0
      go_enter Tryz.func107, Tryz.ntmps107
      go_wp2
      go_loopw [24] (fun iv wr' => ∃ (q : Nat) (R1 : Value) (wr : World), wr = wr' ∧ iv = .int .i64 (q : Int) ∧ q ≤ L ∧ Env ws w0 g b R1 wr ∧ wr.ownsRow (b + 4) 9 1 R1 (rs ++ outs ws a ps q).length (svs (rs ++ outs ws a ps q)) ∧ wr.ownsRow (b + 4) 9 1 V ps.length (svs ps) ∧ Frm b V R w wr ∧ Hid (∀ k, R1.ownBlock = some k → k < w.heap.size → some k = R.ownBlock)) (fun iv _ => L - (intOf iv).toNat)
      case atStart => exact ⟨0, R, _, rfl, rfl, Nat.zero_le _, hE, by rw [outs_zero, List.append_nil]; exact hR, hV, Frm.refl _ _ _ _, fun k h _ => h.symm⟩
      case round =>
        obtain ⟨q, R1, wr, rfl, rfl, hq, hE1, hR1, hV1, hF1, hRk⟩ := hrel
        rcases Nat.lt_or_ge q L with hql | hqg
        · obtain ⟨s, hs⟩ : ∃ s, (stepsF ws a)[q]? = some s := ⟨_, List.getElem?_eq_getElem (by rw [hLL.out]; exact hql)⟩
          obtain ⟨x, nx⟩ := s
          have hro1 := own_below hro0 (hw0.symm ▸ hE1.bel)
          rcases hro1.2 with ⟨h9, _⟩ | ⟨gr, cap, cur, h9, hgr, hgc, _⟩
          · injection h9 with _ h9 _
            omega
          · injection h9 with h9 h9b h9c
            subst h9
            subst h9c
            clear h9b
            have s0 := hro1.cells (g := gr) rfl (2 * q) _ (spv_get0 hs)
            have s1 := hro1.cells (g := gr) rfl (2 * q + 1) _ (spv_get1 hs)
            rw [add_new, Nat.mul_comm] at s0 s1
            have q1 : (q : Int) < (L : Int) := by omega
            have q0 : (0 : Int) ≤ (q : Int) := by omega
            have hin := stepsF_in (by rw [hnn.out]; exact hlt) _ (List.mem_of_getElem? hs)
            simp only at hin
            have hxl : x.length ≤ 2000 := stepsF_short hws _ (List.mem_of_getElem? hs)
            have hos := outs_succ (ps := ps) hs
            have hob := outs_bound (ps := ps) (by rw [hnn.out]; exact hlt) hs
            have hA := (Below.refl wr.heap.size wr).alloc (Nat.le_refl _) (.cells #[.string ⟨x.toArray⟩, .int .i64 (nx : Int)] 81)
            have hBx := Blk.new wr 81 #[.string ⟨x.toArray⟩, .int .i64 (nx : Int)]
            have hEa := hE1.below hA
            have hRa := own_below hR1 hA
            have hVa := own_below hV1 hA
            have hFa := hF1.bel hA
            have hsta := hst0.below (hw0.symm ▸ hEa.bel)
            have a3 := hEa.c3
            rw [hnn.out] at a3
            have a4 := hsta.way_ (i := nx) hin.2
            have a5 : (wr.alloc (.cells #[.string ⟨x.toArray⟩, .int .i64 (nx : Int)] 81)).cell? ⟨wr.heap.size, 1, none⟩ = some (.int .i64 (nx : Int)) := hBx.cell 1
            have n0 : (0 : Int) ≤ (nx : Int) := by omega
            have nxn : nx ≤ n := by rw [← hnn.out]; exact hin.2
            have n1 : (nx : Int) < ((n + 1 : Nat) : Int) := by omega
            have n1' : (nx : Int) < (n : Int) + 1 := by omega
            obtain ⟨y, hy⟩ : ∃ y, way ws nx = y := ⟨_, rfl⟩
            rw [hy] at a4
            have hyw := Lib.hid hy
            have hos := Lib.hid hos
            have hob := Lib.hid hob
            have hs := Lib.hid hs
            clear hy hro1 hA
            by_cases hpos : 0 < y
            · have p1 : (0 : Int) < (y : Int) := by omega
              have p2 : decide ((0 : Int) < (y : Int)) = true := decide_eq_true p1
              have hstep := Lib.hid (show stepR ws (x, nx) = (rd ws nx).map (x :: ·) by unfold stepR; simp only; rw [if_pos (by rw [hyw.out]; exact hpos)])
              clear hpos
              go_wp2
              generalize hW1 : wr.alloc (.cells #[.string ⟨x.toArray⟩, .int .i64 (nx : Int)] 81) = W1 at *
              have hzw : wr.heap.size < W1.heap.size := by rw [← hW1, World.size_alloc]; omega
              have hzw2 := hF1.size
              obtain ⟨bx, hbx⟩ : ∃ bx, wr.heap.size = bx := ⟨_, rfl⟩
              rw [hbx] at hBx hzw hzw2 a5 ⊢
              clear hW1 s0 s1 a3 a4
              have a6 := hEa.c6
              unfold fnV at a6
              have hbz1 := hE1.bz
              rw [hbx] at hbz1
              have k0 : W1.cell? ⟨bx, 0, none⟩ = some (.string ⟨x.toArray⟩) := hBx.cell 0
              have hH0 : (fun wx : World => wx.cell? ⟨b + 3, 0, none⟩ = some (.func (.func 107) #[] #[.pointer (some ⟨b, 0, none⟩), .pointer (some ⟨b + 2, 0, none⟩), .pointer (some ⟨b + 1, 0, none⟩), .pointer (some ⟨b + 3, 0, none⟩)]) ∧ wx.cell? ⟨bx, 0, none⟩ = some (.string ⟨x.toArray⟩) ∧ wx.cell? ⟨bx, 1, none⟩ = some (.int .i64 (nx : Int))) W1.drew := ⟨a6, k0, a5⟩
              refine wp_region_held_drew (S := (fun wx => wx.cell? ⟨b + 3, 0, none⟩ = some (.func (.func 107) #[] #[.pointer (some ⟨b, 0, none⟩), .pointer (some ⟨b + 2, 0, none⟩), .pointer (some ⟨b + 1, 0, none⟩), .pointer (some ⟨b + 3, 0, none⟩)]) ∧ wx.cell? ⟨bx, 0, none⟩ = some (.string ⟨x.toArray⟩) ∧ wx.cell? ⟨bx, 1, none⟩ = some (.int .i64 (nx : Int)))) (by kernel_rfl) hH0 (fun hHeld => ?_)
              have hD := bel_drewN (Below.refl W1.heap.size W1) 1
              have hE2 := hEa.below hD
              have hV2 := own_below hVa hD
              have hR2 := own_below hRa hD
              have hF2 := hFa.bel hD
              have hB2 := hBx.below hD
              clear hH0 hD a5 a6 k0
              refine wpAnyH_take (i := 0) (v := .func (.func 107) #[] #[.pointer (some ⟨b, 0, none⟩), .pointer (some ⟨b + 2, 0, none⟩), .pointer (some ⟨b + 1, 0, none⟩), .pointer (some ⟨b + 3, 0, none⟩)]) rfl (by kernel_rfl) (by kernel_rfl) (by kernel_rfl) (fun _ _ _ h => h) (Or.inl ⟨by kernel_rfl, by (intro w hSw; (try dsimp only at hSw); go_simp)⟩) hHeld ?_
              simp only [Act.put, List.getElem_toArray, List.getElem_cons_succ, List.getElem_cons_zero, List.setIfInBounds_toArray, List.set_cons_zero, List.set_cons_succ]
              refine wpAnyH_take (i := 1) (v := .pointer (some ⟨bx, 1, none⟩)) rfl (by kernel_rfl) (by kernel_rfl) (by kernel_rfl) (fun _ _ _ h => h) (Or.inl ⟨by kernel_rfl, by (intro w hSw; (try dsimp only at hSw); go_simp)⟩) hHeld ?_
              simp only [Act.put, List.getElem_toArray, List.getElem_cons_succ, List.getElem_cons_zero, List.setIfInBounds_toArray, List.set_cons_zero, List.set_cons_succ]
              refine wpAnyH_take (i := 2) (v := .int .i64 (nx : Int)) rfl (by kernel_rfl) (by kernel_rfl) (by kernel_rfl) (fun _ _ _ h => h) (Or.inl ⟨by kernel_rfl, by (intro w hSw; (try dsimp only at hSw); go_simp)⟩) hHeld ?_
              simp only [Act.put, List.getElem_toArray, List.getElem_cons_succ, List.getElem_cons_zero, List.setIfInBounds_toArray, List.set_cons_zero, List.set_cons_succ]
              refine wpAnyH_take (i := 3) (v := V) rfl (by kernel_rfl) (by kernel_rfl) (by kernel_rfl) (fun _ _ _ h => h) (Or.inl ⟨by kernel_rfl, by (intro w hSw; (try dsimp only at hSw); go_simp)⟩) hHeld ?_
              simp only [Act.put, List.getElem_toArray, List.getElem_cons_succ, List.getElem_cons_zero, List.setIfInBounds_toArray, List.set_cons_zero, List.set_cons_succ]
              refine wpAnyH_take (i := 4) (v := .pointer (some ⟨bx, 0, none⟩)) rfl (by kernel_rfl) (by kernel_rfl) (by kernel_rfl) (fun _ _ _ h => h) (Or.inl ⟨by kernel_rfl, by (intro w hSw; (try dsimp only at hSw); go_simp)⟩) hHeld ?_
              simp only [Act.put, List.getElem_toArray, List.getElem_cons_succ, List.getElem_cons_zero, List.setIfInBounds_toArray, List.set_cons_zero, List.set_cons_succ]
              refine wpAnyH_take (i := 5) (v := .string ⟨x.toArray⟩) rfl (by kernel_rfl) (by kernel_rfl) (by kernel_rfl) (fun _ _ _ h => h) (Or.inl ⟨by kernel_rfl, by (intro w hSw; (try dsimp only at hSw); go_simp)⟩) hHeld ?_
              simp only [Act.put, List.getElem_toArray, List.getElem_cons_succ, List.getElem_cons_zero, List.setIfInBounds_toArray, List.set_cons_zero, List.set_cons_succ]
              refine wpAnyH_ready (rs := [6]) (by kernel_rfl) (by simp) ?_
              refine AllReadyH.cons rfl (fun K hK => ?_) AllReadyH.nil
              have hx := (Below.refl (W1.drewN 1).heap.size (W1.drewN 1)).alloc (Nat.le_refl _) (.cells #[.string ⟨x.toArray⟩] 9)
              have hL := src_lit (x := x) (Blk.new (W1.drewN 1) 9 #[.string ⟨x.toArray⟩])
              have hE3 := hE2.below hx
              have hV3 := own_below hV2 hx
              have hR3 := own_below hR2 hx
              have hF3 := hF2.bel hx
              have hB3 := hB2.below hx
              have hz3 : W1.heap.size ≤ ((W1.drewN 1).alloc (.cells #[.string ⟨x.toArray⟩] 9)).heap.size := hx.size
              clear hx
              go_simp
              refine hK.out _ _ ⟨hE3.c6, hB3.cell 0, hB3.cell 1⟩ (fun hHeld => ?_)
              clear hK K
              try simp only [Act.put, List.getElem_toArray, List.getElem_cons_succ, List.getElem_cons_zero, List.setIfInBounds_toArray, List.set_cons_zero, List.set_cons_succ]
              clear hE2 hV2 hR2 hF2 hB2
              have hVR1 : ∀ k, V.ownBlock = some k → R1.ownBlock ≠ some k := fun k e e2 => hVR k e (hRk.out k e2 (hV.lt k e).2).symm
              refine wpAnyH_ready (rs := [7]) (by kernel_rfl) (by simp) ?_
              refine AllReadyH.cons rfl (fun K hK => ?_) AllReadyH.nil
              refine step_append_keep (by rfl) _ _ _ (by rfl) (b + 4) 9 i0 (.string ⟨#[]⟩) 1 16 Tryz.underlying32 hi hz0 hz1 hz2 (by rfl) (by decide) V ps.length (svs ps) (by rfl) hV3 _ 1 1 (by decide) (svs [x]) (by rfl) hL (by unfold maxLen; omega) (by omega) hE3.bz ?_
              intro V2 x2 hO hG hkeep
              have hG : World.grownBy ((W1.drewN 1).alloc (.cells #[.string ⟨x.toArray⟩] 9)) x2 V.ownBlock := hG
              have hkeep : (V2.ownBlock = some (((W1.drewN 1).alloc (.cells #[.string ⟨x.toArray⟩] 9)).heap.size) ∧ x2.ownsRow (b + 4) 9 1 V ps.length (svs ps) ∧ World.grownBy ((W1.drewN 1).alloc (.cells #[.string ⟨x.toArray⟩] 9)) x2 none) ∨ (V2.ownBlock = V.ownBlock ∧ ∀ W : World, W.ownsRow (b + 4) 9 1 V2 (ps.length + 1) (svs ps ++ svs [x]) → W.ownsRow (b + 4) 9 1 V ps.length (svs ps)) := hkeep
              generalize ((W1.drewN 1).alloc (.cells #[.string ⟨x.toArray⟩] 9)) = y1 at *
              have hVb : ∀ k, V.ownBlock = some k → b + 4 ≤ k := fun k e => (hV3.lt k e).1
              have hF4 := hF3.grown hG (fun k e _ => Or.inl e.symm)
              have hB5 := hE3.b5.grown hG (fun e => by have := hVb _ e.symm; omega)
              have hE4 := hE3.frm ((Frm.refl b V R1 y1).grown hG (fun k e _ => Or.inl e.symm)) hw0 hV3 hR3 hB5
              have hR4 := own_far hR3 hG (fun k e e2 => hVR1 k e2 e)
              have hB4 := hB3.grown hG (blk_row hB3 hV3 (by decide))
              have hO2 := own_app hO rfl rfl
              have hVR2 : ∀ k, V2.ownBlock = some k → R1.ownBlock ≠ some k := fun k e e2 => by
                rcases hkeep with ⟨h9, _⟩ | ⟨h9, _⟩
                · rw [e] at h9; injection h9 with h9; have := (hR3.lt k e2).2; omega
                · exact hVR1 k (by rw [← h9]; exact e) e2
              have hV2k : ∀ k, V2.ownBlock = some k → k < w.heap.size → some k = V.ownBlock := fun k e hk => by
                rcases hkeep with ⟨h9, _⟩ | ⟨h9, _⟩
                · rw [e] at h9; injection h9 with h9; have := hF3.size; omega
                · rw [← h9]; exact e.symm
              have hz4 : y1.heap.size ≤ x2.heap.size := hG.size
              clear hG
              refine hK.out _ _ ⟨hE4.c6, hB4.cell 0, hB4.cell 1⟩ (fun hHeld => ?_)
              clear hK K
              try simp only [Act.put, List.getElem_toArray, List.getElem_cons_succ, List.getElem_cons_zero, List.setIfInBounds_toArray, List.set_cons_zero, List.set_cons_succ]
              have hrd := Lib.hid (ih.out nx (by have h8 := hnn.out; omega) hin.2 (ps ++ [x]) (rs ++ outs ws a ps q) V2 R1 x2 hE4 (fun z hz => by
                rcases List.mem_append.1 hz with h9 | h9
                · exact hps z h9
                · rw [List.mem_singleton] at h9; subst h9; exact hxl) (by rw [List.length_append]; simp; omega) (by have := hob.out; rw [hstep.out, List.length_map] at this; rw [List.length_append]; omega) hO2 hR4 hVR2)
              refine wpAnyH_ready (rs := [8]) (by kernel_rfl) (by simp) ?_
              refine AllReadyH.cons rfl (fun K hK => ?_) AllReadyH.nil
              go_simp
              refine hrd.out.mono ?_
              rintro e9 x3 ⟨R3, rfl, hE5, hR5, hV5, hF5, hR3k⟩
              have hF6 := hF4.trans hF5 hV2k hRk.out
              have hV6 : x3.ownsRow (b + 4) 9 1 V ps.length (svs ps) := by
                rcases hkeep with ⟨h9, h8, _⟩ | ⟨h9, h8⟩
                · exact hF5.own h8 (fun k e => by have := hVb k e; omega) (fun k e e2 => by rw [h9] at e2; injection e2 with e2; have := (hV3.lt k e).2; omega) hVR1
                · exact h8 x3 (by rw [List.length_append, svs_app] at hV5; exact hV5)
              have hB6 : Blk x3 bx 81 #[.string ⟨x.toArray⟩, .int .i64 (nx : Int)] := by
                have h9 := hF5.block bx (by omega) (by omega) (fun e => blk_row hB4 hO2 (by decide) e) (fun e => blk_row hB4 hR4 (by decide) e)
                exact h9.trans hB4
              go_wp2_with fail
              refine hK.out _ _ ⟨hE5.c6, hB6.cell 0, hB6.cell 1⟩ (fun hHeld => ?_)
              clear hK K
              try simp only [Act.put, List.getElem_toArray, List.getElem_cons_succ, List.getElem_cons_zero, List.setIfInBounds_toArray, List.set_cons_zero, List.set_cons_succ]
              refine wpAnyH_done (by kernel_rfl) ?_ _
              have hos2 := Lib.hid (show rs ++ outs ws a ps (q + 1) = (rs ++ outs ws a ps q) ++ (rd ws nx).map fun r => joinW ((ps ++ [x]) ++ r) by
                rw [hos.out, hstep.out, List.map_map, List.append_assoc]
                congr 2
                refine List.map_congr_left (fun r _ => ?_)
                simp)
              go_wp2
              go_roundw
              case rel => exact ⟨q + 1, R3, _, rfl, by go_num, hql, hE5, by rw [hos2.out]; exact hR5, hV6, hF6, fun k e hk => hRk.out k (hR3k k e (Nat.lt_of_lt_of_le hk hF4.size)).symm hk⟩
              case measure => simp [intOf]; omega
            · obtain rfl : y = 0 := by omega
              have hstep := Lib.hid (show stepR ws (x, nx) = [] by unfold stepR; simp only; rw [if_neg (by rw [hyw.out]; omega)])
              have hos2 := Lib.hid (show outs ws a ps (q + 1) = outs ws a ps q by rw [hos.out, hstep.out]; simp)
              go_wp2
              go_roundw
              case rel => exact ⟨q + 1, R1, _, rfl, by go_num, hql, hEa, by rw [hos2.out]; exact hRa, hVa, hFa, hRk.out⟩
              case measure => simp [intOf]; omega
        · obtain rfl : q = L := by omega
          have hout := Lib.hid (show rs ++ outs ws a ps q = rs ++ (rd ws a).map fun r => joinW (ps ++ r) by rw [← outs_all (by rw [hnn.out]; exact hlt), hLL.out])
          go_wp2
          go_end0
          exact ⟨R1, rfl, hE1, by rw [← hout.out]; exact hR1, hV1, hF1, hRk.out⟩
    · exact read_end ws w0 g b hw0 hwn a (by have := hnn.out; omega) ps rs V R w hE hps hpa (by omega) hV hR hVR
end Go.Proofs.YtpdfjlbfhnapkaaGreatDoor
