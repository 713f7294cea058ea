/- Copies of lists of vectors, equality of lists of lists. -/
import Derived.Test.YtjpdgnbdbpgnmaaDoorGF
namespace Go.Proofs.YtjpdgnbdbpgnmaaDoor
open Go.RowKit

theorem setRow_setCell (w : World) (p : Addr) (u : Value) (g : Nat) (r : Array Value) (h : p.block ≠ g) : (w.setCell p u).setRow g r = (w.setRow g r).setCell p u := by
  unfold World.setRow World.setCell
  congr 1
  apply Array.ext
  · simp
  · intro i h1 h2
    simp only [Array.getElem_modify]
    by_cases e1 : g = i <;> by_cases e2 : p.block = i
    · exact absurd (e2.trans e1.symm) h
    · simp [e1, e2]
    · simp [e1, e2]
    · simp [e1, e2]

/-- the call returned a list of rows of its own, whose block can be written -/
def RetB (w : World) (n : Nat) (vs : List (List Int)) (e : Ending) (w' : World) : Prop :=
  ∃ g news, e = .returned (.slice (some ⟨g, 0, none⟩) n n) ∧ Blk w' g 30 (news : List Value).toArray ∧ RowL w' news vs ∧ Below w.heap.size w w' ∧ w.heap.size ≤ g

set_option maxHeartbeats 3200000 in
set_option maxRecDepth 100000 in
theorem copyVectors_any (A : Option Addr) (n c m : Nat) (vs : List (List Int)) (w : World) (h : Rr w A n c vs) (hn : n ≤ 10000) (hm1 : 1 ≤ m) (hm : m ≤ 64) (hu : ∀ u ∈ vs, u.length = m) :
    Calls Tryd.prog 86 #[.slice A n c] w (RetB w n vs) := by
  have hl := Lib.hid h.len
  have hcap := h.cap
  have htop := h.top
  have hu := Lib.hid hu
  have hmk := make_rows n (by omega)
  have hmk1 := make_int m (by omega)
  go_enter Tryd.func86, Tryd.ntmps86
  go_wp2
  have hst := RFill.start (n := n) (Below.refl w.heap.size w)
  clear hmk
  go_loopw [11] (fun iv wr => ∃ k : Nat, iv = .int .i64 k ∧ k ≤ n ∧ RFill w wr w.heap.size n k (vs.take k)) (fun iv _ => n - (intOf iv).toNat)
  case atStart => exact ⟨0, rfl, Nat.zero_le _, hst⟩
  case round =>
    obtain ⟨k, rfl, hk, hF⟩ := hrel
    clear hst
    have hr := h.below hF.bel
    rcases Nat.lt_or_ge k n with hlt | hge
    · obtain ⟨ad, B, L, C, x, rfl, hc, hx, hS, hB0, hL0⟩ := hr.at_ hlt
      have hLm : L = m := by rw [← hS.len]; exact hu.out x (List.mem_of_getElem? hx.out)
      subst hLm
      obtain ⟨bd, rfl, _⟩ := hS.cell (by omega)
      have hLc := hS.cap
      have hLt := hS.top
      have hxl := Lib.hid hS.len
      have hcg := hF.cell hlt
      have hfg := hF.frozen k
      have hglt : w.heap.size < wr.heap.size := by
        obtain ⟨news, hBl, _⟩ := hF.ex
        exact hBl.lt
      have hgne : w.heap.size ≠ wr.heap.size := by omega
      -- the worlds of the round
      have hM0 := Mk.new wr 3 .i64 (zs L)
      have hb0 := (Below.refl wr.heap.size wr).alloc (Nat.le_refl _) (.cells (ivs .i64 (zs L)).toArray 3)
      have hcg1 : (wr.alloc (.cells (ivs .i64 (zs L)).toArray 3)).cell? ⟨w.heap.size, k, none⟩ = some nilV := by rw [World.cell?_alloc_lt _ _ _ hglt]; exact hcg
      have hfg1 : (wr.alloc (.cells (ivs .i64 (zs L)).toArray 3)).frozen? ⟨w.heap.size, k, none⟩ = false := (hF.below hb0).frozen k
      have hM1 : Mk ((wr.alloc (.cells (ivs .i64 (zs L)).toArray 3)).setCell ⟨w.heap.size, k, none⟩ (.slice (some ⟨wr.heap.size, 0, none⟩) L L)) wr.heap.size 3 .i64 (zs L) := hM0.far (p := ⟨w.heap.size, k, none⟩) (Ne.symm hgne) _
      have hS0 := hS.alloc (.cells (ivs .i64 (zs L)).toArray 3)
      have hS1 : Sl .i64 ((wr.alloc (.cells (ivs .i64 (zs L)).toArray 3)).setCell ⟨w.heap.size, k, none⟩ (.slice (some ⟨wr.heap.size, 0, none⟩) L L)) (some bd) L C x := by
        obtain ⟨news, hBl, hRl⟩ := hF.ex
        refine hS0.farn (fun hp ad he => ?_) k _
        exact hS.nob hBl (fill_slices hRl (n - k)) hp ad he
      have hnews := Lib.hid hS1.news
      have hcl := Lib.hid (show (ivs .i64 x).length = L by rw [ivs_len, hxl.out])
      have hc1 := Lib.hid (show (ivs .i64 x).length = Nat.min L L by rw [hcl.out]; exact (Nat.min_self L).symm)
      have hc3 := Lib.hid (show 0 + (ivs .i64 x).length ≤ (ivs .i64 (zs L)).toArray.size by rw [hcl.out]; simp [ivs_len, zs_len])
      have hrow := Lib.hid (show (ivs .i64 x ++ List.drop (ivs .i64 x).length (ivs .i64 (zs L))) = ivs .i64 x by
        rw [hcl.out, List.drop_eq_nil_of_le (by rw [ivs_len, zs_len]; exact Nat.le_refl _), List.append_nil])
      -- the end of the round
      have hMx : Mk ((wr.alloc (.cells (ivs .i64 (zs L)).toArray 3)).setRow wr.heap.size (ivs .i64 x).toArray) wr.heap.size 3 .i64 x := setRow_heap _ _ _ _ 3 (0, 0) hM0
      have hbx : Below wr.heap.size wr ((wr.alloc (.cells (ivs .i64 (zs L)).toArray 3)).setRow wr.heap.size (ivs .i64 x).toArray) := below_setRow hb0 (Nat.le_refl _) _
      have hFx := (hF.below hbx).next hlt (hMx.sl hxl.out (by omega)) (fun e => by cases e) (by omega)
      rw [← setRow_setCell _ _ _ _ _ (show (⟨w.heap.size, k, none⟩ : Addr).block ≠ wr.heap.size from hgne)] at hFx
      have hFx : RFill w (((wr.alloc (.cells (ivs .i64 (zs L)).toArray 3)).setCell ⟨w.heap.size, k, none⟩ (.slice (some ⟨wr.heap.size, 0, none⟩) L L)).setRow wr.heap.size (ivs .i64 x).toArray) w.heap.size n (k + 1) (vs.take (k + 1)) := by
        have hkl := lt_of_some hx.out
        have hx2 := hx.out
        rw [List.getElem?_eq_getElem hkl] at hx2
        injection hx2 with hx2
        rw [take_snoc hkl, hx2]
        exact hFx
      have eW : (wr.alloc (.cells (ivs .i64 (zs L)).toArray 3)).setCell ⟨w.heap.size, k, none⟩ (.slice (some ⟨wr.heap.size, 0, none⟩) L L) = (wr.setCell ⟨w.heap.size, k, none⟩ (.slice (some ⟨wr.heap.size, 0, none⟩) L L)).alloc (.cells (ivs .i64 (zs L)).toArray 3) := World.setCell_alloc_past _ _ _ _ hglt
      have hnews := Lib.hid (eW ▸ hnews.out)
      have hM1 := eW ▸ hM1
      have hFx := Lib.hid (eW ▸ hFx)
      clear hbx hMx hS0 hS1 hM0 hb0 eW
      go_wp2_with (refine wpList_copy_own rfl (.tmp 25) (.tmp 26) 30 30 rfl 3 Tryd.underlying30 info_int1 wr.heap.size 0 L L bd L C rfl rfl (ivs .i64 (zs L)).toArray 3 hM1 (ivs .i64 x) hc1.out hnews.out hc3.out (oneCell_ivs _ _) ?_)
      rw [hrow.out]
      generalize (((wr.setCell ⟨w.heap.size, k, none⟩ (.slice (some ⟨wr.heap.size, 0, none⟩) L L)).alloc (.cells (ivs .i64 (zs L)).toArray 3)).setRow wr.heap.size (ivs .i64 x).toArray) = w9 at *
      try go_wp2
      go_roundw
      case rel => exact ⟨k + 1, by go_num, hlt, hFx.out⟩
      case measure => simp [intOf]; omega
    · have hkn : k = n := by omega
      subst hkn
      obtain ⟨news, hB, hR⟩ := hF.ex
      rw [Nat.sub_self, List.replicate_zero, List.append_nil] at hB
      rw [List.take_of_length_le (by rw [hl.out]; exact Nat.le_refl _)] at hR
      have hbl := hF.bel
      go_wp2
      go_ret
      exact ⟨_, news, rfl, hB, hR, hbl, Nat.le_refl _⟩
end Go.Proofs.YtjpdgnbdbpgnmaaDoor
