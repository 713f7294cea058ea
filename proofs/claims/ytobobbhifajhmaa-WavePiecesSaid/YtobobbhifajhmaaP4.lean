/- The frames of a list: the program's own, where there are not too many. -/
import Derived.Test.YtobobbhifajhmaaP3
import Derived.Maps.AppendAt
namespace Go.Proofs.Ytobobbhifajhmaa
open Go.RowKit Go.Shelf
attribute [local go_sem] Oper.semAt_some

set_option maxHeartbeats 1600000 in
set_option maxRecDepth 100000 in
theorem Frames_long (A : Option Addr) (n c s p : Nat) (xs : List Int) (pad : Bool) (w : World) (h : Sl .i64 w A n c xs) (hv : chkV xs = 0) (hn : n ≤ 200000) (hs1 : 1 ≤ s) (hs2 : s ≤ 4096) (hp1 : 1 ≤ p) (hp2 : p ≤ 4096) (hl : 4000000 < fcount n s p pad * s) :
    Calls Try.prog 37 #[.slice A n c, .int .i64 (s : Int), .int .i64 (p : Int), .bool pad] w (RetRs w 0 (fun _ => []) 5) := by
  have hC := Lib.hid (checkValues_any A n c xs w h)
  rw [show chk (-2147483647) 2147483647 xs = 0 from hv] at hC
  have hw1 : okB 1 4096 (s : Int) = true := okB_iff.2 ⟨by omega, by omega⟩
  have hw2 : okB 1 4096 (p : Int) = true := okB_iff.2 ⟨by omega, by omega⟩
  have hF := Lib.hid (fun w => frameCount_any n s p pad w hn hs2 hp1 hp2)
  have hcl := fcount_le (n := n) (pad := pad) hp1 hs1
  generalize fcount n s p pad = cnt at *
  obtain ⟨M, hM⟩ : ∃ M : Nat, (cnt : Int) * (s : Int) = (M : Int) := ⟨cnt * s, by simp⟩
  have hM2 : M = cnt * s := by have h2 : ((cnt * s : Nat) : Int) = (M : Int) := by rw [← hM]; simp
                               omega
  have hM3 : M ≤ 200000 * 4096 := by rw [hM2]; exact Nat.mul_le_mul (by omega) hs2
  have hM4 : 4000000 < M := by omega
  clear hM2 hl hv
  go_enter Try.func37, Try.ntmps37
  go_wp2_with (first | (go_at_call 80; refine hC.out.mono ?_; rintro e w' ⟨rfl, rfl⟩) | (go_at_call 70; refine (within_any _ _ _ _).mono ?_; rintro e w' ⟨rfl, rfl⟩) | (go_at_call 81; refine (hF.out _).mono ?_; rintro e w' ⟨rfl, rfl⟩))
  go_ret2
  exact ⟨none, 0, _, _, _, rfl, rs_nil _ _, Below.refl _ _⟩

theorem info_sl : (Try.prog.info? 22).map (fun i => (i.zero, i.size, i.bytes)) = some (some (.slice none 0 0), 1, 24) := by kernel_rfl
/-- between two rounds: t rows are done -/
def InvF (w : World) (gl gb : Nat) (A : Option Addr) (n c s p cnt : Nat) (xs : List Int) (t : Nat) (W : World) : Prop :=
  ∃ G, Blk W gb 47 #[.slice (some ⟨gl, 0, none⟩) t cnt] ∧ OwnRs W gl (.slice (some ⟨gl, 0, none⟩) t cnt) t G s (frameL xs s p) ∧
    FB W (gb + 1) (gb + 2) (gb + 3) (gb + 4) A n c s p cnt ∧ Sl .i64 W A n c xs ∧ Below w.heap.size w W
theorem InvF.own {w : World} {gl gb B : Nat} {A : Option Addr} {n c s p cnt : Nat} {xs : List Int} (hB : w.heap.size ≤ B) : OwnFrom B (InvF w gl gb A n c s p cnt xs) := by
  rintro t W W' row ⟨G, h1, ⟨h2, h3, h4⟩, ⟨f1, f2, f3, f4⟩, h5, h6⟩ hg hr
  have hr2 : ∀ r, row = some r → ∃ o : Obj, W.heap[r]? = some o ∧ o.isCells = false := fun r e => (hr r e).2
  exact ⟨G, h1.kept hg hr2, ⟨own_kept h2 hg hr2, fun r hlt => Blk.kept (h3 r hlt) hg hr2, h4⟩, ⟨f1.kept hg hr2, f2.kept hg hr2, f3.kept hg hr2, f4.kept hg hr2⟩, h5.kept hg hr2, h6.grown hg h6.size (fun r e => Nat.le_trans hB (hr r e).1)⟩
theorem argF_own {xs : List Int} {s p B : Nat} (x : Value) : OwnFrom B (fun t W => ArgF xs s p t x W) := by
  rintro t W W' row ⟨g, rfl, h⟩ hg hr
  exact ⟨g, rfl, Blk.kept h hg (fun r e => (hr r e).2)⟩

set_option maxHeartbeats 4000000 in
set_option maxRecDepth 100000 in
theorem Frames_ok (A : Option Addr) (n c s p : Nat) (xs : List Int) (pad : Bool) (w : World) (h : Sl .i64 w A n c xs) (hv : chkV xs = 0) (hn : n ≤ 200000) (hs1 : 1 ≤ s) (hs2 : s ≤ 4096) (hp1 : 1 ≤ p) (hp2 : p ≤ 4096) (hl : fcount n s p pad * s ≤ 4000000) :
    Calls Try.prog 37 #[.slice A n c, .int .i64 (s : Int), .int .i64 (p : Int), .bool pad] w (RetRs w (fcount n s p pad) (frameL xs s p) 0) := by
  obtain ⟨i0, hi, hz0, hz1, hz2⟩ := info_parts info_sl
  have hC := Lib.hid (checkValues_any A n c xs w h)
  rw [show chk (-2147483647) 2147483647 xs = 0 from hv] at hC
  have hw1 : okB 1 4096 (s : Int) = true := okB_iff.2 ⟨by omega, by omega⟩
  have hw2 : okB 1 4096 (p : Int) = true := okB_iff.2 ⟨by omega, by omega⟩
  have hF := Lib.hid (fun w => frameCount_any n s p pad w hn hs2 hp1 hp2)
  have hcl := fcount_le (n := n) (pad := pad) hp1 hs1
  have hct := Lib.hid (show ∀ t, t < fcount n s p pad → t * p < n from fun t ht => ((fcount_at (pad := pad) hs1 hp1).1 ht).1)
  generalize fcount n s p pad = cnt at *
  obtain ⟨M, hM⟩ : ∃ M : Nat, (cnt : Int) * (s : Int) = (M : Int) := ⟨cnt * s, by simp⟩
  have hM2 : M = cnt * s := by have h2 : ((cnt * s : Nat) : Int) = (M : Int) := by rw [← hM]; simp
                               omega
  have hM4 : M ≤ 4000000 := by omega
  clear hM2 hl hv
  refine (callsIn_wide (n := 1)).1 ?_
  refine callsIn_of_wp_marks Try.func37 rfl trivial ?_
  simp only [Try.ntmps37, List.size_toArray, List.length_cons, List.length_nil, Nat.reduceAdd, Nat.reduceSub, Array.replicate_succ, Array.replicate_zero, List.push_toArray, List.append_toArray, List.nil_append, List.cons_append]
  gi_wp2_with (first
    | (refine ⟨trivial, ?_⟩; gi_at_call 80; refine (callsIn_wide.2 hC.out).mono ?_; rintro e w' ⟨rfl, rfl⟩)
    | (refine ⟨trivial, ?_⟩; gi_at_call 70; refine (callsIn_wide.2 (within_any _ _ _ _)).mono ?_; rintro e w' ⟨rfl, rfl⟩)
    | (refine ⟨trivial, ?_⟩; gi_at_call 81; refine (callsIn_wide.2 (hF.out _)).mono ?_; rintro e w' ⟨rfl, rfl⟩)
    | (refine wpListIn_make_own _ rfl (.const (.int .i64 0)) (.tmp 37) 47 rfl w.heap.size 22 i0 (.slice none 0 0) 1 Try.underlying47 hi hz0 hz1 .i64 .i64 (cnt : Int) cnt rfl rfl rfl (by rw [hz2]; omega) (by unfold maxLen; omega) (Nat.le_refl _) ?_; intro w1 hown1 hgr1))
  have hgl := (hown1.lt w.heap.size rfl).2
  have hB1 := Blk.new w1 47 #[.slice (some ⟨w.heap.size, 0, none⟩) 0 cnt]
  have h2 := (h.below (bel_grown hgr1)).alloc (.cells #[.slice (some ⟨w.heap.size, 0, none⟩) 0 cnt] 47)
  have hown2 := own_bel hown1 ((Below.refl w1.heap.size w1).alloc (Nat.le_refl _) (.cells #[.slice (some ⟨w.heap.size, 0, none⟩) 0 cnt] 47))
  have hb2 := (bel_grown hgr1).alloc (bel_grown hgr1).size (.cells #[.slice (some ⟨w.heap.size, 0, none⟩) 0 cnt] 47)
  have hsz2 : (w1.alloc (.cells #[.slice (some ⟨w.heap.size, 0, none⟩) 0 cnt] 47)).heap.size = w1.heap.size + 1 := by simp
  generalize w1.alloc (.cells #[.slice (some ⟨w.heap.size, 0, none⟩) 0 cnt] 47) = w2 at *
  refine ⟨trivial, (callsIn_wide.2 (frames_any A n c s p cnt w2)).mono ?_⟩
  rw [hsz2]
  rintro e w3 ⟨rfl, hFB, hb3⟩
  have hb3 : Below w2.heap.size w2 w3 := by rw [hsz2]; exact hb3
  have hI0 : InvF w w.heap.size w1.heap.size A n c s p cnt xs 0 w3 := ⟨fun _ => 0, hB1.below hb3, ⟨own_bel hown2 hb3, fun r hr => absurd hr (by omega), fun r hr => absurd hr (by omega)⟩, hFB, h2.below hb3, hb2.trans (hb3.mono hb2.size)⟩
  have hsz3 : w.heap.size ≤ w3.heap.size := Nat.le_trans hb2.size hb3.size
  clear hown1 hgr1 hB1 h2 hown2 hb2 hFB hb3 hC hF
  gi_wp2
  refine range_through (n := 0) rfl (enters_of Try.func96 (by kernel_rfl) rfl) cnt (fun t x W => ArgF xs s p t x W) argF_own (InvF w w.heap.size w1.heap.size A n c s p cnt xs) (InvF.own hsz3) hI0 13 ?assign ?body ?hit ?done
  case assign =>
    intro l x W K hK
    gi_wp2
    exact hK
  case hit =>
    intro l W1 J hg1 hJ hJI hY h0
    exact frames1_in A n c s p cnt xs 0 l (w1.heap.size + 4) (w1.heap.size + 2) (w1.heap.size + 1) (w1.heap.size + 3) J W1 hJ (fun t W hj => by
      obtain ⟨G, _, _, ⟨f1, f2, f3, f4⟩, hs, _⟩ := hJI t W hj
      exact ⟨⟨f4.cell 0, f2.cell 0, f1.cell 0, f3.cell 0⟩, hs⟩) hY hs1 hs2 hn hct.out (by omega) h0
  case body =>
    rintro l t x W ht ⟨G, h1, h2, h3, h4, h5⟩ ⟨g, rfl, hG⟩
    simp only [List.setIfInBounds_toArray, List.set_cons_zero, List.set_cons_succ]
    have q1 := h1.cell 0
    have h1a := h1.alloc (.cells #[.slice (some ⟨g, 0, none⟩) s s] 22)
    have hown := own_bel h2.own ((Below.refl W.heap.size W).alloc (Nat.le_refl _) (.cells #[.slice (some ⟨g, 0, none⟩) s s] 22))
    gi_wp2_with (refine wpListIn_append_fits _ rfl (.tmp 45) (.tmp 47) 47 rfl w.heap.size 22 i0 1 Try.underlying47 hi hz1 w.heap.size t cnt (rowV G s t) rfl hown ⟨W.heap.size, 0, none⟩ 1 1 [.slice (some ⟨g, 0, none⟩) s s] rfl rfl (cell_one_new _ _ _) (by intro u hu; simp at hu; subst hu; rfl) (by omega) ?_; intro w5 hown5 hgr5; have h1b := h1a.grown hgr5 (by simp; omega); have q2 := h1b.cell 0; have q3 := h1b.frozen 0)
    have hgl2 : w1.heap.size ≠ w.heap.size := by omega
    have hfar : ∀ (k : Nat) (T : TypeId) (cs : Array Value), Blk W k T cs → k ≠ w.heap.size → k ≠ w1.heap.size → Blk (w5.setCell ⟨w1.heap.size, 0, none⟩ (.slice (some ⟨w.heap.size, 0, none⟩) (t + 1) cnt)) k T cs := fun k T cs hb n1 n2 =>
      ((hb.alloc (.cells #[.slice (some ⟨g, 0, none⟩) s s] 22)).grown hgr5 (by intro e; cases e; exact n1 rfl)).far n2 _
    have hbF := ((h5.alloc h5.size (.cells #[.slice (some ⟨g, 0, none⟩) s s] 22)).grown hgr5 (by have := h5.size; simp; omega) (fun k e => by cases e; exact Nat.le_refl _)).setCell (p := ⟨w1.heap.size, 0, none⟩) (Nat.le_of_lt hgl) (.slice (some ⟨w.heap.size, 0, none⟩) (t + 1) cnt)
    refine ⟨((KeepsOthers.alloc W _).trans (KeepsOthers.of_grownBy hgr5 (fun j o e ho => ?_))).trans (KeepsOthers.setCell _ _ _), fun r => if r = t then g else G r, h1b.set_ 0 _, ⟨?_, fun r hr => ?_, fun r _ => tab_len _ _⟩, ⟨hfar _ _ _ h3.x (by omega) (by omega), hfar _ _ _ h3.s (by omega) (by omega), hfar _ _ _ h3.p (by omega) (by omega), hfar _ _ _ h3.c (by omega) (by omega)⟩, h.below hbF, hbF⟩
    · cases e
      obtain ⟨cur, hcur⟩ := own_cells hown
      rw [hcur] at ho
      cases ho
      rfl
    · rw [rowV_snoc]
      exact own_blk hown5 (Below.heap_setCell _ _ _ _ (fun e => hgl2 e.symm))
    · by_cases hrt : r = t
      · subst hrt
        rw [if_pos rfl]
        exact hfar _ _ _ hG (blk_type hG h2.own (by decide)) (blk_ne hG h1 (by decide))
      · rw [if_neg hrt]
        have hm := h2.mks r (by omega)
        exact hfar _ _ _ hm (blk_type hm h2.own (by decide)) (blk_ne hm h1 (by decide))
  case done =>
    rintro W ⟨G, h1, h2, h3, h4, h5⟩ hD
    have q1 := h1.cell 0
    gi_wp2
    obtain ⟨A2, c2, hV, hRs⟩ := h2.rs (by omega)
    injection hV with e1 e2 e3
    subst e1 e3
    refine ⟨by simp, .inl ⟨_, _, rfl, run_takeDeferred hD, ?_⟩⟩
    have hgp := grownBy_putObj' W w3.heap.size (.deferred none)
    have hrp : ∀ r, some w3.heap.size = some r → ∃ o : Obj, W.heap[r]? = some o ∧ o.isCells = false := fun r e => by cases e; exact ⟨_, hD, rfl⟩
    exact ⟨_, results_tmp2 rfl _ _ _, _, _, _, _, _, rfl, hRs.kept hgp hrp, h5.grown hgp h5.size (fun k e => by cases e; exact hsz3)⟩
end Go.Proofs.Ytobobbhifajhmaa
