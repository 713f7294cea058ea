/- The improved codebook: groups of vectors. -/
import Derived.Test.YtjpdgnbdbpgnmaaDoorGG
namespace Go.Proofs.YtjpdgnbdbpgnmaaDoor
open Go.RowKit

theorem info_sl2 : (Tryd.prog.info? 46).map (fun i => (i.zero, i.size, i.bytes)) = some (some nilV, 1, 24) := by kernel_rfl
theorem make_near (n : Nat) (hn : n ≤ 5000000000000) (w : World) :
    (Instr.makeSlice 97 (.int .i64 (n : Int)) (.int .i64 (n : Int))).run Tryd.prog w = .ok (.slice (some ⟨w.heap.size, 0, none⟩) n n) (w.alloc (.cells (List.replicate n nilV).toArray 46)) := by
  obtain ⟨i0, hi, hz0, hz1, hz2⟩ := info_parts info_sl2
  have := run_make (P := Tryd.prog) w 97 46 i0 nilV Tryd.underlying97 hi hz0 .i64 .i64 n n (by omega) (by omega) (by rw [hz2]; omega) (by omega)
  rw [this, hz1]
  have e : Value.cells nilV = #[nilV] := rfl
  rw [e, made_nil]
  simp

/-- the vectors, as so many slice values, in groups -/
structure Near (w wr : World) (gn n : Nat) (VV : Nat → Value) (gv : Nat → List Value) (G : Nat → List (List Int)) : Prop where
  blk : Blk wr gn 46 ((List.range n).map VV).toArray
  own : ∀ i, i < n → wr.ownsRow w.heap.size 30 1 (VV i) (G i).length (gv i)
  row : ∀ i, i < n → RowL w (gv i) (G i)
  sep : ∀ i j, i < n → j < n → i ≠ j → (VV i).ownBlock = none ∨ (VV i).ownBlock ≠ (VV j).ownBlock
  bel : Below w.heap.size w wr
  new : w.heap.size ≤ gn
section
variable {w wr : World} {gn n : Nat} {VV : Nat → Value} {gv : Nat → List Value} {G : Nat → List (List Int)}
theorem Near.below {w2 : World} (h : Near w wr gn n VV gv G) (hb : Below wr.heap.size wr w2) : Near w w2 gn n VV gv G :=
  ⟨h.blk.below hb, fun i hi => own_bel (h.own i hi) hb, h.row, h.sep, h.bel.trans (hb.mono h.bel.size), h.new⟩
theorem Near.cell (h : Near w wr gn n VV gv G) {i : Nat} (hi : i < n) : wr.cell? ⟨gn, i, none⟩ = some (VV i) := by
  rw [h.blk.cell i]
  simp [hi]
theorem Near.start : Near w (w.alloc (.cells (List.replicate n nilV).toArray 46)) w.heap.size n (fun _ => nilV) (fun _ => []) (fun _ => []) :=
  ⟨by
    have : (List.range n).map (fun _ => nilV) = List.replicate n nilV := by
      apply List.ext_getElem
      · simp
      · intro i h1 h2; simp
    rw [this]
    exact Blk.new _ _ _, fun i _ => World.ownsRow_nil _ _ _ _, fun i _ => RowL.nil _, fun i j _ _ _ => .inl rfl, (Below.refl _ _).alloc (Nat.le_refl _) _, Nat.le_refl _⟩
theorem grown_set (w : World) (g i : Nat) (u : Value) : w.grownBy (w.setCell ⟨g, i, none⟩ u) (some g) :=
  ⟨rfl, rfl, rfl, by simp [World.setCell], fun k hk hne => by
    have : ¬ g = k := fun e => hne (by rw [e])
    simp [World.setCell, Array.getElem?_modify, this]⟩
/-- one more vector in group i -/
theorem Near.push (h : Near w wr gn n VV gv G) {i : Nat} (hi : i < n) {V : Value} {w3 : World} {o : Obj} {s : Value} {x : List Int}
    (h1 : w3.ownsRow w.heap.size 30 1 V ((G i).length + 1) (gv i ++ [s])) (h2 : (wr.alloc o).grownBy w3 (VV i).ownBlock) (h3 : V.ownBlock = (VV i).ownBlock ∨ V.ownBlock = some (wr.alloc o).heap.size) (hs : RowL w [s] [x]) :
    Near w (w3.setCell ⟨gn, i, none⟩ V) gn n (fun j => if j = i then V else VV j) (fun j => if j = i then gv i ++ [s] else gv j) (fun j => if j = i then G i ++ [x] else G j) := by
  have hblk3 : Blk w3 gn 46 ((List.range n).map VV).toArray := (h.blk.alloc o).grown h2 (blk_row h.blk (h.own i hi) (by decide))
  have hV := blk_row hblk3 h1 (by decide)
  have hlt := fun j (hj : j < n) => (h.own j hj).lt
  have hsz : wr.heap.size < (wr.alloc o).heap.size := by simp
  refine ⟨?_, fun j hj => ?_, fun j hj => ?_, fun j k hj hk hjk => ?_, ?_, h.new⟩
  · have := hblk3.set_ i V
    rw [show ((List.range n).map VV).toArray.setIfInBounds i V = ((List.range n).map fun j => if j = i then V else VV j).toArray by
      rw [List.setIfInBounds_toArray]
      congr 1
      apply List.ext_getElem
      · simp
      · intro j a1 a2
        rw [List.getElem_set]
        by_cases e : i = j
        · subst e; simp
        · simp [e, Ne.symm e]] at this
    exact this
  · by_cases e : j = i
    · subst e
      simp only [if_true]
      rw [List.length_append]
      exact h1.kept (grown_set w3 gn j V) (.inr (fun e2 => hV e2.symm))
    · simp only [if_neg e]
      have k1 := ((h.own j hj).alloc o).kept h2 (h.sep j i hj hi e)
      exact k1.kept (grown_set w3 gn i V) (.inr (fun e2 => blk_row hblk3 k1 (by decide) e2.symm))
  · by_cases e : j = i
    · subst e
      simp only [if_true]
      exact (h.row j hj).app hs
    · simp only [if_neg e]
      exact h.row j hj
  · by_cases e : j = i
    · subst e
      have e2 : k ≠ j := Ne.symm hjk
      simp only [if_true, if_neg e2]
      rcases h3 with h3 | h3
      · rw [h3]; exact h.sep j k hj hk hjk
      · rw [h3]
        refine .inr (fun e3 => ?_)
        have := (hlt k hk _ e3.symm).2
        omega
    · by_cases e2 : k = i
      · subst e2
        simp only [if_true, if_neg e]
        rcases h3 with h3 | h3
        · rw [h3]; exact h.sep j k hj hk hjk
        · rw [h3]
          refine .inr (fun e3 => ?_)
          have := (hlt j hj _ e3).2
          omega
      · simp only [if_neg e, if_neg e2]
        exact h.sep j k hj hk hjk
  · have hb1 := h.bel.alloc h.bel.size o
    have hb2 := bel_grown2 hb1 h2 (fun q e => ((hlt i hi) q e).1)
    exact hb2.setCell (p := ⟨gn, i, none⟩) h.new V
end

/-- the vectors whose nearest codeword is number k -/
def grpL (us : List (List Int)) (k : Nat) (vs : List (List Int)) : List (List Int) := vs.filter fun x => decide ((nrS x us us.length).1 = k)
def impK (m : Nat) (vs us : List (List Int)) (k : Nat) : List Int := if grpL us k vs = [] then us.getD k [] else meanL m (grpL us k vs)
def impL (m : Nat) (vs us : List (List Int)) : List (List Int) := (List.range us.length).map (impK m vs us)
theorem grpL_snoc (us : List (List Int)) (k : Nat) (vs : List (List Int)) (x : List Int) : grpL us k (vs ++ [x]) = if k = (nrS x us us.length).1 then grpL us k vs ++ [x] else grpL us k vs := by
  unfold grpL
  rw [List.filter_append]
  by_cases h : k = (nrS x us us.length).1
  · simp [h]
  · simp [h, Ne.symm h]
theorem grpL_sub {us : List (List Int)} {k : Nat} {vs : List (List Int)} {x : List Int} (h : x ∈ grpL us k vs) : x ∈ vs := (List.mem_filter.1 h).1
theorem grpL_len (us : List (List Int)) (k : Nat) (vs : List (List Int)) : (grpL us k vs).length ≤ vs.length := List.length_filter_le _ _

theorem src_lit (w : World) (t : TypeId) (B : Option Addr) (L C : Nat) : Src (w.alloc (.cells #[.slice B L C] t)) (some ⟨w.heap.size, 0, none⟩) 1 1 [.slice B L C] 1 :=
  ⟨rfl, fun e => (by cases e), fun ad e j u hu => by
    injection e with e
    subst e
    rw [add_new, (Blk.new w t #[.slice B L C]).cell j]
    simpa using hu, fun u hu => by
      simp at hu
      subst hu
      rfl⟩
/-- row i replaced -/
theorem RowL.replace {w : World} {news : List Value} {vs : List (List Int)} (h : RowL w news vs) {g : Nat} {t : TypeId} (hB : Blk w g t news.toArray) {i : Nat} {B : Option Addr} {L C : Nat} {x : List Int} (hS : Sl .i64 w B L C x) (h1 : B = none → C = 0) (h2 : L ≤ 17592186044416) :
    RowL (w.setCell ⟨g, i, none⟩ (.slice B L C)) (news.set i (.slice B L C)) (vs.set i x) := by
  have hsl : ∀ v ∈ news.toArray, ∃ B L C, v = Value.slice B L C := fun v hv => h.slices v (by simpa using hv)
  have hR := h.set_ hB hsl i (.slice B L C)
  refine ⟨by rw [List.length_set, List.length_set, h.1], fun j v hv => ?_⟩
  rw [List.getElem?_set] at hv
  by_cases e : i = j
  · subst e
    rw [if_pos rfl] at hv
    split at hv
    · rename_i hlt
      injection hv with hv
      subst hv
      exact ⟨B, L, C, x, rfl, by rw [List.getElem?_set, if_pos rfl, if_pos (by rw [← h.1]; exact hlt)], hS.farn (hS.nob hB hsl) i _, h1, h2⟩
    · cases hv
  · rw [if_neg e] at hv
    obtain ⟨B2, L2, C2, x2, e2, hx, h3⟩ := hR.2 j v hv
    exact ⟨B2, L2, C2, x2, e2, by rw [List.getElem?_set, if_neg e]; exact hx, h3⟩
end Go.Proofs.YtjpdgnbdbpgnmaaDoor
