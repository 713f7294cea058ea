/- Arguments of a law: gates, recordings, segments. -/
import Derived.Test.YtobobbhifajhmaaR1
import Derived.Test.YtobobbhifajhmaaL7
import Derived.Lib.SmallJoins
namespace Go.Proofs.Ytobobbhifajhmaa
open Go.ChangeShapes Go.WideShapes Go.ChangeAt Go.RowKit Go.Joins Go.Deep

/-- A struct of one-cell fields, by value, opened: its cells, and how each field was read. -/
theorem open_aggN {H : Type} {enc : TypeId × Value → H} {P : Program} {W : World} {base : Nat} {spare : Nat → Bool} {held : Bool} {r : Reach} {b0 : Nat} {t : TypeId} {fs : Array Field} {v : Value} {d : DataW H} {p : List MemPlace}
    (hs : P.underlying t = some (.struct fs)) (hone : oneCellFields P fs = true) (hC : P.cellsOf t = fs.size) (hv : Value.okWide P W r b0 t v) (h : DataW.Trod enc P W base spare held t v d p) :
    ∃ (cs : List Value) (n : Nat), v = .agg cs.toArray ∧ cs.length = fs.size ∧ ∀ (i : Nat) (f : Field), fs[i]? = some f → ∃ y, DataW.trod enc P W base spare held n f.type [cs.getD i undef] = some y := by
  obtain ⟨cs, rfl, hsz⟩ := okWide_struct hs hv
  obtain ⟨l⟩ := cs
  have hl : l.length = fs.size := hsz.trans hC
  obtain ⟨fuel, hf⟩ := h
  obtain ⟨xs, n, _, _, _, hxl, hg⟩ := DataW.trod_struct hs hf
  refine ⟨l, n, rfl, hl, fun i f hi => ?_⟩
  have hlt : i < fs.size := (Array.getElem?_eq_some_iff.1 hi).1
  obtain ⟨ho, hc1⟩ := hone_of hone i f hi
  have g := hg i f hi
  rw [ho, hc1] at g
  have g' : DataW.trod enc P W base spare held n f.type ((l.drop i).take 1) = xs[i]? := g
  rw [take1_drop l i undef (by omega), List.getElem?_eq_getElem (by omega)] at g'
  exact ⟨_, g'⟩
/-- one integer field of a struct that was read -/
theorem int_cell {H : Type} {enc : TypeId × Value → H} {W : World} {n : Nat} {v : Value} {y : DataW H × List MemPlace} (h : DataW.trod enc Try.prog W 0 (fun _ => true) true n 3 [v] = some y) : ∃ a : Int, v = .int .i64 a := by
  obtain ⟨a, e, _⟩ := DataW.trod_int Try.underlying3 h
  simp at e
  exact ⟨a, e⟩
set_option maxRecDepth 100000 in
theorem open_gate {H : Type} {enc : TypeId × Value → H} {W : World} {b0 : Nat} {v : Value} {d : DataW H} {p : List MemPlace} (hv : Value.okWide Try.prog W .any b0 65 v)
    (h : DataW.Trod enc Try.prog W 0 (fun _ => true) true 65 v d p) : ∃ a0 a1 a2 a3 a4 a5 a6 : Int, v = gtV a0 a1 a2 a3 a4 a5 a6 := by
  obtain ⟨cs, n, rfl, hl, hf⟩ := open_aggN Try.underlying65 (by kernel_rfl) (by kernel_rfl) hv h
  match cs, hl with
  | [c0, c1, c2, c3, c4, c5, c6], _ =>
    obtain ⟨_, h0⟩ := hf 0 _ rfl
    obtain ⟨_, h1⟩ := hf 1 _ rfl
    obtain ⟨_, h2⟩ := hf 2 _ rfl
    obtain ⟨_, h3⟩ := hf 3 _ rfl
    obtain ⟨_, h4⟩ := hf 4 _ rfl
    obtain ⟨_, h5⟩ := hf 5 _ rfl
    obtain ⟨_, h6⟩ := hf 6 _ rfl
    obtain ⟨a0, rfl⟩ := int_cell (v := c0) h0
    obtain ⟨a1, rfl⟩ := int_cell (v := c1) h1
    obtain ⟨a2, rfl⟩ := int_cell (v := c2) h2
    obtain ⟨a3, rfl⟩ := int_cell (v := c3) h3
    obtain ⟨a4, rfl⟩ := int_cell (v := c4) h4
    obtain ⟨a5, rfl⟩ := int_cell (v := c5) h5
    obtain ⟨a6, rfl⟩ := int_cell (v := c6) h6
    exact ⟨a0, a1, a2, a3, a4, a5, a6, rfl⟩
end Go.Proofs.Ytobobbhifajhmaa
