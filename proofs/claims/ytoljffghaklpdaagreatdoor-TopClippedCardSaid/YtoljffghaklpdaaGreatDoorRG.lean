/- Arguments of a law: recordings and recipes. -/
import Derived.Test.YtoljffghaklpdaaGreatDoorR0
import Derived.Test.YtoljffghaklpdaaGreatDoorEA
import Derived.Lib.SmallJoins
namespace Go.Proofs.YtoljffghaklpdaaGreatDoor
open Go.ChangeShapes Go.WideShapes Go.ChangeAt Go.RowKit Go.Joins Go.Deep

/-- A struct of one-cell fields, by value, opened: its cells, and how each field was read. -/
theorem open_aggN {H : Type} {enc : TypeId × Value → H} {P : Program} {W : World} {base : Nat} {spare : Nat → Bool} {held : Bool} {r : Reach} {b0 : Nat} {t : TypeId} {fs : Array Field} {v : Value} {d : DataW H} {p : List MemPlace}
    (hs : P.underlying t = some (.struct fs)) (hone : oneCellFields P fs = true) (hC : P.cellsOf t = fs.size) (hv : Value.okWide P W r b0 t v) (h : DataW.Trod enc P W base spare held t v d p) :
    ∃ (cs : List Value) (n : Nat), v = .agg cs.toArray ∧ cs.length = fs.size ∧ ∀ (i : Nat) (f : Field), fs[i]? = some f → ∃ y, DataW.trod enc P W base spare held n f.type [cs.getD i undef] = some y := by
  obtain ⟨cs, rfl, hsz⟩ := okWide_struct hs hv
  obtain ⟨l⟩ := cs
  have hl : l.length = fs.size := hsz.trans hC
  obtain ⟨fuel, hf⟩ := h
  obtain ⟨xs, n, _, _, _, hxl, hg⟩ := DataW.trod_struct hs hf
  refine ⟨l, n, rfl, hl, fun i f hi => ?_⟩
  have hlt : i < fs.size := (Array.getElem?_eq_some_iff.1 hi).1
  obtain ⟨ho, hc1⟩ := hone_of hone i f hi
  have g := hg i f hi
  rw [ho, hc1] at g
  have g' : DataW.trod enc P W base spare held n f.type ((l.drop i).take 1) = xs[i]? := g
  rw [take1_drop l i undef (by omega), List.getElem?_eq_getElem (by omega)] at g'
  exact ⟨_, g'⟩
/-- one integer field of a struct that was read -/
theorem int_cellT {H : Type} {enc : TypeId × Value → H} {W : World} {n : Nat} {t : TypeId} (ht : Tryz.prog.underlying t = some (.int .i64)) {v : Value} {y : DataW H × List MemPlace} (h : DataW.trod enc Tryz.prog W 0 (fun _ => true) true n t [v] = some y) : ∃ a : Int, v = .int .i64 a := by
  obtain ⟨a, e, _⟩ := DataW.trod_int ht h
  simp at e
  exact ⟨a, e⟩
theorem bool_cell {H : Type} {enc : TypeId × Value → H} {W : World} {n : Nat} {v : Value} {y : DataW H × List MemPlace} (h : DataW.trod enc Tryz.prog W 0 (fun _ => true) true n 4 [v] = some y) : ∃ b : Bool, v = .bool b := by
  obtain ⟨a, e, _⟩ := DataW.trod_bool Tryz.underlying4 h
  simp at e
  exact ⟨a, e⟩
set_option maxRecDepth 100000 in
theorem ints_cell {H : Type} {enc : TypeId × Value → H} {W : World} {n : Nat} {v : Value} {y : DataW H × List MemPlace} (h1 : DataW.trod enc Tryz.prog W 0 (fun _ => true) true n 28 [v] = some y) :
    ∃ (A : Option Addr) (n c : Nat) (xs : List Int), v = .slice A n c ∧ Sl .i64 W A n c xs ∧ (A = none → c = 0) := by
  rcases open_ints Tryz.underlying28 Tryz.underlying3 cells_int h1 with ⟨hcs, _⟩ | ⟨ad, len', cap', zs, hcs, _, hl, hm, hz, _, hcell, _⟩
  · have e : v = .slice none 0 0 := by simpa using hcs
    subst e
    exact ⟨none, 0, 0, [], rfl, Sl.nil _ _, fun _ => rfl⟩
  · have e : v = .slice (some ad) len' cap' := by simpa using hcs
    subst e
    rw [if_pos rfl] at hz
    refine ⟨some ad, len', cap', zs.take len', rfl, ⟨by rw [List.length_take]; omega, hl, by simpa [maxLen] using hm, fun _ => ⟨ad, rfl, fun j x hx => ?_⟩⟩, fun e => by cases e⟩
    have hj := lt_of_some hx
    rw [List.length_take] at hj
    rw [List.getElem?_take, if_pos (by omega)] at hx
    rw [hcell j (by omega)]
    simp [List.getD_eq_getElem?_getD, hx]
set_option maxRecDepth 100000 in
theorem open_rec {H : Type} {enc : TypeId × Value → H} {W : World} {b0 : Nat} {v : Value} {d : DataW H} {p : List MemPlace} (hv : Value.okWide Tryz.prog W .any b0 30 v)
    (h : DataW.Trod enc Tryz.prog W 0 (fun _ => true) true 30 v d p) : ∃ (a : Int) (A : Option Addr) (n c : Nat) (xs : List Int), v = .agg #[.int .i64 a, .slice A n c] ∧ Sl .i64 W A n c xs ∧ (A = none → c = 0) := by
  obtain ⟨cs, n, rfl, hl, hf⟩ := open_aggN Tryz.underlying30 (by kernel_rfl) (by kernel_rfl) hv h
  match cs, hl with
  | [c0, c1], _ =>
    obtain ⟨_, h0⟩ := hf 0 _ rfl
    obtain ⟨_, h1⟩ := hf 1 _ rfl
    obtain ⟨a, rfl⟩ := int_cellT (v := c0) Tryz.underlying3 h0
    obtain ⟨A, n, c, xs, rfl, hS, hA⟩ := ints_cell (v := c1) h1
    exact ⟨a, A, n, c, xs, rfl, hS, hA⟩
set_option maxRecDepth 100000 in
theorem open_recipe {H : Type} {enc : TypeId × Value → H} {W : World} {b0 : Nat} {v : Value} {d : DataW H} {p : List MemPlace} (hv : Value.okWide Tryz.prog W .any b0 33 v)
    (h : DataW.Trod enc Tryz.prog W 0 (fun _ => true) true 33 v d p) : ∃ (num den size step kind points : Int) (A : Option Addr) (n c : Nat) (es : List Int) (cep : Int) (diff ctr : Bool), v = rcV num den size step kind points (.slice A n c) cep diff ctr ∧ Sl .i64 W A n c es ∧ (A = none → c = 0) := by
  obtain ⟨cs, n, rfl, hl, hf⟩ := open_aggN Tryz.underlying33 (by kernel_rfl) (by kernel_rfl) hv h
  match cs, hl with
  | [c0, c1, c2, c3, c4, c5, c6, c7, c8, c9], _ =>
    obtain ⟨_, h0⟩ := hf 0 _ rfl
    obtain ⟨_, h1⟩ := hf 1 _ rfl
    obtain ⟨_, h2⟩ := hf 2 _ rfl
    obtain ⟨_, h3⟩ := hf 3 _ rfl
    obtain ⟨_, h4⟩ := hf 4 _ rfl
    obtain ⟨_, h5⟩ := hf 5 _ rfl
    obtain ⟨_, h6⟩ := hf 6 _ rfl
    obtain ⟨_, h7⟩ := hf 7 _ rfl
    obtain ⟨_, h8⟩ := hf 8 _ rfl
    obtain ⟨_, h9⟩ := hf 9 _ rfl
    obtain ⟨a0, rfl⟩ := int_cellT (v := c0) Tryz.underlying3 h0
    obtain ⟨a1, rfl⟩ := int_cellT (v := c1) Tryz.underlying3 h1
    obtain ⟨a2, rfl⟩ := int_cellT (v := c2) Tryz.underlying3 h2
    obtain ⟨a3, rfl⟩ := int_cellT (v := c3) Tryz.underlying3 h3
    obtain ⟨a4, rfl⟩ := int_cellT (v := c4) Tryz.underlying31 h4
    obtain ⟨a5, rfl⟩ := int_cellT (v := c5) Tryz.underlying3 h5
    obtain ⟨A, n, c, xs, rfl, hS, hA⟩ := ints_cell (v := c6) h6
    obtain ⟨a7, rfl⟩ := int_cellT (v := c7) Tryz.underlying3 h7
    obtain ⟨a8, rfl⟩ := bool_cell (v := c8) h8
    obtain ⟨a9, rfl⟩ := bool_cell (v := c9) h9
    exact ⟨a0, a1, a2, a3, a4, a5, A, n, c, xs, a7, a8, a9, rfl, hS, hA⟩
end Go.Proofs.YtoljffghaklpdaaGreatDoor
