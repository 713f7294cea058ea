/- Recordings and segments as arguments; the document's own check of a recording. -/
import Derived.Test.YtobobbhifajhmaaR2
import Derived.Test.YtobobbhifajhmaaF0
import Derived.Test.YtobobbhifajhmaaV1
namespace Go.Proofs.Ytobobbhifajhmaa
open Go.ChangeShapes Go.WideShapes Go.ChangeAt Go.RowKit Go.Joins Go.Deep

set_option maxRecDepth 100000 in
theorem open_rec {H : Type} {enc : TypeId × Value → H} {W : World} {b0 : Nat} {v : Value} {d : DataW H} {p : List MemPlace} (hv : Value.okWide Try.prog W .any b0 24 v)
    (h : DataW.Trod enc Try.prog W 0 (fun _ => true) true 24 v d p) : ∃ (a : Int) (A : Option Addr) (n c : Nat) (xs : List Int), v = .agg #[.int .i64 a, .slice A n c] ∧ Sl .i64 W A n c xs := by
  obtain ⟨cs, n, rfl, hl, hf⟩ := open_aggN Try.underlying24 (by kernel_rfl) (by kernel_rfl) hv h
  match cs, hl with
  | [c0, c1], _ =>
    obtain ⟨_, h0⟩ := hf 0 _ rfl
    obtain ⟨_, h1⟩ := hf 1 _ rfl
    obtain ⟨a, rfl⟩ := int_cell (v := c0) h0
    have h1' : DataW.trod enc Try.prog W 0 (fun _ => true) true n 22 [c1] = some _ := h1
    rcases open_ints Try.underlying22 Try.underlying3 cells_int h1' with ⟨hcs, _⟩ | ⟨ad, len', cap', zs, hcs, _, hl, hm, hz, _, hcell, _⟩
    · have e : c1 = .slice none 0 0 := by simpa using hcs
      subst e
      exact ⟨a, none, 0, 0, [], rfl, Sl.nil _ _⟩
    · have e : c1 = .slice (some ad) len' cap' := by simpa using hcs
      subst e
      rw [if_pos rfl] at hz
      refine ⟨a, some ad, len', cap', zs.take len', rfl, by rw [List.length_take]; omega, hl, by simpa [maxLen] using hm, fun _ => ⟨ad, rfl, fun j x hx => ?_⟩⟩
      have hj := lt_of_some hx
      rw [List.length_take] at hj
      rw [List.getElem?_take, if_pos (by omega)] at hx
      rw [hcell j (by omega)]
      simp [List.getD_eq_getElem?_getD, hx]
set_option maxRecDepth 100000 in
theorem open_seg {H : Type} {enc : TypeId × Value → H} {W : World} {b0 : Nat} {v : Value} {d : DataW H} {p : List MemPlace} (hv : Value.okWide Try.prog W .any b0 84 v)
    (h : DataW.Trod enc Try.prog W 0 (fun _ => true) true 84 v d p) : ∃ a b : Int, v = .agg #[.int .i64 a, .int .i64 b] := by
  obtain ⟨cs, n, rfl, hl, hf⟩ := open_aggN Try.underlying84 (by kernel_rfl) (by kernel_rfl) hv h
  match cs, hl with
  | [c0, c1], _ =>
    obtain ⟨_, h0⟩ := hf 0 _ rfl
    obtain ⟨_, h1⟩ := hf 1 _ rfl
    obtain ⟨a, rfl⟩ := int_cell (v := c0) h0
    obtain ⟨b, rfl⟩ := int_cell (v := c1) h1
    exact ⟨a, b, rfl⟩
end Go.Proofs.Ytobobbhifajhmaa
