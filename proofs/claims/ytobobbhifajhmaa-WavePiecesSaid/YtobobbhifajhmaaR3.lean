/- Arguments of a law: lists of integers, with the form of nil. -/
import Derived.Test.YtobobbhifajhmaaR2
namespace Go.Proofs.Ytobobbhifajhmaa
open Go.ChangeShapes Go.WideShapes Go.ChangeAt Go.RowKit

set_option maxRecDepth 100000 in
theorem open_sln {H : Type} {enc : TypeId × Value → H} {W : World} {b0 : Nat} {v : Value} {d : DataW H} {p : List MemPlace} (hv : Value.okWide Try.prog W .any b0 22 v)
    (h : DataW.Trod enc Try.prog W 0 (fun _ => true) true 22 v d p) : ∃ A n c xs, v = .slice A n c ∧ Sl .i64 W A n c xs ∧ (A = none → c = 0) := by
  obtain ⟨a0, len, cap, rfl⟩ := okWide_slice Try.underlying22 hv
  obtain ⟨fuel, hf⟩ := h
  rcases open_ints Try.underlying22 Try.underlying3 cells_int hf with ⟨hcs, _⟩ | ⟨a, len', cap', zs, hcs, _, hl, hm, hz, _, hcell, _⟩
  · have e : Value.slice a0 len cap = .slice none 0 0 := by simpa [Value.cells] using hcs
    rw [e]
    exact ⟨none, 0, 0, [], rfl, Sl.nil _ _, fun _ => rfl⟩
  · have e : Value.slice a0 len cap = .slice (some a) len' cap' := by simpa [Value.cells] using hcs
    rw [e]
    rw [if_pos rfl] at hz
    refine ⟨some a, len', cap', zs.take len', rfl, ⟨by rw [List.length_take]; omega, hl, by simpa [maxLen] using hm, fun _ => ⟨a, rfl, fun j x hx => ?_⟩⟩, fun e => by cases e⟩
    have hj := lt_of_some hx
    rw [List.length_take] at hj
    rw [List.getElem?_take, if_pos (by omega)] at hx
    rw [hcell j (by omega)]
    simp [List.getD_eq_getElem?_getD, hx]
end Go.Proofs.Ytobobbhifajhmaa
