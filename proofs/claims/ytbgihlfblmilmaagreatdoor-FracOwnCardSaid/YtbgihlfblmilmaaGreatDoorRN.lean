/- Rows of frac: numbers as arguments, with what a nil slice of digits says. -/
import Derived.Test.YtbgihlfblmilmaaGreatDoorRF
namespace Go.Proofs.YtbgihlfblmilmaaGreatDoor
open Go.ChangeShapes Go.WideShapes Go.ChangeAt Go.RowKit Go.Deep

set_option maxRecDepth 100000 in
theorem open_dgn {H : Type} {enc : TypeId × Value → H} {W : World} {v : Value} {n : Nat} {y : DataW H × List MemPlace} (h : DataW.trod enc Tryz.prog W 0 (fun _ => true) true n 22 [v] = some y) :
    ∃ A m c xs, v = .slice A m c ∧ Fr.Dg .u32 W A m c xs ∧ (A = none → c = 0) := by
  rcases open_ints Tryz.underlying22 Tryz.underlying63 cells_u32 h with ⟨hcs, _⟩ | ⟨a, len, cap, zs, hcs, _, hl, hm, hz, _, hcell, hwf⟩
  · injection hcs with e
    exact ⟨none, 0, 0, [], e, Fr.Dg.nil .u32 W, fun _ => rfl⟩
  · injection hcs with e
    rw [if_pos rfl] at hz
    refine ⟨some a, len, cap, (zs.take len).map Int.toNat, e, ⟨by rw [List.length_map, List.length_take]; omega, hl, by simpa [maxLen] using hm, fun x hx => ?_, fun _ => ⟨a, rfl, fun j x hx => ?_⟩⟩, fun h => by cases h⟩
    · obtain ⟨z, hz1, rfl⟩ := List.mem_map.1 hx
      have := wf_u32 (hwf z (List.mem_of_mem_take hz1))
      show z.toNat < 4294967296
      omega
    · have hj : j < len := by
        rcases Nat.lt_or_ge j len with h9 | h9
        · exact h9
        · rw [List.getElem?_eq_none (by rw [List.length_map, List.length_take]; omega)] at hx; cases hx
      rw [List.getElem?_map, List.getElem?_take, if_pos hj, List.getElem?_eq_getElem (show j < zs.length by omega)] at hx
      simp only [Option.map_some, Option.some.injEq] at hx
      rw [hcell j (by omega), List.getD_eq_getElem?_getD, List.getElem?_eq_getElem (show j < zs.length by omega), Option.getD_some]
      have := wf_u32 (hwf _ (List.getElem_mem (show j < zs.length by omega)))
      rw [← hx, Int.toNat_of_nonneg this.1]
set_option maxRecDepth 100000 in
theorem open_fracn {H : Type} {enc : TypeId × Value → H} {W : World} {b0 : Nat} {v : Value} {d : DataW H} {p : List MemPlace} (hv : Value.okWide Tryz.prog W .any b0 24 v)
    (h : DataW.Trod enc Tryz.prog W 0 (fun _ => true) true 24 v d p) : ∃ s A n c B m e xs ys, v = .agg #[.bool s, .slice A n c, .slice B m e] ∧ Fr.Dg .u32 W A n c xs ∧ Fr.Dg .u32 W B m e ys ∧ (A = none → c = 0) ∧ (B = none → e = 0) := by
  obtain ⟨v0, v1, v2, y0, y1, y2, n, rfl, _, _, h0, h1, h2⟩ := Joins.open_agg3 Tryz.underlying24 (by kernel_rfl) (by kernel_rfl) hv h
  obtain ⟨s, hs, _⟩ := DataW.trod_bool Tryz.underlying4 h0
  injection hs with hs
  subst hs
  obtain ⟨A, n1, c1, xs, rfl, hx, ha⟩ := open_dgn h1
  obtain ⟨B, n2, c2, ys, rfl, hy, hb⟩ := open_dgn h2
  exact ⟨s, A, n1, c1, B, n2, c2, xs, ys, rfl, hx, hy, ha, hb⟩
end Go.Proofs.YtbgihlfblmilmaaGreatDoor
