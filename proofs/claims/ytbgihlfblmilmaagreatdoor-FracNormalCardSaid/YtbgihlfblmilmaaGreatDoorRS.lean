/- Rows of frac: lists of numbers as arguments. -/
import Derived.Test.YtbgihlfblmilmaaGreatDoorRF
import Derived.Test.YtbgihlfblmilmaaGreatDoorLI
namespace Go.Proofs.YtbgihlfblmilmaaGreatDoor
open Go.ChangeShapes Go.WideShapes Go.ChangeAt Go.RowKit Go.Deep

theorem cells_fr : Tryz.prog.cellsOf 24 = 3 := by kernel_rfl
theorem cells_bo : Tryz.prog.cellsOf 4 = 1 := by kernel_rfl
theorem cells_su : Tryz.prog.cellsOf 22 = 1 := by kernel_rfl
theorem cells3 {w : World} {base : Nat} {a : Addr} {cs : List Value} (h : w.cells? base a 3 = some cs) : ∃ x y z, cs = [x, y, z] ∧ w.cell? a = some x ∧ w.cell? ⟨a.block, a.off + 1, none⟩ = some y ∧ w.cell? ⟨a.block, a.off + 2, none⟩ = some z := by
  unfold World.cells? at h
  split at h
  · have e0 : a.add 0 = a := rfl
    have e1 : a.add 1 = ⟨a.block, a.off + 1, none⟩ := rfl
    have e2 : a.add 2 = ⟨a.block, a.off + 2, none⟩ := rfl
    simp only [List.range_succ, List.range_zero, List.nil_append, List.cons_append, List.mapM_cons, List.mapM_nil, e0, e1, e2] at h
    cases h0 : w.cell? a with
    | none => simp [h0] at h
    | some x =>
      cases h1 : w.cell? ⟨a.block, a.off + 1, none⟩ with
      | none => simp [h0, h1] at h
      | some y =>
        cases h2 : w.cell? ⟨a.block, a.off + 2, none⟩ with
        | none => simp [h0, h1, h2] at h
        | some z =>
          simp [h0, h1, h2] at h
          exact ⟨x, y, z, h.symm, rfl, rfl, rfl⟩
  · cases h
set_option maxRecDepth 100000 in
theorem open_fracs {H : Type} {enc : TypeId × Value → H} {W : World} {b0 : Nat} {v : Value} {d : DataW H} {p : List MemPlace} (hv : Value.okWide Tryz.prog W .any b0 49 v)
    (h : DataW.Trod enc Tryz.prog W 0 (fun _ => true) true 49 v d p) : ∃ A n c, v = .slice A n c ∧ Fr.Fa W A n c := by
  obtain ⟨a0, len, cap, rfl⟩ := okWide_slice Tryz.underlying49 hv
  obtain ⟨fuel, hf⟩ := h
  rcases DataW.trod_slice Tryz.underlying49 hf with ⟨hcs, _⟩ | ⟨a, len', cap', elems, rest, n, _, hcs, _, _, hl, hm, hlen, hel, _⟩
  · have e : Value.slice a0 len cap = .slice none 0 0 := by simpa [Value.cells] using hcs
    rw [e]
    exact ⟨none, 0, 0, rfl, Nat.le_refl _, by decide, fun h => absurd h (by omega)⟩
  · have e : Value.slice a0 len cap = .slice (some a) len' cap' := by simpa [Value.cells] using hcs
    rw [e]
    refine ⟨some a, len', cap', rfl, hl, by simpa [maxLen] using hm, fun _ => ⟨a, rfl, fun j hj => ?_⟩⟩
    have hE := hel j hj
    rw [cells_fr] at hE
    have hs : ∃ y, elems[j]? = some y := ⟨elems[j]'(by omega), List.getElem?_eq_getElem (by omega)⟩
    obtain ⟨y, hy⟩ := hs
    rw [hy] at hE
    simp only [Option.bind_eq_some_iff] at hE
    obtain ⟨cs, hc, ht⟩ := hE
    obtain ⟨x0, x1, x2, rfl, h0, h1, h2⟩ := cells3 hc
    obtain ⟨xs, m, _, _, _, hxl, hfs⟩ := DataW.trod_struct Tryz.underlying24 ht
    have q0 := hfs 0 _ rfl
    have q1 := hfs 1 _ rfl
    have q2 := hfs 2 _ rfl
    have hx0 : ∃ z, xs[0]? = some z := ⟨xs[0]'(by rw [hxl]; decide), List.getElem?_eq_getElem _⟩
    have hx1 : ∃ z, xs[1]? = some z := ⟨xs[1]'(by rw [hxl]; decide), List.getElem?_eq_getElem _⟩
    have hx2 : ∃ z, xs[2]? = some z := ⟨xs[2]'(by rw [hxl]; decide), List.getElem?_eq_getElem _⟩
    obtain ⟨z0, hx0⟩ := hx0
    obtain ⟨z1, hx1⟩ := hx1
    obtain ⟨z2, hx2⟩ := hx2
    rw [hx0] at q0
    rw [hx1] at q1
    rw [hx2] at q2
    have r0 : DataW.trod enc Tryz.prog W 0 (fun _ => true) true m 4 [x0] = some z0 := by
      have : (([x0, x1, x2] : List Value).drop 0).take (Tryz.prog.cellsOf 4) = [x0] := by rw [cells_bo]; rfl
      rw [← this]; exact q0
    have r1 : DataW.trod enc Tryz.prog W 0 (fun _ => true) true m 22 [x1] = some z1 := by
      have : (([x0, x1, x2] : List Value).drop 1).take (Tryz.prog.cellsOf 22) = [x1] := by rw [cells_su]; rfl
      rw [← this]; exact q1
    have r2 : DataW.trod enc Tryz.prog W 0 (fun _ => true) true m 22 [x2] = some z2 := by
      have : (([x0, x1, x2] : List Value).drop 2).take (Tryz.prog.cellsOf 22) = [x2] := by rw [cells_su]; rfl
      rw [← this]; exact q2
    obtain ⟨s, hs, _⟩ := DataW.trod_bool Tryz.underlying4 r0
    injection hs with hs
    subst hs
    obtain ⟨A1, n1, c1, u1, rfl, hu1⟩ := open_dg r1
    obtain ⟨A2, n2, c2, u2, rfl, hu2⟩ := open_dg r2
    exact ⟨s, A1, n1, c1, A2, n2, c2, u1, u2, h0, h1, h2, hu1, hu2⟩
end Go.Proofs.YtbgihlfblmilmaaGreatDoor
