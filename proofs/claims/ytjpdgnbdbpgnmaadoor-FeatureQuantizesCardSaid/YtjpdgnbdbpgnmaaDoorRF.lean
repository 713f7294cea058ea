/- Rows that list the table of cosines: the world of the witness, arguments, the table's facts. -/
import Derived.Test.YtjpdgnbdbpgnmaaDoorCards
import Derived.Test.YtjpdgnbdbpgnmaaDoorTie
import Derived.Test.YtjpdgnbdbpgnmaaDoorR0
import Derived.Test.YtjpdgnbdbpgnmaaDoorGI
import Derived.Deep.Matrix
import Derived.Deep.DeepHandedRow
import Derived.Lib.LaidTab
namespace Go.Proofs.YtjpdgnbdbpgnmaaDoor
open Go.ChangeShapes Go.WideShapes Go.ChangeAt Go.RowKit Go.Deep

theorem gTab : Tryd.prog.globalNamed "earshot/api.Cosines" = some 0 := by kernel_rfl
theorem gTabType : (Tryd.prog.globals[0]?).map (·.type) = some 69 := by kernel_rfl
theorem cells_tab : Tryd.prog.cellsOf 69 = 65 := by kernel_rfl
theorem cells_int : Tryd.prog.cellsOf 3 = 1 := by kernel_rfl
theorem tab_of {W : World} (h : laidMetH Tryd.prog [("earshot/api.Cosines", Rows.laid_earshot_api_Cosines)] W) : Tab W := by
  have ht : Lib.TabIs Tryd.prog W "earshot/api.Cosines" .i64 cosL := Lib.tabIs_of_head (rest := []) gTab gTabType Tryd.underlying69 Tryd.underlying3 cells_int cells_tab h
  intro j hj
  exact ht.cell gTab j hj

noncomputable def laidWorld (os : Os) : World :=
  { World.holding Tryd.prog os ⟨#[], #[], []⟩ with heap := (World.holding Tryd.prog os ⟨#[], #[], []⟩).heap.modify 0 fun
      | .cells _ t frozen => .cells (cosL.map fun (x : Int) => Value.int .i64 x).toArray t frozen
      | o => o }

set_option maxRecDepth 100000 in
theorem open_sln {H : Type} {enc : TypeId × Value → H} {W : World} {b0 : Nat} {v : Value} {d : DataW H} {p : List MemPlace} (hv : Value.okWide Tryd.prog W .any b0 30 v)
    (h : DataW.Trod enc Tryd.prog W 0 (fun _ => true) true 30 v d p) : ∃ A n c xs, v = .slice A n c ∧ Sl .i64 W A n c xs ∧ (A = none → c = 0) := by
  obtain ⟨a0, len, cap, rfl⟩ := okWide_slice Tryd.underlying30 hv
  obtain ⟨fuel, hf⟩ := h
  rcases open_ints Tryd.underlying30 Tryd.underlying3 cells_int hf with ⟨hcs, _⟩ | ⟨a, len', cap', zs, hcs, _, hl, hm, hz, _, hcell, _⟩
  · have e : Value.slice a0 len cap = .slice none 0 0 := by simpa [Value.cells] using hcs
    rw [e]
    exact ⟨none, 0, 0, [], rfl, Sl.nil _ _, fun _ => rfl⟩
  · have e : Value.slice a0 len cap = .slice (some a) len' cap' := by simpa [Value.cells] using hcs
    rw [e]
    rw [if_pos rfl] at hz
    refine ⟨some a, len', cap', zs.take len', rfl, ⟨by rw [List.length_take]; omega, hl, by simpa [maxLen] using hm, fun _ => ⟨a, rfl, fun j x hx => ?_⟩⟩, fun e => by cases e⟩
    have hj := lt_of_some hx
    rw [List.length_take] at hj
    rw [List.getElem?_take, if_pos (by omega)] at hx
    rw [hcell j (by omega)]
    simp [List.getD_eq_getElem?_getD, hx]
theorem weightsAll_mem {H : Type} {P : Program} {e : TypeId} {x : Nat} : ∀ {ds : List (DataW H)} {d : DataW H}, d ∈ ds → x ∈ d.weights P e → x ∈ DataW.weightsAll P e ds
  | [], _, h, _ => by simp at h
  | d' :: ds, d, h, hx => by
    unfold DataW.weightsAll
    rcases List.mem_cons.1 h with rfl | h
    · exact List.mem_append_left _ hx
    · exact List.mem_append_right _ (weightsAll_mem h hx)
theorem bytes_int : Tryd.prog.bytesOf 3 = 8 := by kernel_rfl
theorem cells_sl : Tryd.prog.cellsOf 30 = 1 := by kernel_rfl

set_option maxRecDepth 100000 in
theorem open_rows {H : Type} {enc : TypeId × Value → H} {W : World} {b0 : Nat} {v : Value} {d : DataW H} {p : List MemPlace} (hv : Value.okWide Tryd.prog W .any b0 46 v)
    (h : DataW.Trod enc Tryd.prog W 0 (fun _ => true) true 46 v d p) (hsz : ∀ x ∈ d.weights Tryd.prog 46, x ≤ reachBytes) : ∃ A n c B L C X, v = .slice A n c ∧ Rs W A n c B L C X ∧ (A = none → c = 0) := by
  obtain ⟨a0, len, cap, rfl⟩ := okWide_slice Tryd.underlying46 hv
  obtain ⟨fuel, hf⟩ := h
  rcases open_int_rows Tryd.underlying46 Tryd.underlying30 Tryd.underlying3 cells_sl cells_int hf with ⟨hcs, _⟩ | ⟨a, len', cap', B, L, C, Z, hcs, _, hl, hm, hx, hr⟩
  · have e : Value.slice a0 len cap = .slice none 0 0 := by simpa [Value.cells] using hcs
    rw [e]
    exact ⟨none, 0, 0, fun _ => none, fun _ => 0, fun _ => 0, fun _ => [], rfl, ⟨Nat.le_refl _, by decide, fun h => absurd h (by omega), fun r h => absurd h (by omega), fun r h => absurd h (by omega), fun r h => absurd h (by omega)⟩, fun _ => rfl⟩
  · have e : Value.slice a0 len cap = .slice (some a) len' cap' := by simpa [Value.cells] using hcs
    rw [e]
    refine ⟨some a, len', cap', B, L, C, fun r => (Z r).take (L r), rfl, ⟨hl, by simpa [maxLen] using hm, fun _ => ⟨a, rfl, fun r h => (hr r (by omega)).1⟩, fun r h => ?_, fun r h => (hr r (by omega)).2.2.2.2.2.1, fun r h => ?_⟩, fun e => by cases e⟩
    · obtain ⟨h1, h2, h3, h4, h5, h6, h7⟩ := hr r (by omega)
      refine ⟨by rw [List.length_take]; omega, h2, by simpa [maxLen] using h3, fun hp => ?_⟩
      cases hB : B r with
      | none => have := h6 hB; omega
      | some ad =>
        refine ⟨ad, rfl, fun j x hx => ?_⟩
        have hj := lt_of_some hx
        rw [List.length_take] at hj
        rw [List.getElem?_take, if_pos (by omega)] at hx
        rw [(h7 ad hB).2 j (by omega)]
        simp [List.getD_eq_getElem?_getD, hx]
    · obtain ⟨h1, h2, h3, h4, h5, h6, h7⟩ := hr r (by omega)
      cases hB : B r with
      | none => have := h6 hB; omega
      | some ad =>
        have hd : d = .slice ((List.range len').map fun r => intRow .i64 (B r) (L r) (Z r)) ((List.range (cap' - len')).map fun j => intRow .i64 (B (len' + j)) (L (len' + j)) (Z (len' + j))) := (Prod.mk.inj hx).1
        have := hsz (C r * 8) (by
          rw [hd]
          unfold DataW.weights
          rw [Tryd.underlying46]
          refine List.mem_cons_of_mem _ (List.mem_append_left _ (weightsAll_mem (List.mem_map.2 ⟨r, List.mem_range.2 h, rfl⟩) ?_))
          rw [hB]
          unfold intRow
          simp [DataW.weights, Tryd.underlying30, bytes_int, lits, h4]
          omega)
        have h8 := reachBytes_lt
        omega

set_option maxRecDepth 100000 in
theorem open_rr {H : Type} {enc : TypeId × Value → H} {W : World} {b0 : Nat} {v : Value} {d : DataW H} {p : List MemPlace} (hv : Value.okWide Tryd.prog W .any b0 46 v)
    (h : DataW.Trod enc Tryd.prog W 0 (fun _ => true) true 46 v d p) (hsz : ∀ x ∈ d.weights Tryd.prog 46, x ≤ reachBytes) : ∃ A n c vs, v = .slice A n c ∧ Rr W A n c vs := by
  obtain ⟨A, n, c, B, L, C, X, e, hR, hz⟩ := open_rows hv h hsz
  exact ⟨A, n, c, _, e, Rr.of_rs hR hz⟩
end Go.Proofs.YtjpdgnbdbpgnmaaDoor
