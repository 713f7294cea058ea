/- The last step of a law's row: it returned true, and what was there before is as it was. -/
import Derived.Test.YtoljffghaklpdaaDoorRows
import Derived.WalkKit
import Derived.ProofKit
import Derived.OpenShut
import Derived.Carry
import Derived.ChangeSame
import Derived.Test.YtoljffghaklpdaaDoorCards
import Derived.Test.YtoljffghaklpdaaDoorTie
import Derived.Test.YtoljffghaklpdaaDoorGE
import Derived.Deep.Matrix
import Derived.Deep.DeepHandedRow
import Derived.Lib.LaidTab
namespace Go.Proofs.YtoljffghaklpdaaDoor
open Go.ChangeShapes Go.WideShapes Go.ChangeAt Go.RowKit

section
variable {H : Type} {enc : TypeId × Value → H} {P : Program}
theorem trodAll_stays (hl : laidOutB P = true) {W W' : World} (hb : Below W.heap.size W W') : ∀ {ts : List TypeId} {vs : List Value} {ds : List (DataW H)} {ps : List MemPlace},
    (∀ t ∈ ts, P.readableRec t = true ∧ t < P.types.size) → DataW.TrodAll enc P W 0 (fun _ => true) true ts vs ds ps → (∀ x ∈ ps, x.block < W.heap.size) → ∀ {sp : Nat → Bool}, (∀ x ∈ ps, sp x.block = true) → DataW.TrodAll enc P W' 0 sp true ts vs ds ps
  | [], [], [], _, _, h, _, _, _ => h
  | _ :: _, _ :: _, _ :: _, _, hT, ⟨p, q, h1, h2, e⟩, hlt, sp, hs =>
    ⟨p, q, WideElems.Trod_stays hl (hT _ (List.mem_cons.2 (Or.inl rfl))).1 (hT _ (List.mem_cons.2 (Or.inl rfl))).2 h1 (fun x hx => hb.same (hlt x (by rw [e]; exact List.mem_append_left _ hx))) (fun x hx => hs x (by rw [e]; exact List.mem_append_left _ hx)),
      trodAll_stays hl hb (fun t ht => hT t (List.mem_cons.2 (Or.inr ht))) h2 (fun x hx => hlt x (by rw [e]; exact List.mem_append_right _ hx)) (fun x hx => hs x (by rw [e]; exact List.mem_append_right _ hx)), e⟩
end

theorem ownK : ownKnob Tryd.prog.godebug = none := by kernel_rfl
theorem laidOut : laidOutB Tryd.prog = true := by kernel_rfl

set_option maxRecDepth 100000 in
/-- a law that returned true and wrote nothing that was there -/
theorem law_done {H : Type} {enc : TypeId × Value → H} {f : Func} {s : ChangeSpec} (hv : s.vars = []) (hT : (f.params.toList.all fun t => Tryd.prog.readableRec t && decide (t < Tryd.prog.types.size)) = true) (hr : f.resultTypes = #[4])
    {W W' : World} {args : Array Value} {ds gs : List (DataW H)} {before : List MemPlace} (hW : DataW.Whole enc Tryd.prog f.params.toList s.vars false W args.toList ds gs before)
    (hs1 : (s.fn H (ds ++ gs)).results = [.lit (.bool true)]) (hs2 : (s.fn H (ds ++ gs)).args = ds) (hs3 : (s.fn H (ds ++ gs)).vars = []) (hb : Below W.heap.size W W') :
    s.post enc Tryd.prog f false true false false W args (.bool true) W' := by
  have hW' := hW
  obtain ⟨p, q, hA, hV, rfl, hfz, hnd⟩ := hW
  rw [hv] at hV
  obtain ⟨rfl, rfl⟩ := trodVars_none hV
  have hlt : ∀ x ∈ p ++ [], x.block < W.heap.size := fun x hx => hW'.lt x hx
  have hT' : ∀ t ∈ f.params.toList, Tryd.prog.readableRec t = true ∧ t < Tryd.prog.types.size := fun t ht => by
    have := List.all_eq_true.1 hT t ht
    simpa using this
  have args_at : ∀ sp : Nat → Bool, (∀ x ∈ p, sp x.block = true) → DataW.TrodAll enc Tryd.prog W' 0 sp true f.params.toList args.toList (s.fn H (ds ++ [])).args p := fun sp hsp => by
    rw [hs2]
    exact trodAll_stays laidOut hb hT' hA (fun x hx => hlt x (by simpa using hx)) hsp
  have vars_at : ∀ sp : Nat → Bool, DataW.TrodVars enc Tryd.prog W' sp s.vars (s.fn H (ds ++ [])).vars [] := fun sp => by rw [hv, hs3]; rfl
  have res_at : ∀ (b : Nat) (sp : Nat → Bool) (hd : Bool), DataW.TrodAll enc Tryd.prog W' b sp hd f.resultTypes.toList ((Value.bool true).resultList f.resultTypes.size) (s.fn H (ds ++ [])).results [] := fun b sp hd => by
    rw [hs1, hr]
    exact trodAll_cons_mk (shut_bool Tryd.underlying4 _) trodAll_mk0
  have inp : ∀ x ∈ p ++ [], x ∈ p := fun x hx => by simpa using hx
  refine ⟨ds, [], p ++ [], [], p, [], hW', res_at _ _ _, args_at _ (fun x hx => ?_), vars_at _, World.keptBut_mono (fun x hx => ⟨hx, .inr (by simpa using hx)⟩) (hb.frame (· ∈ p ++ [])), fun _ => ⟨ok_one hr rfl (okWide_bool_mk Tryd.underlying4 _), _, _, [] ++ p ++ [], ⟨[] ++ p, [], trodAll_append (args_at _ (fun _ _ => rfl)) (res_at _ _ _), vars_at _, rfl, ?_, ?_⟩, ?_⟩⟩
  · simpa using hlt x (by simpa using hx)
  · intro b off hx
    have hin : MemPlace.cell b off ∈ p ++ [] := by simpa using hx
    rw [hb.frozen (hlt _ hin)]
    exact hfz b off hin
  · intro h; cases h
  · intro x hx _
    simpa using hx
end Go.Proofs.YtoljffghaklpdaaDoor


/- Rows that list the table of cosines: the world of the witness, arguments, the table's facts. -/
namespace Go.Proofs.YtoljffghaklpdaaDoor
open Go.ChangeShapes Go.WideShapes Go.ChangeAt Go.RowKit Go.Deep

theorem gTab : Tryd.prog.globalNamed "earshot/api.Cosines" = some 0 := by kernel_rfl
theorem gTabType : (Tryd.prog.globals[0]?).map (·.type) = some 69 := by kernel_rfl
theorem cells_tab : Tryd.prog.cellsOf 69 = 65 := by kernel_rfl
theorem cells_int : Tryd.prog.cellsOf 3 = 1 := by kernel_rfl
theorem tab_of {W : World} (h : laidMetH Tryd.prog [("earshot/api.Cosines", Rows.laid_earshot_api_Cosines)] W) : Tab W := by
  have ht : Lib.TabIs Tryd.prog W "earshot/api.Cosines" .i64 cosL := Lib.tabIs_of_head (rest := []) gTab gTabType Tryd.underlying69 Tryd.underlying3 cells_int cells_tab h
  intro j hj
  exact ht.cell gTab j hj

noncomputable def laidWorld (os : Os) : World :=
  { World.holding Tryd.prog os ⟨#[], #[], []⟩ with heap := (World.holding Tryd.prog os ⟨#[], #[], []⟩).heap.modify 0 fun
      | .cells _ t frozen => .cells (cosL.map fun (x : Int) => Value.int .i64 x).toArray t frozen
      | o => o }

set_option maxRecDepth 100000 in
theorem open_sln {H : Type} {enc : TypeId × Value → H} {W : World} {b0 : Nat} {v : Value} {d : DataW H} {p : List MemPlace} (hv : Value.okWide Tryd.prog W .any b0 30 v)
    (h : DataW.Trod enc Tryd.prog W 0 (fun _ => true) true 30 v d p) : ∃ A n c xs, v = .slice A n c ∧ Sl .i64 W A n c xs ∧ (A = none → c = 0) := by
  obtain ⟨a0, len, cap, rfl⟩ := okWide_slice Tryd.underlying30 hv
  obtain ⟨fuel, hf⟩ := h
  rcases open_ints Tryd.underlying30 Tryd.underlying3 cells_int hf with ⟨hcs, _⟩ | ⟨a, len', cap', zs, hcs, _, hl, hm, hz, _, hcell, _⟩
  · have e : Value.slice a0 len cap = .slice none 0 0 := by simpa [Value.cells] using hcs
    rw [e]
    exact ⟨none, 0, 0, [], rfl, Sl.nil _ _, fun _ => rfl⟩
  · have e : Value.slice a0 len cap = .slice (some a) len' cap' := by simpa [Value.cells] using hcs
    rw [e]
    rw [if_pos rfl] at hz
    refine ⟨some a, len', cap', zs.take len', rfl, ⟨by rw [List.length_take]; omega, hl, by simpa [maxLen] using hm, fun _ => ⟨a, rfl, fun j x hx => ?_⟩⟩, fun e => by cases e⟩
    have hj := lt_of_some hx
    rw [List.length_take] at hj
    rw [List.getElem?_take, if_pos (by omega)] at hx
    rw [hcell j (by omega)]
    simp [List.getD_eq_getElem?_getD, hx]
theorem weightsAll_mem {H : Type} {P : Program} {e : TypeId} {x : Nat} : ∀ {ds : List (DataW H)} {d : DataW H}, d ∈ ds → x ∈ d.weights P e → x ∈ DataW.weightsAll P e ds
  | [], _, h, _ => by simp at h
  | d' :: ds, d, h, hx => by
    unfold DataW.weightsAll
    rcases List.mem_cons.1 h with rfl | h
    · exact List.mem_append_left _ hx
    · exact List.mem_append_right _ (weightsAll_mem h hx)
theorem bytes_int : Tryd.prog.bytesOf 3 = 8 := by kernel_rfl
theorem cells_sl : Tryd.prog.cellsOf 30 = 1 := by kernel_rfl

set_option maxRecDepth 100000 in
theorem open_rows {H : Type} {enc : TypeId × Value → H} {W : World} {b0 : Nat} {v : Value} {d : DataW H} {p : List MemPlace} (hv : Value.okWide Tryd.prog W .any b0 46 v)
    (h : DataW.Trod enc Tryd.prog W 0 (fun _ => true) true 46 v d p) (hsz : ∀ x ∈ d.weights Tryd.prog 46, x ≤ reachBytes) : ∃ A n c B L C X, v = .slice A n c ∧ Rs W A n c B L C X ∧ (A = none → c = 0) := by
  obtain ⟨a0, len, cap, rfl⟩ := okWide_slice Tryd.underlying46 hv
  obtain ⟨fuel, hf⟩ := h
  rcases open_int_rows Tryd.underlying46 Tryd.underlying30 Tryd.underlying3 cells_sl cells_int hf with ⟨hcs, _⟩ | ⟨a, len', cap', B, L, C, Z, hcs, _, hl, hm, hx, hr⟩
  · have e : Value.slice a0 len cap = .slice none 0 0 := by simpa [Value.cells] using hcs
    rw [e]
    exact ⟨none, 0, 0, fun _ => none, fun _ => 0, fun _ => 0, fun _ => [], rfl, ⟨Nat.le_refl _, by decide, fun h => absurd h (by omega), fun r h => absurd h (by omega), fun r h => absurd h (by omega), fun r h => absurd h (by omega)⟩, fun _ => rfl⟩
  · have e : Value.slice a0 len cap = .slice (some a) len' cap' := by simpa [Value.cells] using hcs
    rw [e]
    refine ⟨some a, len', cap', B, L, C, fun r => (Z r).take (L r), rfl, ⟨hl, by simpa [maxLen] using hm, fun _ => ⟨a, rfl, fun r h => (hr r (by omega)).1⟩, fun r h => ?_, fun r h => (hr r (by omega)).2.2.2.2.2.1, fun r h => ?_⟩, fun e => by cases e⟩
    · obtain ⟨h1, h2, h3, h4, h5, h6, h7⟩ := hr r (by omega)
      refine ⟨by rw [List.length_take]; omega, h2, by simpa [maxLen] using h3, fun hp => ?_⟩
      cases hB : B r with
      | none => have := h6 hB; omega
      | some ad =>
        refine ⟨ad, rfl, fun j x hx => ?_⟩
        have hj := lt_of_some hx
        rw [List.length_take] at hj
        rw [List.getElem?_take, if_pos (by omega)] at hx
        rw [(h7 ad hB).2 j (by omega)]
        simp [List.getD_eq_getElem?_getD, hx]
    · obtain ⟨h1, h2, h3, h4, h5, h6, h7⟩ := hr r (by omega)
      cases hB : B r with
      | none => have := h6 hB; omega
      | some ad =>
        have hd : d = .slice ((List.range len').map fun r => intRow .i64 (B r) (L r) (Z r)) ((List.range (cap' - len')).map fun j => intRow .i64 (B (len' + j)) (L (len' + j)) (Z (len' + j))) := (Prod.mk.inj hx).1
        have := hsz (C r * 8) (by
          rw [hd]
          unfold DataW.weights
          rw [Tryd.underlying46]
          refine List.mem_cons_of_mem _ (List.mem_append_left _ (weightsAll_mem (List.mem_map.2 ⟨r, List.mem_range.2 h, rfl⟩) ?_))
          rw [hB]
          unfold intRow
          simp [DataW.weights, Tryd.underlying30, bytes_int, lits, h4]
          omega)
        have h8 := reachBytes_lt
        omega

set_option maxRecDepth 100000 in
theorem open_rr {H : Type} {enc : TypeId × Value → H} {W : World} {b0 : Nat} {v : Value} {d : DataW H} {p : List MemPlace} (hv : Value.okWide Tryd.prog W .any b0 46 v)
    (h : DataW.Trod enc Tryd.prog W 0 (fun _ => true) true 46 v d p) (hsz : ∀ x ∈ d.weights Tryd.prog 46, x ≤ reachBytes) : ∃ A n c vs, v = .slice A n c ∧ Rr W A n c vs := by
  obtain ⟨A, n, c, B, L, C, X, e, hR, hz⟩ := open_rows hv h hsz
  exact ⟨A, n, c, _, e, Rr.of_rs hR hz⟩
end Go.Proofs.YtoljffghaklpdaaDoor
