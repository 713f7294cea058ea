/- Arguments of a law: lists of lists of integers. -/
import Derived.Test.YtobobbhifajhmaaR3
import Derived.Deep.Matrix
namespace Go.Proofs.Ytobobbhifajhmaa
open Go.ChangeShapes Go.WideShapes Go.ChangeAt Go.RowKit Go.Deep

/-- the slice value reads as n rows; row r is the slice value (B r, L r, C r) and reads as X r -/
structure Rs (w : World) (A : Option Addr) (n c : Nat) (B : Nat → Option Addr) (L C : Nat → Nat) (X : Nat → List Int) : Prop where
  cap : n ≤ c
  top : c ≤ 9223372036854775807
  cell : 0 < n → ∃ ad, A = some ad ∧ ∀ r, r < n → w.cell? (ad.add r) = some (.slice (B r) (L r) (C r))
  row : ∀ r, r < n → Sl .i64 w (B r) (L r) (C r) (X r)
  nil : ∀ r, r < n → B r = none → C r = 0
  few : ∀ r, r < n → L r ≤ 17592186044416
theorem Rs.below {w w' : World} {A : Option Addr} {n c : Nat} {B : Nat → Option Addr} {L C : Nat → Nat} {X : Nat → List Int} (h : Rs w A n c B L C X) (hb : Below w.heap.size w w') : Rs w' A n c B L C X :=
  ⟨h.cap, h.top, fun hn => by
    obtain ⟨ad, e, hc⟩ := h.cell hn
    exact ⟨ad, e, fun r hr => by
      have := hc r hr
      rw [hb.cell (World.block_lt_of_cell? _ _ this)]; exact this⟩, fun r hr => (h.row r hr).below hb, h.nil, h.few⟩
theorem Rs.at_ {w : World} {A : Option Addr} {n c : Nat} {B : Nat → Option Addr} {L C : Nat → Nat} {X : Nat → List Int} (h : Rs w A n c B L C X) {r : Nat} (hr : r < n) : ∃ ad, A = some ad ∧ w.cell? (ad.add r) = some (.slice (B r) (L r) (C r)) := by
  obtain ⟨ad, e, hc⟩ := h.cell (by omega)
  exact ⟨ad, e, hc r hr⟩

theorem weightsAll_mem {H : Type} {P : Program} {e : TypeId} {x : Nat} : ∀ {ds : List (DataW H)} {d : DataW H}, d ∈ ds → x ∈ d.weights P e → x ∈ DataW.weightsAll P e ds
  | [], _, h, _ => by simp at h
  | d' :: ds, d, h, hx => by
    unfold DataW.weightsAll
    rcases List.mem_cons.1 h with rfl | h
    · exact List.mem_append_left _ hx
    · exact List.mem_append_right _ (weightsAll_mem h hx)
theorem bytes_int : Try.prog.bytesOf 3 = 8 := by kernel_rfl
theorem cells_sl : Try.prog.cellsOf 22 = 1 := by kernel_rfl

set_option maxRecDepth 100000 in
theorem open_rows {H : Type} {enc : TypeId × Value → H} {W : World} {b0 : Nat} {v : Value} {d : DataW H} {p : List MemPlace} (hv : Value.okWide Try.prog W .any b0 47 v)
    (h : DataW.Trod enc Try.prog W 0 (fun _ => true) true 47 v d p) (hsz : ∀ x ∈ d.weights Try.prog 47, x ≤ reachBytes) : ∃ A n c B L C X, v = .slice A n c ∧ Rs W A n c B L C X := by
  obtain ⟨a0, len, cap, rfl⟩ := okWide_slice Try.underlying47 hv
  obtain ⟨fuel, hf⟩ := h
  rcases open_int_rows Try.underlying47 Try.underlying22 Try.underlying3 cells_sl cells_int hf with ⟨hcs, _⟩ | ⟨a, len', cap', B, L, C, Z, hcs, _, hl, hm, hx, hr⟩
  · have e : Value.slice a0 len cap = .slice none 0 0 := by simpa [Value.cells] using hcs
    rw [e]
    exact ⟨none, 0, 0, fun _ => none, fun _ => 0, fun _ => 0, fun _ => [], rfl, Nat.le_refl _, by decide, fun h => absurd h (by omega), fun r h => absurd h (by omega), fun r h => absurd h (by omega), fun r h => absurd h (by omega)⟩
  · have e : Value.slice a0 len cap = .slice (some a) len' cap' := by simpa [Value.cells] using hcs
    rw [e]
    refine ⟨some a, len', cap', B, L, C, fun r => (Z r).take (L r), rfl, hl, by simpa [maxLen] using hm, fun _ => ⟨a, rfl, fun r h => (hr r (by omega)).1⟩, fun r h => ?_, fun r h => (hr r (by omega)).2.2.2.2.2.1, fun r h => ?_⟩
    · obtain ⟨h1, h2, h3, h4, h5, h6, h7⟩ := hr r (by omega)
      refine ⟨by rw [List.length_take]; omega, h2, by simpa [maxLen] using h3, fun hp => ?_⟩
      cases hB : B r with
      | none => have := h6 hB; omega
      | some ad =>
        refine ⟨ad, rfl, fun j x hx => ?_⟩
        have hj := lt_of_some hx
        rw [List.length_take] at hj
        rw [List.getElem?_take, if_pos (by omega)] at hx
        rw [(h7 ad hB).2 j (by omega)]
        simp [List.getD_eq_getElem?_getD, hx]
    · obtain ⟨h1, h2, h3, h4, h5, h6, h7⟩ := hr r (by omega)
      cases hB : B r with
      | none => have := h6 hB; omega
      | some ad =>
        have hd : d = .slice ((List.range len').map fun r => intRow .i64 (B r) (L r) (Z r)) ((List.range (cap' - len')).map fun j => intRow .i64 (B (len' + j)) (L (len' + j)) (Z (len' + j))) := (Prod.mk.inj hx).1
        have := hsz (C r * 8) (by
          rw [hd]
          unfold DataW.weights
          rw [Try.underlying47]
          refine List.mem_cons_of_mem _ (List.mem_append_left _ (weightsAll_mem (List.mem_map.2 ⟨r, List.mem_range.2 h, rfl⟩) ?_))
          rw [hB]
          unfold intRow
          simp [DataW.weights, Try.underlying22, bytes_int, lits, h4]
          omega)
        have h8 := reachBytes_lt
        omega
end Go.Proofs.Ytobobbhifajhmaa
