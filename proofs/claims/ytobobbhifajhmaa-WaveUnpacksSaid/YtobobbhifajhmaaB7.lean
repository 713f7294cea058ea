/- Bytes: which are those of a recording. -/
import Derived.Test.YtobobbhifajhmaaB6
import Derived.Test.YtobobbhifajhmaaB4
namespace Go.Proofs.Ytobobbhifajhmaa
open Go.RowKit

theorem conv_sl {w : World} {ad : Addr} {n c : Nat} {bs : List Int} (h : Sl .u8 w (some ad) n c bs) : (convert 27 9 (.slice (some ad) n c)).run Try.prog w = .ok (.string (strOfNums bs)) w := by
  have hl : (loadCells ad n).run Try.prog w = .ok (bs.map (Value.int .u8)).toArray w := by
    have := run_loadCells_list (P := Try.prog) w ad (bs.map (Value.int .u8)) (fun j v hj => by
      have hn : 0 < n := by
        have hj2 := lt_of_some hj
        rw [List.length_map, h.len] at hj2
        omega
      obtain ⟨ad', e, hc⟩ := h.cell hn
      injection e with e
      subst e
      simp only [List.getElem?_map, Option.map_eq_some_iff] at hj
      obtain ⟨x, hx, rfl⟩ := hj
      exact hc j x hx)
    simpa [h.len] using this
  rw [run_convert_bytes_string w 27 9 5 _ n c Try.underlying27 Try.underlying5 Try.underlying9, run_bytesToString w _ n c bs hl, foldl_push_bytes]
  simp [strOfNums, ByteArray.empty, ByteArray.emptyWithCapacity]
  rfl
theorem u8_inj {x y : Int} (hx : 0 ≤ x ∧ x ≤ 255) (hy : 0 ≤ y ∧ y ≤ 255) (h : UInt8.ofNat x.toNat = UInt8.ofNat y.toNat) : x = y := by
  have h2 := congrArg UInt8.toNat h
  simp only [UInt8.toNat_ofNat'] at h2
  omega
theorem str_inj {xs ys : List Int} (hx : byB xs) (hy : byB ys) (h : strOfNums xs = strOfNums ys) : xs = ys := by
  unfold strOfNums at h
  have h2 := congrArg (fun b : ByteArray => b.data.toList) h
  simp at h2
  induction xs generalizing ys with
  | nil => cases ys with
    | nil => rfl
    | cons y ys => simp at h2
  | cons x xs ih => cases ys with
    | nil => simp at h2
    | cons y ys =>
      simp at h2
      have e := u8_inj (hx x (List.mem_cons.2 (.inl rfl))) (hy y (List.mem_cons.2 (.inl rfl))) h2.1
      rw [e, ih (ys := ys) (fun b hb => hx b (List.mem_cons.2 (.inr hb))) (fun b hb => hy b (List.mem_cons.2 (.inr hb))) (by rw [h2.2]) (by simpa using h2.2)]
end Go.Proofs.Ytobobbhifajhmaa
