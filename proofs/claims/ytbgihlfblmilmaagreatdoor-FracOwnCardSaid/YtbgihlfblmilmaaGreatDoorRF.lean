/- Rows of frac: the world of the witness, the library's tables, arguments. -/
import Derived.Test.YtbgihlfblmilmaaGreatDoorCards
import Derived.Test.YtbgihlfblmilmaaGreatDoorTie
import Derived.Test.YtbgihlfblmilmaaGreatDoorR0
import Derived.Test.YtbgihlfblmilmaaGreatDoorJK
import Derived.Deep.DeepHandedRow
import Derived.Lib.LaidTab
import Derived.Lib.SmallJoins
import Derived.Shelf.Vars
import Derived.ChangeArms
import Derived.ChangeSlices
namespace Go.Proofs.YtbgihlfblmilmaaGreatDoor
open Go.ChangeShapes Go.WideShapes Go.ChangeAt Go.RowKit Go.Deep

theorem laidMet_tail {P : Program} {W : World} {x : String × DataW Unit} {rest : List (String × DataW Unit)} (h : laidMet P (x :: rest) W) : laidMet P rest W := by
  obtain ⟨ps, ⟨g', t', cs, fuel, p, q, _, _, _, _, hq, rfl⟩, hnd, hok⟩ := h
  exact ⟨q, hq, (List.nodup_append.1 hnd).2.1, fun b off hx => hok b off (List.mem_append_right _ hx)⟩
theorem gTab : Tryz.prog.globalNamed "internal/strconv.uint64pow10" = some 2 := by kernel_rfl
theorem gTabType : (Tryz.prog.globals[2]?).map (·.type) = some 167 := by kernel_rfl
theorem cells_tab : Tryz.prog.cellsOf 167 = 20 := by kernel_rfl
theorem cells_u64 : Tryz.prog.cellsOf 82 = 1 := by kernel_rfl
theorem gl_of {W : World} (h : laidMetH Tryz.prog [("math/bits.deBruijn32tab", Rows.laid_math_bits_deBruijn32tab), ("math/bits.deBruijn64tab", Rows.laid_math_bits_deBruijn64tab), ("internal/strconv.uint64pow10", Rows.laid_internal_strconv_uint64pow10)] W) (hs : W.ShapedOpen Tryz.prog) : Fr.Gl W := by
  have h2 : laidMet Tryz.prog [("internal/strconv.uint64pow10", Rows.laid_internal_strconv_uint64pow10)] W := laidMet_tail (laidMet_tail h)
  have ht : Lib.TabIs Tryz.prog W "internal/strconv.uint64pow10" .u64 Lib.pow10Tab := Lib.tabIs_of_head (rest := []) gTab gTabType Tryz.underlying167 Tryz.underlying82 cells_u64 cells_tab h2
  refine ⟨fun i hi => ?_, ?_⟩
  · have := ht.cell gTab i (by rw [Lib.pow10Tab_length]; exact hi)
    rw [Lib.pow10Tab_at _ hi] at this
    exact this
  · exact cell_of_shapedOpen_int (t := 3) (zero := #[.int .i64 0]) hs (by decide +kernel) (by kernel_rfl) rfl (by kernel_rfl) (by kernel_rfl) Tryz.underlying3

def db32 : List Int := [0, 1, 28, 2, 29, 14, 24, 3, 30, 22, 20, 15, 25, 17, 4, 8, 31, 27, 13, 23, 21, 19, 16, 7, 26, 12, 18, 6, 11, 5, 10, 9]
def db64 : List Int := [0, 1, 56, 2, 57, 49, 28, 3, 61, 58, 42, 50, 38, 29, 17, 4, 62, 47, 59, 36, 45, 43, 51, 22, 53, 39, 33, 30, 24, 18, 12, 5, 63, 55, 48, 27, 60, 41, 37, 16, 46, 35, 44, 21, 52, 32, 23, 11, 54, 26, 40, 15, 34, 20, 31, 10, 25, 14, 19, 9, 13, 8, 7, 6]
def setTab (k : IntKind) (zs : List Int) : Obj → Obj
  | .cells _ t frozen => .cells (zs.map fun (x : Int) => Value.int k x).toArray t frozen
  | o => o
noncomputable def laidWorld (os : Os) : World :=
  { World.holding Tryz.prog os ⟨#[], #[], []⟩ with heap := (((World.holding Tryz.prog os ⟨#[], #[], []⟩).heap.modify 2 (setTab .u64 Lib.pow10Tab)).modify 4 (setTab .u8 db32)).modify 5 (setTab .u8 db64) }
theorem wf_rng {n : Int} (h : (Lit.int .i64 n).wf = true) : -9223372036854775808 ≤ n ∧ n ≤ 9223372036854775807 := by
  unfold Lit.wf at h
  simp only [Bool.and_eq_true, decide_eq_true_eq] at h
  exact h
theorem wf_u32 {n : Int} (h : (Lit.int .u32 n).wf = true) : 0 ≤ n ∧ n ≤ 4294967295 := by
  unfold Lit.wf at h
  simp only [Bool.and_eq_true, decide_eq_true_eq] at h
  exact h
theorem cells_u32 : Tryz.prog.cellsOf 63 = 1 := by kernel_rfl
set_option maxRecDepth 100000 in
theorem open_dg {H : Type} {enc : TypeId × Value → H} {W : World} {v : Value} {n : Nat} {y : DataW H × List MemPlace} (h : DataW.trod enc Tryz.prog W 0 (fun _ => true) true n 22 [v] = some y) :
    ∃ A m c xs, v = .slice A m c ∧ Fr.Dg .u32 W A m c xs := by
  rcases open_ints Tryz.underlying22 Tryz.underlying63 cells_u32 h with ⟨hcs, _⟩ | ⟨a, len, cap, zs, hcs, _, hl, hm, hz, _, hcell, hwf⟩
  · injection hcs with e
    exact ⟨none, 0, 0, [], e, Fr.Dg.nil .u32 W⟩
  · injection hcs with e
    rw [if_pos rfl] at hz
    refine ⟨some a, len, cap, (zs.take len).map Int.toNat, e, ⟨by rw [List.length_map, List.length_take]; omega, hl, by simpa [maxLen] using hm, fun x hx => ?_, fun _ => ⟨a, rfl, fun j x hx => ?_⟩⟩⟩
    · obtain ⟨z, hz1, rfl⟩ := List.mem_map.1 hx
      have := wf_u32 (hwf z (List.mem_of_mem_take hz1))
      show z.toNat < 4294967296
      omega
    · have hj : j < len := by
        rcases Nat.lt_or_ge j len with h9 | h9
        · exact h9
        · rw [List.getElem?_eq_none (by rw [List.length_map, List.length_take]; omega)] at hx; cases hx
      rw [List.getElem?_map, List.getElem?_take, if_pos hj, List.getElem?_eq_getElem (show j < zs.length by omega)] at hx
      simp only [Option.map_some, Option.some.injEq] at hx
      rw [hcell j (by omega), List.getD_eq_getElem?_getD, List.getElem?_eq_getElem (show j < zs.length by omega), Option.getD_some]
      have := wf_u32 (hwf _ (List.getElem_mem (show j < zs.length by omega)))
      rw [← hx, Int.toNat_of_nonneg this.1]
set_option maxRecDepth 100000 in
theorem open_frac {H : Type} {enc : TypeId × Value → H} {W : World} {b0 : Nat} {v : Value} {d : DataW H} {p : List MemPlace} (hv : Value.okWide Tryz.prog W .any b0 24 v)
    (h : DataW.Trod enc Tryz.prog W 0 (fun _ => true) true 24 v d p) : ∃ s A n c B m e xs ys, v = .agg #[.bool s, .slice A n c, .slice B m e] ∧ Fr.Dg .u32 W A n c xs ∧ Fr.Dg .u32 W B m e ys := by
  obtain ⟨v0, v1, v2, y0, y1, y2, n, rfl, _, _, h0, h1, h2⟩ := Joins.open_agg3 Tryz.underlying24 (by kernel_rfl) (by kernel_rfl) hv h
  obtain ⟨s, hs, _⟩ := DataW.trod_bool Tryz.underlying4 h0
  injection hs with hs
  subst hs
  obtain ⟨A, n1, c1, xs, rfl, hx⟩ := open_dg h1
  obtain ⟨B, n2, c2, ys, rfl, hy⟩ := open_dg h2
  exact ⟨s, A, n1, c1, B, n2, c2, xs, ys, rfl, hx, hy⟩
end Go.Proofs.YtbgihlfblmilmaaGreatDoor
