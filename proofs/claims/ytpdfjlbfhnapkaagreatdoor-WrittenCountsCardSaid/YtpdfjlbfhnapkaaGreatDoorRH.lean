/- Rows of written that list the errors of strconv too. -/
import Derived.Test.YtpdfjlbfhnapkaaGreatDoorRF
import Derived.Test.YtpdfjlbfhnapkaaGreatDoorKL
namespace Go.Proofs.YtpdfjlbfhnapkaaGreatDoor
open Go.ChangeShapes Go.WideShapes Go.ChangeAt Go.RowKit Go.Deep
theorem iface_of {H : Type} {enc : TypeId × Value → H} {P : Program} {w : World} {base : Nat} {sp : Nat → Bool} {held : Bool} {fuel : Nat} {t : TypeId} {cs : List Value} {nm : String} {d : DataW H} {p : List MemPlace} {ms} (ht : P.underlying t = some (.interface ms))
    (h : DataW.trod enc P w base sp held fuel t cs = some (.iface nm d, p)) : ∃ u v, cs = [.iface u v] := by
  cases fuel with
  | zero => simp [DataW.trod] at h
  | succ n =>
    unfold DataW.trod at h
    rw [ht] at h
    split at h <;> simp_all
theorem g_syn : Tryz.prog.globalNamed "strconv.ErrSyntax" = some 1 := by kernel_rfl
theorem t_syn : (Tryz.prog.globals[1]?).map (·.type) = some 67 := by kernel_rfl
set_option maxRecDepth 100000 in
theorem gl_of2 {W : World} (h : laidMetH Tryz.prog [("math/bits.deBruijn32tab", Rows.laid_math_bits_deBruijn32tab), ("math/bits.deBruijn64tab", Rows.laid_math_bits_deBruijn64tab), ("internal/strconv.uint64pow10", Rows.laid_internal_strconv_uint64pow10), ("unicode/utf8.acceptRanges", Rows.laid_unicode_utf8_acceptRanges), ("strconv.ErrRange", Rows.laid_strconv_ErrRange), ("strconv.ErrSyntax", Rows.laid_strconv_ErrSyntax), ("earshot/written.small", Rows.laid_earshot_written_small), ("earshot/written.tens", Rows.laid_earshot_written_tens), ("earshot/written.powers", Rows.laid_earshot_written_powers), ("earshot/written.irregular", Rows.laid_earshot_written_irregular), ("earshot/written.months", Rows.laid_earshot_written_months), ("earshot/written.others", Rows.laid_earshot_written_others), ("unicode/utf8.first", Rows.laid_unicode_utf8_first)] W) (hs : W.ShapedOpen Tryz.prog) : WT W ∧ ErS W := by
  have L2 : laidMet Tryz.prog [("internal/strconv.uint64pow10", Rows.laid_internal_strconv_uint64pow10), ("unicode/utf8.acceptRanges", Rows.laid_unicode_utf8_acceptRanges), ("strconv.ErrRange", Rows.laid_strconv_ErrRange), ("strconv.ErrSyntax", Rows.laid_strconv_ErrSyntax), ("earshot/written.small", Rows.laid_earshot_written_small), ("earshot/written.tens", Rows.laid_earshot_written_tens), ("earshot/written.powers", Rows.laid_earshot_written_powers), ("earshot/written.irregular", Rows.laid_earshot_written_irregular), ("earshot/written.months", Rows.laid_earshot_written_months), ("earshot/written.others", Rows.laid_earshot_written_others), ("unicode/utf8.first", Rows.laid_unicode_utf8_first)] W := laidMet_tail (laidMet_tail h)
  have M5 : laidMet Tryz.prog [("strconv.ErrSyntax", Rows.laid_strconv_ErrSyntax), ("earshot/written.small", Rows.laid_earshot_written_small), ("earshot/written.tens", Rows.laid_earshot_written_tens), ("earshot/written.powers", Rows.laid_earshot_written_powers), ("earshot/written.irregular", Rows.laid_earshot_written_irregular), ("earshot/written.months", Rows.laid_earshot_written_months), ("earshot/written.others", Rows.laid_earshot_written_others), ("unicode/utf8.first", Rows.laid_unicode_utf8_first)] W := laidMet_tail (laidMet_tail (laidMet_tail L2))
  have L4 : laidMet Tryz.prog [("earshot/written.small", Rows.laid_earshot_written_small), ("earshot/written.tens", Rows.laid_earshot_written_tens), ("earshot/written.powers", Rows.laid_earshot_written_powers), ("earshot/written.irregular", Rows.laid_earshot_written_irregular), ("earshot/written.months", Rows.laid_earshot_written_months), ("earshot/written.others", Rows.laid_earshot_written_others), ("unicode/utf8.first", Rows.laid_unicode_utf8_first)] W := laidMet_tail M5
  have L5 : laidMet Tryz.prog [("earshot/written.tens", Rows.laid_earshot_written_tens), ("earshot/written.powers", Rows.laid_earshot_written_powers), ("earshot/written.irregular", Rows.laid_earshot_written_irregular), ("earshot/written.months", Rows.laid_earshot_written_months), ("earshot/written.others", Rows.laid_earshot_written_others), ("unicode/utf8.first", Rows.laid_unicode_utf8_first)] W := laidMet_tail L4
  have L6 : laidMet Tryz.prog [("earshot/written.powers", Rows.laid_earshot_written_powers), ("earshot/written.irregular", Rows.laid_earshot_written_irregular), ("earshot/written.months", Rows.laid_earshot_written_months), ("earshot/written.others", Rows.laid_earshot_written_others), ("unicode/utf8.first", Rows.laid_unicode_utf8_first)] W := laidMet_tail L5
  have L7 : laidMet Tryz.prog [("earshot/written.irregular", Rows.laid_earshot_written_irregular), ("earshot/written.months", Rows.laid_earshot_written_months), ("earshot/written.others", Rows.laid_earshot_written_others), ("unicode/utf8.first", Rows.laid_unicode_utf8_first)] W := laidMet_tail L6
  have L8 : laidMet Tryz.prog [("earshot/written.months", Rows.laid_earshot_written_months), ("earshot/written.others", Rows.laid_earshot_written_others), ("unicode/utf8.first", Rows.laid_unicode_utf8_first)] W := laidMet_tail L7
  have L9 : laidMet Tryz.prog [("earshot/written.others", Rows.laid_earshot_written_others), ("unicode/utf8.first", Rows.laid_unicode_utf8_first)] W := laidMet_tail L8
  have hE : ErS W := by
    obtain ⟨cs, fuel, p, hv, hd⟩ := var_head g_syn t_syn M5
    obtain ⟨u, v, hc⟩ := iface_of Tryz.underlying67 hd
    refine ⟨u, v, ?_⟩
    rw [World.var?_cell g_syn hv, ← Array.getElem?_toList, hc]
    rfl
  refine ⟨?_, hE⟩
  have hp : ∀ i, i < 3 → W.cell? ⟨3, 2 * i, none⟩ = some (.int .i64 ((powL.getD i (0, [])).1 : Nat)) ∧ W.cell? ⟨3, 2 * i + 1, none⟩ = some (.string ⟨(powL.getD i (0, [])).2.toArray⟩) := by
    obtain ⟨cs, fuel, p, hv, hd⟩ := var_head g_powers t_powers L6
    intro i hi
    obtain ⟨x, hx, c0, c1⟩ := pairs_at (ls := powL.map fun x => (Lit.int .i64 (x.1 : Nat), Lit.string x.2)) Tryz.underlying154 Tryz.underlying153 (by kernel_rfl) rfl rfl rfl rfl (Or.inr ⟨_, Tryz.underlying3⟩) (Or.inl Tryz.underlying9) (by kernel_rfl) (by kernel_rfl) hd i hi
    rw [List.getElem?_map] at hx
    obtain ⟨y, hy, rfl⟩ := Option.map_eq_some_iff.1 hx
    rw [World.var?_cell g_powers hv, World.var?_cell g_powers hv, List.getD_eq_getElem?_getD, hy, Option.getD_some, ← Array.getElem?_toList, ← Array.getElem?_toList]
    exact ⟨c0, c1⟩
  have hi : ∀ i, i < 7 → W.cell? ⟨4, 2 * i, none⟩ = some (.string ⟨(irrL.getD i ([], [])).1.toArray⟩) ∧ W.cell? ⟨4, 2 * i + 1, none⟩ = some (.string ⟨(irrL.getD i ([], [])).2.toArray⟩) := by
    obtain ⟨cs, fuel, p, hv, hd⟩ := var_head g_irregular t_irregular L7
    intro i hi
    obtain ⟨x, hx, c0, c1⟩ := pairs_at (ls := irrL.map fun x => (Lit.string x.1, Lit.string x.2)) Tryz.underlying156 Tryz.underlying155 (by kernel_rfl) rfl rfl rfl rfl (Or.inl Tryz.underlying9) (Or.inl Tryz.underlying9) (by kernel_rfl) (by kernel_rfl) hd i hi
    rw [List.getElem?_map] at hx
    obtain ⟨y, hy, rfl⟩ := Option.map_eq_some_iff.1 hx
    rw [World.var?_cell g_irregular hv, World.var?_cell g_irregular hv, List.getD_eq_getElem?_getD, hy, Option.getD_some, ← Array.getElem?_toList, ← Array.getElem?_toList]
    exact ⟨c0, c1⟩
  exact ⟨strs_of (ss := smallL) g_small t_small Tryz.underlying189 L4, strs_of (ss := tensL) g_tens t_tens Tryz.underlying188 L5, strs_of (ss := monthsL) g_months t_months Tryz.underlying130 L8, strs_of (ss := othersL) g_others t_others Tryz.underlying130 L9,
    fun i h => (hi i h).1, fun i h => (hi i h).2, fun i h => (hp i h).1, fun i h => (hp i h).2,
    Lib.tabIs_of_head (zs := Lib.pow10Tab) gTab gTabType Tryz.underlying170 Tryz.underlying142 (by kernel_rfl) (by kernel_rfl) L2,
    cell_of_shapedOpen_int (t := 3) (zero := #[.int .i64 0]) hs (by decide +kernel) (by kernel_rfl) rfl (by kernel_rfl) (by kernel_rfl) Tryz.underlying3⟩


noncomputable def laidHeap2 (h : Array Obj) : Array Obj :=
  ((((laidHeap h).modify 2 (setV [.iface 173 (.pointer (some ⟨(laidHeap h).size, 0, none⟩))])).modify 1 (setV [.iface 173 (.pointer (some ⟨(laidHeap h).size + 1, 0, none⟩))])).push (.cells #[.string ⟨#[118, 97, 108, 117, 101, 32, 111, 117, 116, 32, 111, 102, 32, 114, 97, 110, 103, 101]⟩] 175 (0, 0))).push (.cells #[.string ⟨#[105, 110, 118, 97, 108, 105, 100, 32, 115, 121, 110, 116, 97, 120]⟩] 175 (0, 0))
noncomputable def laidWorld2 (os : Os) : World :=
  { World.holding Tryz.prog os ⟨#[], #[], []⟩ with heap := laidHeap2 (World.holding Tryz.prog os ⟨#[], #[], []⟩).heap }
end Go.Proofs.YtpdfjlbfhnapkaaGreatDoor
