/- Rows of written: the tables of the words, and the world of the witness. -/
import Derived.Test.YtpdfjlbfhnapkaaGreatDoorCards
import Derived.Test.YtpdfjlbfhnapkaaGreatDoorTie
import Derived.Test.YtpdfjlbfhnapkaaGreatDoorR0
import Derived.Test.YtpdfjlbfhnapkaaGreatDoorVMem
import Derived.Deep.DeepHandedRow
import Derived.Lib.LaidTab
import Derived.Lib.SmallJoins
import Derived.Shelf.Vars
import Derived.ChangeArms
import Derived.ChangeSlices
import Derived.OpenShut
namespace Go.Proofs.YtpdfjlbfhnapkaaGreatDoor
open Go.ChangeShapes Go.WideShapes Go.ChangeAt Go.RowKit Go.Deep

theorem laidMet_tail {P : Program} {W : World} {x : String × DataW Unit} {rest : List (String × DataW Unit)} (h : laidMet P (x :: rest) W) : laidMet P rest W := by
  obtain ⟨ps, ⟨g', t', cs, fuel, p, q, _, _, _, _, hq, rfl⟩, hnd, hok⟩ := h
  exact ⟨q, hq, (List.nodup_append.1 hnd).2.1, fun b off hx => hok b off (List.mem_append_right _ hx)⟩
theorem var_head {P : Program} {W : World} {name : String} {d : DataW Unit} {rest : List (String × DataW Unit)} {g : Nat} {t : TypeId} (hg : P.globalNamed name = some g) (hty : (P.globals[g]?).map (·.type) = some t) (h : laidMet P ((name, d) :: rest) W) :
    ∃ (cs : Array Value) (fuel : Nat) (p : List MemPlace), W.var? P name = some cs ∧ DataW.trod (fun _ => ()) P W 0 (fun _ => true) false fuel t cs.toList = some (d, p) := by
  obtain ⟨ps, ⟨g', t', cs, fuel, p, q, hg', ht', hvar, hd, _, _⟩, _⟩ := h
  obtain rfl := Option.some.inj (hg.symm.trans hg')
  obtain rfl := Option.some.inj (hty.symm.trans ht')
  exact ⟨cs, fuel, p, hvar, hd⟩
/-- the value of a literal -/
def litV : Lit → Value
  | .int k z => .int k z
  | .string s => .string ⟨s.toArray⟩
  | _ => .bool false
def Scal (P : Program) (e : TypeId) : Prop := P.underlying e = some .string ∨ ∃ k, P.underlying e = some (.int k)
theorem scal_of {H : Type} {enc : TypeId × Value → H} {P : Program} {w : World} {base : Nat} {sp : Nat → Bool} {held : Bool} {fuel : Nat} {e : TypeId} {cs : List Value} {l : Lit} {p : List MemPlace} (he : Scal P e)
    (h : DataW.trod enc P w base sp held fuel e cs = some (.lit l, p)) : cs = [litV l] := by
  rcases he with he | ⟨k, he⟩
  · obtain ⟨s, rfl, hx, _⟩ := DataW.trod_string he h
    injection hx with h1 h2
    injection h1 with h1
    subst h1
    show [Value.string s] = [Value.string ⟨s.data.toList.toArray⟩]
    rw [Array.toArray_toList]
  · obtain ⟨n, rfl, hx, _⟩ := DataW.trod_int he h
    injection hx with h1 h2
    injection h1 with h1
    subst h1
    rfl
theorem arr_at {H : Type} {enc : TypeId × Value → H} {P : Program} {w : World} {base : Nat} {sp : Nat → Bool} {held : Bool} {fuel : Nat} {t e : TypeId} {n : Nat} {cs : List Value} {ds : List (DataW H)} {p : List MemPlace} (ht : P.underlying t = some (.array n e))
    (h : DataW.trod enc P w base sp held fuel t cs = some (.agg ds, p)) (i : Nat) (hi : i < n) : ∃ (m : Nat) (d : DataW H) (q : List MemPlace), ds[i]? = some d ∧ DataW.trod enc P w base sp held m e ((cs.drop (i * P.cellsOf e)).take (P.cellsOf e)) = some (d, q) := by
  obtain ⟨xs, m, rfl, hx, _, hl, hat⟩ := DataW.trod_array ht h
  injection hx with h1 h2
  injection h1 with h1
  have hi' : i < xs.length := by omega
  refine ⟨m, xs[i].1, xs[i].2, ?_, ?_⟩
  · rw [h1, List.getElem?_map, List.getElem?_eq_getElem hi']; rfl
  · rw [hat i hi, List.getElem?_eq_getElem hi']
theorem lits_at {H : Type} {enc : TypeId × Value → H} {P : Program} {w : World} {base : Nat} {sp : Nat → Bool} {held : Bool} {fuel : Nat} {t e : TypeId} {n : Nat} {cs : List Value} {ls : List Lit} {p : List MemPlace} (ht : P.underlying t = some (.array n e)) (he : Scal P e) (hce : P.cellsOf e = 1)
    (h : DataW.trod enc P w base sp held fuel t cs = some (.agg (ls.map .lit), p)) (i : Nat) (hi : i < n) : ∃ l, ls[i]? = some l ∧ cs[i]? = some (litV l) := by
  obtain ⟨m, d, q, h1, h2⟩ := arr_at ht h i hi
  rw [hce, Nat.mul_one] at h2
  rw [List.getElem?_map] at h1
  obtain ⟨l, hl, rfl⟩ := Option.map_eq_some_iff.1 h1
  have h3 := scal_of he h2
  refine ⟨l, hl, ?_⟩
  have := congrArg (·[0]?) h3
  simpa [List.getElem?_take, List.getElem?_drop] using this
theorem pairs_at {H : Type} {enc : TypeId × Value → H} {P : Program} {w : World} {base : Nat} {sp : Nat → Bool} {held : Bool} {fuel : Nat} {t e : TypeId} {n : Nat} {cs : List Value} {ls : List (Lit × Lit)} {p : List MemPlace} {fs : Array Field} {f0 f1 : Field} (ht : P.underlying t = some (.array n e)) (he : P.underlying e = some (.struct fs)) (hce : P.cellsOf e = 2)
    (hf0 : fs[0]? = some f0) (hf1 : fs[1]? = some f1) (o0 : f0.offset = 0) (o1 : f1.offset = 1) (h0 : Scal P f0.type) (h1 : Scal P f1.type) (hc0 : P.cellsOf f0.type = 1) (hc1 : P.cellsOf f1.type = 1)
    (h : DataW.trod enc P w base sp held fuel t cs = some (.agg (ls.map fun x => .agg [.lit x.1, .lit x.2]), p)) (i : Nat) (hi : i < n) : ∃ x, ls[i]? = some x ∧ cs[2 * i]? = some (litV x.1) ∧ cs[2 * i + 1]? = some (litV x.2) := by
  obtain ⟨m, d, q, g1, g2⟩ := arr_at ht h i hi
  rw [hce] at g2
  rw [List.getElem?_map] at g1
  obtain ⟨x, hx, rfl⟩ := Option.map_eq_some_iff.1 g1
  obtain ⟨xs, m', rfl, hxs, _, hl, hat⟩ := DataW.trod_struct he g2
  injection hxs with k1 k2
  injection k1 with k1
  have a0 := hat 0 f0 hf0
  have a1 := hat 1 f1 hf1
  rw [o0, hc0] at a0
  rw [o1, hc1] at a1
  have k9 : xs.length = 2 := by simpa using (congrArg List.length k1).symm
  match xs, k9, k1, a0, a1 with
  | [y, z], _, k1, a0, a1 =>
    obtain ⟨y1, y2⟩ := y
    obtain ⟨z1, z2⟩ := z
    simp only [List.map_cons, List.map_nil, List.cons.injEq, and_true] at k1
    obtain ⟨rfl, rfl⟩ := k1
    have b0 := scal_of h0 a0
    have b1 := scal_of h1 a1
    refine ⟨x, hx, ?_, ?_⟩
    · have := congrArg (·[0]?) b0
      simpa [List.getElem?_take, List.getElem?_drop, Nat.mul_comm] using this
    · have := congrArg (·[0]?) b1
      simpa [List.getElem?_take, List.getElem?_drop, Nat.mul_comm] using this
theorem strs_of {W : World} {name : String} {g t n : Nat} {ss : List Str} {rest : List (String × DataW Unit)} (hg : Tryz.prog.globalNamed name = some g) (hty : (Tryz.prog.globals[g]?).map (·.type) = some t) (ht : Tryz.prog.underlying t = some (.array n 9))
    (h : laidMet Tryz.prog ((name, .agg ((ss.map Lit.string).map .lit)) :: rest) W) : ∀ i, i < n → W.cell? ⟨g, i, none⟩ = some (.string ⟨(ss.getD i []).toArray⟩) := by
  obtain ⟨cs, fuel, p, hv, hd⟩ := var_head hg hty h
  intro i hi
  obtain ⟨l, hl, hc⟩ := lits_at ht (Or.inl Tryz.underlying9) (by kernel_rfl) hd i hi
  rw [World.var?_cell hg hv i]
  rw [List.getElem?_map] at hl
  obtain ⟨s, hs, rfl⟩ := Option.map_eq_some_iff.1 hl
  rw [List.getD_eq_getElem?_getD, hs, Option.getD_some, ← Array.getElem?_toList]
  exact hc
theorem g_small : Tryz.prog.globalNamed "earshot/written.small" = some 11 := by kernel_rfl
theorem t_small : (Tryz.prog.globals[11]?).map (·.type) = some 189 := by kernel_rfl
theorem g_tens : Tryz.prog.globalNamed "earshot/written.tens" = some 10 := by kernel_rfl
theorem t_tens : (Tryz.prog.globals[10]?).map (·.type) = some 188 := by kernel_rfl
theorem g_months : Tryz.prog.globalNamed "earshot/written.months" = some 7 := by kernel_rfl
theorem t_months : (Tryz.prog.globals[7]?).map (·.type) = some 130 := by kernel_rfl
theorem g_others : Tryz.prog.globalNamed "earshot/written.others" = some 0 := by kernel_rfl
theorem t_others : (Tryz.prog.globals[0]?).map (·.type) = some 130 := by kernel_rfl
theorem g_irregular : Tryz.prog.globalNamed "earshot/written.irregular" = some 4 := by kernel_rfl
theorem t_irregular : (Tryz.prog.globals[4]?).map (·.type) = some 156 := by kernel_rfl
theorem g_powers : Tryz.prog.globalNamed "earshot/written.powers" = some 3 := by kernel_rfl
theorem t_powers : (Tryz.prog.globals[3]?).map (·.type) = some 154 := by kernel_rfl
theorem gTab : Tryz.prog.globalNamed "internal/strconv.uint64pow10" = some 6 := by kernel_rfl
theorem gTabType : (Tryz.prog.globals[6]?).map (·.type) = some 170 := by kernel_rfl
set_option maxRecDepth 100000 in
theorem gl_of {W : World} (h : laidMetH Tryz.prog [("math/bits.deBruijn32tab", Rows.laid_math_bits_deBruijn32tab), ("math/bits.deBruijn64tab", Rows.laid_math_bits_deBruijn64tab), ("internal/strconv.uint64pow10", Rows.laid_internal_strconv_uint64pow10), ("unicode/utf8.acceptRanges", Rows.laid_unicode_utf8_acceptRanges), ("earshot/written.small", Rows.laid_earshot_written_small), ("earshot/written.tens", Rows.laid_earshot_written_tens), ("earshot/written.powers", Rows.laid_earshot_written_powers), ("earshot/written.irregular", Rows.laid_earshot_written_irregular), ("earshot/written.months", Rows.laid_earshot_written_months), ("earshot/written.others", Rows.laid_earshot_written_others), ("unicode/utf8.first", Rows.laid_unicode_utf8_first)] W) (hs : W.ShapedOpen Tryz.prog) : WT W := by
  have L2 : laidMet Tryz.prog [("internal/strconv.uint64pow10", Rows.laid_internal_strconv_uint64pow10), ("unicode/utf8.acceptRanges", Rows.laid_unicode_utf8_acceptRanges), ("earshot/written.small", Rows.laid_earshot_written_small), ("earshot/written.tens", Rows.laid_earshot_written_tens), ("earshot/written.powers", Rows.laid_earshot_written_powers), ("earshot/written.irregular", Rows.laid_earshot_written_irregular), ("earshot/written.months", Rows.laid_earshot_written_months), ("earshot/written.others", Rows.laid_earshot_written_others), ("unicode/utf8.first", Rows.laid_unicode_utf8_first)] W := laidMet_tail (laidMet_tail h)
  have L4 : laidMet Tryz.prog [("earshot/written.small", Rows.laid_earshot_written_small), ("earshot/written.tens", Rows.laid_earshot_written_tens), ("earshot/written.powers", Rows.laid_earshot_written_powers), ("earshot/written.irregular", Rows.laid_earshot_written_irregular), ("earshot/written.months", Rows.laid_earshot_written_months), ("earshot/written.others", Rows.laid_earshot_written_others), ("unicode/utf8.first", Rows.laid_unicode_utf8_first)] W := laidMet_tail (laidMet_tail L2)
  have L5 : laidMet Tryz.prog [("earshot/written.tens", Rows.laid_earshot_written_tens), ("earshot/written.powers", Rows.laid_earshot_written_powers), ("earshot/written.irregular", Rows.laid_earshot_written_irregular), ("earshot/written.months", Rows.laid_earshot_written_months), ("earshot/written.others", Rows.laid_earshot_written_others), ("unicode/utf8.first", Rows.laid_unicode_utf8_first)] W := laidMet_tail L4
  have L6 : laidMet Tryz.prog [("earshot/written.powers", Rows.laid_earshot_written_powers), ("earshot/written.irregular", Rows.laid_earshot_written_irregular), ("earshot/written.months", Rows.laid_earshot_written_months), ("earshot/written.others", Rows.laid_earshot_written_others), ("unicode/utf8.first", Rows.laid_unicode_utf8_first)] W := laidMet_tail L5
  have L7 : laidMet Tryz.prog [("earshot/written.irregular", Rows.laid_earshot_written_irregular), ("earshot/written.months", Rows.laid_earshot_written_months), ("earshot/written.others", Rows.laid_earshot_written_others), ("unicode/utf8.first", Rows.laid_unicode_utf8_first)] W := laidMet_tail L6
  have L8 : laidMet Tryz.prog [("earshot/written.months", Rows.laid_earshot_written_months), ("earshot/written.others", Rows.laid_earshot_written_others), ("unicode/utf8.first", Rows.laid_unicode_utf8_first)] W := laidMet_tail L7
  have L9 : laidMet Tryz.prog [("earshot/written.others", Rows.laid_earshot_written_others), ("unicode/utf8.first", Rows.laid_unicode_utf8_first)] W := laidMet_tail L8
  have hp : ∀ i, i < 3 → W.cell? ⟨3, 2 * i, none⟩ = some (.int .i64 ((powL.getD i (0, [])).1 : Nat)) ∧ W.cell? ⟨3, 2 * i + 1, none⟩ = some (.string ⟨(powL.getD i (0, [])).2.toArray⟩) := by
    obtain ⟨cs, fuel, p, hv, hd⟩ := var_head g_powers t_powers L6
    intro i hi
    obtain ⟨x, hx, c0, c1⟩ := pairs_at (ls := powL.map fun x => (Lit.int .i64 (x.1 : Nat), Lit.string x.2)) Tryz.underlying154 Tryz.underlying153 (by kernel_rfl) rfl rfl rfl rfl (Or.inr ⟨_, Tryz.underlying3⟩) (Or.inl Tryz.underlying9) (by kernel_rfl) (by kernel_rfl) hd i hi
    rw [List.getElem?_map] at hx
    obtain ⟨y, hy, rfl⟩ := Option.map_eq_some_iff.1 hx
    rw [World.var?_cell g_powers hv, World.var?_cell g_powers hv, List.getD_eq_getElem?_getD, hy, Option.getD_some, ← Array.getElem?_toList, ← Array.getElem?_toList]
    exact ⟨c0, c1⟩
  have hi : ∀ i, i < 7 → W.cell? ⟨4, 2 * i, none⟩ = some (.string ⟨(irrL.getD i ([], [])).1.toArray⟩) ∧ W.cell? ⟨4, 2 * i + 1, none⟩ = some (.string ⟨(irrL.getD i ([], [])).2.toArray⟩) := by
    obtain ⟨cs, fuel, p, hv, hd⟩ := var_head g_irregular t_irregular L7
    intro i hi
    obtain ⟨x, hx, c0, c1⟩ := pairs_at (ls := irrL.map fun x => (Lit.string x.1, Lit.string x.2)) Tryz.underlying156 Tryz.underlying155 (by kernel_rfl) rfl rfl rfl rfl (Or.inl Tryz.underlying9) (Or.inl Tryz.underlying9) (by kernel_rfl) (by kernel_rfl) hd i hi
    rw [List.getElem?_map] at hx
    obtain ⟨y, hy, rfl⟩ := Option.map_eq_some_iff.1 hx
    rw [World.var?_cell g_irregular hv, World.var?_cell g_irregular hv, List.getD_eq_getElem?_getD, hy, Option.getD_some, ← Array.getElem?_toList, ← Array.getElem?_toList]
    exact ⟨c0, c1⟩
  exact ⟨strs_of (ss := smallL) g_small t_small Tryz.underlying189 L4, strs_of (ss := tensL) g_tens t_tens Tryz.underlying188 L5, strs_of (ss := monthsL) g_months t_months Tryz.underlying130 L8, strs_of (ss := othersL) g_others t_others Tryz.underlying130 L9,
    fun i h => (hi i h).1, fun i h => (hi i h).2, fun i h => (hp i h).1, fun i h => (hp i h).2,
    Lib.tabIs_of_head (zs := Lib.pow10Tab) gTab gTabType Tryz.underlying170 Tryz.underlying142 (by kernel_rfl) (by kernel_rfl) L2,
    cell_of_shapedOpen_int (t := 3) (zero := #[.int .i64 0]) hs (by decide +kernel) (by kernel_rfl) rfl (by kernel_rfl) (by kernel_rfl) Tryz.underlying3⟩

def db32 : List Int := [0, 1, 28, 2, 29, 14, 24, 3, 30, 22, 20, 15, 25, 17, 4, 8, 31, 27, 13, 23, 21, 19, 16, 7, 26, 12, 18, 6, 11, 5, 10, 9]
def db64 : List Int := [0, 1, 56, 2, 57, 49, 28, 3, 61, 58, 42, 50, 38, 29, 17, 4, 62, 47, 59, 36, 45, 43, 51, 22, 53, 39, 33, 30, 24, 18, 12, 5, 63, 55, 48, 27, 60, 41, 37, 16, 46, 35, 44, 21, 52, 32, 23, 11, 54, 26, 40, 15, 34, 20, 31, 10, 25, 14, 19, 9, 13, 8, 7, 6]
def acc : List Int := [128, 191, 160, 191, 128, 159, 144, 191, 128, 143, 0, 0, 0, 0, 0, 0, 0, 0, 0, 0, 0, 0, 0, 0, 0, 0, 0, 0, 0, 0, 0, 0]
def ints (k : IntKind) (zs : List Int) : List Value := zs.map fun (x : Int) => Value.int k x
def strs (ss : List Str) : List Value := ss.map fun s => Value.string ⟨s.toArray⟩
def setV (vs : List Value) : Obj → Obj
  | .cells _ t frozen => .cells vs.toArray t frozen
  | o => o
noncomputable def laidHeap (h : Array Obj) : Array Obj :=
  (((((((((((h.modify 6 (setV (ints .u64 Lib.pow10Tab))).modify 12 (setV (ints .u8 db32))).modify 13 (setV (ints .u8 db64))).modify 9 (setV (ints .u8 acc))).modify 8 (setV (ints .u8 (Go.Pinned.utf8FirstZ.map Int.ofNat)))).modify 11 (setV (strs smallL))).modify 10 (setV (strs tensL))).modify 7 (setV (strs monthsL))).modify 0 (setV (strs othersL))).modify 3 (setV (powL.flatMap fun x => [.int .i64 x.1, .string ⟨x.2.toArray⟩]))).modify 4 (setV (irrL.flatMap fun x => [.string ⟨x.1.toArray⟩, .string ⟨x.2.toArray⟩])))
noncomputable def laidWorld (os : Os) : World :=
  { World.holding Tryz.prog os ⟨#[], #[], []⟩ with heap := laidHeap (World.holding Tryz.prog os ⟨#[], #[], []⟩).heap }
theorem wf_rng {n : Int} (h : (Lit.int .i64 n).wf = true) : -9223372036854775808 ≤ n ∧ n ≤ 9223372036854775807 := by
  unfold Lit.wf at h
  simp only [Bool.and_eq_true, decide_eq_true_eq] at h
  exact h
end Go.Proofs.YtpdfjlbfhnapkaaGreatDoor
