/- Copies, lengthened numbers, sums, differences. -/
import Derived.Test.YtbgihlfblmilmaaGreatDoorG1
import Derived.Lib.AppendZerosOnto
import Derived.Laws.CopyOwn
namespace Go.Proofs.YtbgihlfblmilmaaGreatDoor.Fr
open Go.RowKit Num

/-- only block g may have turned, others may be new -/
theorem grown_bel {w w' : World} {g B : Nat} (h : w.grownBy w' (some g)) (hB : B ≤ g) (hw : g < w.heap.size) : Below B w w' :=
  ⟨h.os, h.tape, h.output, h.size, fun k hk => h.block k (by omega) (fun e => by injection e with e; omega)⟩
theorem grown_dg {w w' : World} {g : Nat} (h : w.grownBy w' (some g)) {k : IntKind} {A : Option Addr} {n c : Nat} {xs : List Nat} (hD : Dg k w A n c xs) (hne : 0 < n → ∀ ad, A = some ad → ad.block ≠ g) : Dg k w' A n c xs :=
  ⟨hD.len, hD.cap, hD.top, hD.ok, fun hn => by
    obtain ⟨ad, e, hc⟩ := hD.cell hn
    refine ⟨ad, e, fun j x hx => ?_⟩
    have h1 := hc j x hx
    have h2 := World.block_lt_of_cell? _ _ h1
    rw [block_of_add] at h2
    have h3 : w'.heap[(ad.add j).block]? = w.heap[(ad.add j).block]? := by
      rw [block_of_add]
      exact h.block _ h2 (fun e2 => by injection e2 with e2; exact hne hn ad e e2)
    exact (World.cell?_of_block h3).trans h1⟩

/-- slices.Clone: new memory with the same digits, and its size -/
theorem clone_own (A : Option Addr) (n c : Nat) (xs : List Nat) (w : World) (h : Dg .u64 w A n c xs) (hn : n ≤ 2000000) (hp : 0 < n) :
    Calls Tryz.prog 121 #[.slice A n c] w fun e w' => ∃ g ca, e = .returned (.slice (some ⟨g, 0, none⟩) n ca) ∧ Mz w' g 82 .u64 ca xs ∧ n ≤ ca ∧ ca ≤ 9223372036854775807 ∧ w.heap.size ≤ g ∧ Below w.heap.size w w' := by
  obtain ⟨ad, rfl, _⟩ := h.cell hp
  obtain ⟨i0, hi, hz0, hz1, hz2⟩ := info_parts info_u64
  have hnil := fun w => Lib.run_eql_slice_nil (P := Tryz.prog) w 65 82 (some ad) n c 0 0 Tryz.underlying65
  go_enter Tryz.func121, Tryz.ntmps121
  have h1 := h.alloc (.cells #[] 82)
  have hnews := Lib.hid (h1.news hp)
  have hl1 := Lib.hid h.len
  go_wp2_with (at_builtin; refine wpList_append_own _ rfl _ _ 65 rfl w.heap.size 82 i0 (.int .u64 0) 1 8 Tryz.underlying65 hi hz0 hz1 hz2 rfl (by decide) _ 0 [] rfl (World.ownsRow_lit w #[] 0 (Nat.le_refl _) (by decide) rfl) ad n c (dcs .u64 xs) rfl ?c1 hnews.out (oneCell_dcs _ _) ?c3 ?c4 ?c5 ?_)
  case c1 => rw [dcs_len, hl1.out]; simp
  case c3 => unfold maxLen; omega
  case c4 => omega
  case c5 => simp
  intro v1 w1 hown hg _
  have hb := ((Below.refl w.heap.size w).alloc (Nat.le_refl _) (.cells #[] 82)).grown hg (by simp) (fun k hk => by simp [Value.ownBlock] at hk; omega)
  obtain ⟨_, h2⟩ := hown
  have h3 : ∃ g ca, v1 = .slice (some ⟨g, 0, none⟩) n ca ∧ Mz w1 g 82 .u64 ca xs ∧ n ≤ ca ∧ ca ≤ 9223372036854775807 ∧ w.heap.size ≤ g := by
    rcases h2 with ⟨_, h0⟩ | ⟨g, cap, cur, rfl, h3, h4, h5, h6, h7, h8⟩
    · omega
    · exact ⟨g, cap, by simp, ⟨cur, h4, by omega, by rw [hl1.out]; simpa using h8⟩, by omega, h6, h3⟩
  obtain ⟨g, ca, rfl, hM, ha, hc2, hge⟩ := h3
  go_wp2
  go_ret
  exact ⟨g, ca, rfl, hM, ha, hc2, hge, hb⟩

/-- a copy of no digits -/
theorem clone_none (A : Option Addr) (c : Nat) (xs : List Nat) (w : World) (h : Dg .u64 w A 0 c xs) :
    Calls Tryz.prog 121 #[.slice A 0 c] w fun e w' => ∃ A' c', e = .returned (.slice A' 0 c') ∧ c' ≤ 9223372036854775807 ∧ Below w.heap.size w w' ∧ Hid (∀ ad, A' = some ad → w.heap.size ≤ ad.block) := by
  obtain ⟨i0, hi, hz0, hz1, hz2⟩ := info_parts info_u64
  have hnil := fun w => Lib.run_eql_slice_nil (P := Tryz.prog) w 65 82 A 0 c 0 0 Tryz.underlying65
  cases A with
  | none =>
    go_enter Tryz.func121, Tryz.ntmps121
    go_wp2
    go_ret
    exact ⟨none, 0, rfl, by decide, Below.refl _ _, fun ad he => by cases he⟩
  | some ad =>
    go_enter Tryz.func121, Tryz.ntmps121
    go_wp2_with (at_builtin; refine wpList_append_own _ rfl _ _ 65 rfl w.heap.size 82 i0 (.int .u64 0) 1 8 Tryz.underlying65 hi hz0 hz1 hz2 rfl (by decide) _ 0 [] rfl (World.ownsRow_lit w #[] 0 (Nat.le_refl _) (by decide) rfl) ad 0 c [] rfl rfl (fun j u hu => by cases hu) (fun u hu => by cases hu) (by decide) (by decide) ?c5 ?_)
    case c5 => simp
    intro v1 w1 hown hg _
    have hb := ((Below.refl w.heap.size w).alloc (Nat.le_refl _) (.cells #[] 82)).grown hg (by simp) (fun k hk => by simp [Value.ownBlock] at hk; omega)
    obtain ⟨_, h2⟩ := hown
    have h3 : ∃ A' ca, v1 = .slice A' 0 ca ∧ ca ≤ 9223372036854775807 ∧ Hid (∀ ad, A' = some ad → w.heap.size ≤ ad.block) := by
      rcases h2 with ⟨rfl, h0⟩ | ⟨g, cap, cur, rfl, h3, h4, h5, h6, h7, h8⟩
      · exact ⟨_, _, rfl, by decide, fun ad he => by cases he⟩
      · exact ⟨_, cap, rfl, h6, fun ad he => by injection he with he; subst he; exact h3⟩
    obtain ⟨A', ca, rfl, ha, hf⟩ := h3
    go_wp2
    go_ret
    exact ⟨A', ca, rfl, ha, hb, hf⟩

theorem zero_zs (n : Nat) : Builtin.zeroCells (Value.cells (.int .u64 0)) n = (dcs .u64 (zs n)).toArray := by
  apply Array.ext
  · simp [size_zeroCells, dcs, zs, show Value.cells (Value.int .u64 0) = #[Value.int .u64 0] from rfl]
  · intro i h1 h2
    simp [Builtin.zeroCells, dcs, zs, Nat.mod_one, show Value.cells (Value.int .u64 0) = #[Value.int .u64 0] from rfl]

/-- 'append(a, make(natural, k)...)': k digits 0 more -/
theorem run_zeros (g n c k : Nat) (xs : List Nat) (w : World) (ty : TypeId) (hM : Mz w g 82 .u64 c xs) (hl : xs.length = n) (hc : c ≤ 9223372036854775807) (hk : n + k ≤ 4000000) :
    ∃ g' c' w', (Builtin.append_ #[65, 3] ty #[.slice (some ⟨g, 0, none⟩) n c, .int .i64 (k : Int)]).run Tryz.prog w = .ok (.slice (some ⟨g', 0, none⟩) (n + k) c') w' ∧ Mz w' g' 82 .u64 c' (xs ++ zs k) ∧ n + k ≤ c' ∧ c' ≤ 9223372036854775807 ∧
      w.grownBy w' (some g) ∧ (g' = g ∨ w.heap.size ≤ g') := by
  obtain ⟨i0, hi, hz0, hz1, hz2⟩ := info_parts info_u64
  have ht : Tryz.prog.underlying 65 = some (.slice 82) := Tryz.underlying65
  have htn : Tryz.prog.underlying 3 = some (.int .i64) := by kernel_rfl
  have hw : IntKind.i64.wrap (k : Int) = k := by rw [IntKind.wrap_i64]; omega
  have hneg : ¬ ((k : Int) < 0) := by omega
  have h48i : ¬ (281474976710656 < (k : Int) * 8) := by omega
  obtain ⟨cs, h1, h2, h3⟩ := hM
  have hnc : n ≤ c := by
    have h4 := congrArg List.length h3
    rw [dcs_len, List.length_take] at h4
    have h5 : cs.toList.length = cs.size := Array.length_toList
    omega
  by_cases hroom : n + k ≤ c
  · rcases Nat.eq_zero_or_pos k with h0 | h0
    · subst h0
      refine ⟨g, c, w, ?_, ⟨cs, h1, h2, by rw [show zs 0 = [] from rfl, List.append_nil]; exact h3⟩, hroom, hc, ⟨rfl, rfl, rfl, Nat.le_refl _, fun _ _ _ => rfl⟩, .inl rfl⟩
      have hr : n ≤ c := hnc
      simp [Builtin.append_, run_underlying ht, run_underlying htn, sizeOf, typeInfo, hi, hz2, asInt, asIntOf, hr, storeCells, IntKind.wrap_i64]
    · have hst := run_storeCells_at Tryz.prog g n 82 (dcs .u64 (zs k)) 0 cs w h1 (by rw [dcs_len, zs_len]; omega) (oneCell_dcs _ _)
      simp only [Nat.add_zero] at hst
      refine ⟨g, c, w.setRow g (cs.toList.take n ++ dcs .u64 (zs k) ++ cs.toList.drop (n + (dcs .u64 (zs k)).length)).toArray, ?_, ⟨_, setRow_heap w g cs _ _ _ h1, ?_, ?_⟩, hroom, hc, ⟨rfl, rfl, rfl, by simp [World.setRow], fun j hj hne => setRow_other w g j _ (fun e => hne (by rw [e]))⟩, .inl rfl⟩
      · have hk0 : k ≠ 0 := by omega
        have hadd : (⟨g, 0, none⟩ : Addr).add n = ⟨g, n, none⟩ := by unfold Addr.add; split <;> simp_all
        have hzc := zero_zs k
        simp [Builtin.append_, run_underlying ht, run_underlying htn, sizeOf, typeInfo, zeroValue, hi, hz0, hz1, hz2, asInt, asIntOf, hw, hroom, hneg, h48i, hk0, hadd, hzc, hst]
      · have h5 : cs.toList.length = cs.size := Array.length_toList
        simp only [List.size_toArray, List.length_append, List.length_take, List.length_drop, dcs_len, zs_len, h5]
        omega
      · have h5 : cs.toList.length = cs.size := Array.length_toList
        rw [hl] at h3
        have e : cs.toList.take n ++ dcs .u64 (zs k) = dcs .u64 (xs ++ zs k) := by rw [h3]; simp [dcs]
        have e2 : (xs ++ zs k).length = (cs.toList.take n ++ dcs .u64 (zs k)).length := by
          rw [e, dcs_len]
        show List.take _ (cs.toList.take n ++ dcs .u64 (zs k) ++ cs.toList.drop (n + (dcs .u64 (zs k)).length)) = _
        rw [e2, List.take_left, e]
  · have hcell : ∀ j u, (dcs .u64 xs)[j]? = some u → w.cell? ((⟨g, 0, none⟩ : Addr).add j) = some u := by
      intro j u hu
      have hadd : (⟨g, 0, none⟩ : Addr).add j = ⟨g, j, none⟩ := by unfold Addr.add; split <;> simp_all
      rw [hadd, cell_of_row w g j cs 82 (0, 0) h1, ← Array.getElem?_toList]
      rw [← h3, List.getElem?_take] at hu
      split at hu
      · exact hu
      · cases hu
    have hold := run_firstCells_some (P := Tryz.prog) (w := w.drew) 1 n ⟨g, 0, none⟩ n c (dcs .u64 xs) (by rw [dcs_len, hl, Nat.mul_one]) (by simpa using hcell)
    have hr := Lib.run_append_grow_zeros (P := Tryz.prog) w 65 3 ty 82 i0 (.int .u64 0) .i64 .i64 ht htn hi hz0 (some ⟨g, 0, none⟩) n c (dcs .u64 xs) (by rw [hz1]; exact hold) k (by omega) (by rw [hz1]; decide) (by omega) (by omega) (by rw [hz2]; omega) (by rw [hz2]; exact growslice_fits (by omega) (by omega))
    have hge := grownCap_ge w (n + k) c 82
    have hcm := grownCap_le_maxLen w (n + k) c 82 (by unfold maxLen; omega)
    have hcm : grownCap w (n + k) c 82 ≤ 9223372036854775807 := hcm
    rw [zero_zs, zero_zs] at hr
    refine ⟨_, _, _, hr, ⟨_, heap_alloc_new w.drew _, ?_, ?_⟩, hge, hcm, ⟨rfl, rfl, rfl, by simp, fun j hj _ => heap_alloc_old w.drew _ hj⟩, .inr (Nat.le_refl _)⟩
    · simp only [Array.size_append, List.size_toArray, dcs_len, zs_len, hl]
      omega
    · simp only [Array.toList_append]
      have e : dcs .u64 xs ++ dcs .u64 (zs k) = dcs .u64 (xs ++ zs k) := by simp [dcs]
      rw [e]
      have e2 : (xs ++ zs k).length = (dcs .u64 (xs ++ zs k)).length := by rw [dcs_len]
      rw [e2, List.take_left]

theorem wpList_zeros {ops : Array Oper} {rest : List Oper} {o : Oper} {a : Act} {w : World} {Q : Exit → Act → World → Prop} (hgd : o.guard = none) (s x : Operand)
    (ho : o.op = .call { callee := .builtin .append, args := #[s, x], argTypes := #[65, 3] })
    (g n c k : Nat) (xs : List Nat) (hs : a.eval s = .slice (some ⟨g, 0, none⟩) n c) (hx : a.eval x = .int .i64 (k : Int)) (hM : Mz w g 82 .u64 c xs) (hl : xs.length = n) (hc : c ≤ 9223372036854775807) (hk : n + k ≤ 4000000)
    (h : ∀ g' c' w', Mz w' g' 82 .u64 c' (xs ++ zs k) → n + k ≤ c' → c' ≤ 9223372036854775807 → w.grownBy w' (some g) → (g' = g ∨ w.heap.size ≤ g') → wpList Tryz.prog ops Q rest (a.put o.dst (.slice (some ⟨g', 0, none⟩) (n + k) c')) w') :
    wpList Tryz.prog ops Q (o :: rest) a w := by
  refine wpList_plain hgd fun K hK => ?_
  obtain ⟨g', c', w', hr, h1, h2, h3, h4, h5⟩ := run_zeros g n c k xs w o.type hM hl hc hk
  unfold Oper.wp
  simp [execOp, ho, resolve, invoke, builtin, hs, hx, hr, Result.andThen]
  exact hK _ _ (h _ _ _ h1 h2 h3 h4 h5)

theorem stretch_any (g n c N : Nat) (xs : List Nat) (w : World) (hM : Mz w g 82 .u64 c xs) (hl : Hid (xs.length = n)) (hc : c ≤ 9223372036854775807) (hN : n ≤ N) (hb : N ≤ 4000000) :
    Calls Tryz.prog 144 #[.slice (some ⟨g, 0, none⟩) n c, .int .i64 (N : Int)] w fun e w' => ∃ g' c', e = .returned (.slice (some ⟨g', 0, none⟩) N c') ∧ Mz w' g' 82 .u64 c' (xs ++ zs (N - n)) ∧ N ≤ c' ∧ c' ≤ 9223372036854775807 ∧
      w.grownBy w' (some g) ∧ (g' = g ∨ w.heap.size ≤ g') := by
  have hnc := hM.le
  rw [hl.out] at hnc
  obtain ⟨k, rfl⟩ : ∃ k, N = n + k := ⟨N - n, by omega⟩
  have ek : ((n + k : Nat) : Int) - (n : Int) = (k : Int) := by omega
  go_enter Tryz.func144, Tryz.ntmps144
  go_wp2_with (at_builtin; refine wpList_zeros rfl _ _ rfl g n c k xs rfl ?e1 hM hl.out hc (by omega) ?_)
  case e1 => show Value.int .i64 _ = _; congr 1
  intro g' c' w' h1 h2 h3 h4 h5
  go_wp2
  go_ret
  exact ⟨g', c', rfl, by rw [show n + k - n = k by omega]; exact h1, h2, h3, h4, h5⟩
end Go.Proofs.YtbgihlfblmilmaaGreatDoor.Fr

/- Sums, differences and shifts as new numbers. -/
namespace Go.Proofs.YtbgihlfblmilmaaGreatDoor.Fr
open Go.RowKit Num

theorem info_u64s : (Tryz.prog.info? 82).map (·.size) = some 1 := by kernel_rfl
theorem add_value {b : Nat} (hb : 2 ≤ b) {xs ys cur : List Nat} {n n' cy : Nat} (hx : Okd b xs) (hy : Okd b ys) (hl : xs.length = n) (hl' : ys.length = n') (hnn : n' ≤ n)
    (hv : vl b cur + b ^ (0 + (n + 1)) * cy = vl b (xs ++ [0]) + b ^ 0 * vl b ys) : vl b cur = vl b xs + vl b ys := by
  rw [vl_snoc, Nat.mul_zero, Nat.add_zero, Nat.pow_zero, Nat.one_mul, Nat.zero_add] at hv
  have h1 := vl_lt hx
  have h2 := vl_lt hy
  rw [hl] at h1
  rw [hl'] at h2
  have h3 : b ^ n' ≤ b ^ n := Nat.pow_le_pow_right (by omega) hnn
  have h4 : b ^ (n + 1) = b ^ n * b := Nat.pow_succ ..
  have h6 : b ^ n * 2 ≤ b ^ n * b := Nat.mul_le_mul_left _ hb
  rw [h4] at hv
  rcases Nat.eq_zero_or_pos cy with h0 | h0
  · subst h0; omega
  · exfalso
    have h5 : b ^ n * b * 1 ≤ b ^ n * b * cy := Nat.mul_le_mul_left _ h0
    omega
theorem splice_add {xs : List Nat} {n : Nat} (hl : xs.length = n) : splice (dcs .u64 (zs (n + 1))) 0 (dcs .u64 xs) = dcs .u64 (xs ++ [0]) := by
  unfold splice
  rw [List.take_zero, List.nil_append, dcs_len, hl, Nat.zero_add]
  have : (dcs .u64 (zs (n + 1))).drop n = dcs .u64 [0] := by
    unfold dcs zs
    rw [← List.map_drop, List.drop_replicate, show n + 1 - n = 1 by omega]; rfl
  rw [this]
  simp [dcs]

set_option maxHeartbeats 1600000 in
set_option maxRecDepth 100000 in
theorem add_ge (sw : Bool) (A A' : Option Addr) (n c n' c' : Nat) (xs ys : List Nat) (w : World) (h : Dg .u64 w A n c xs) (h' : Dg .u64 w A' n' c' ys) (hn : n ≤ 1000000) (hnn : n' ≤ n) (hsw : sw = true → n' < n) :
    Calls Tryz.prog 114 (if sw then #[.slice A' n' c', .slice A n c] else #[.slice A n c, .slice A' n' c']) w (RetF .u64 w (vl (bs .u64) xs + vl (bs .u64) ys) (n + 1)) := by
  have hmk := make_u64 (n + 1) (by omega)
  rw [show ((n + 1 : Nat) : Int) = (n : Int) + 1 by omega] at hmk
  have hc := h.top
  have hc1 := h.cap
  have hc' := h'.top
  have hc1' := h'.cap
  have hxl := h.len
  have Hxo := h.ok
  have HV := Lib.hid (fun (cur : List Nat) (cy : Nat) => add_value (b := bs .u64) (by decide) (cur := cur) (cy := cy) h.ok h'.ok h.len h'.len hnn)
  have G1 := h.alloc (.cells (dcs .u64 (zs (n + 1))).toArray 82)
  have G2 := h'.alloc (.cells (dcs .u64 (zs (n + 1))).toArray 82)
  have hM0 := heap_alloc_new w (.cells (dcs .u64 (zs (n + 1))).toArray 82)
  have hb0 := (Below.refl w.heap.size w).alloc (Nat.le_refl _) (.cells (dcs .u64 (zs (n + 1))).toArray 82)
  have hpos := Lib.hid (show 0 < (dcs .u64 xs).length → some (⟨w.heap.size, 0, none⟩ : Addr) = some ⟨w.heap.size, 0, none⟩ ∧ ∃ ad, A = some ad ∧ ∀ j v, (dcs .u64 xs)[j]? = some v → (w.alloc (.cells (dcs .u64 (zs (n + 1))).toArray 82)).cell? (ad.add j) = some v from fun hp => by
    rw [dcs_len, hxl] at hp
    obtain ⟨ad, rfl, _⟩ := G1.cell hp
    exact ⟨rfl, ad, rfl, G1.news hp⟩)
  have s1 := Lib.hid (show (dcs .u64 xs).length = Nat.min n (n + 1) by rw [dcs_len, hxl]; exact (Nat.min_eq_left (by omega)).symm)
  have s2 := Lib.hid (show 0 + (dcs .u64 xs).length ≤ (dcs .u64 (zs (n + 1))).length by rw [dcs_len, dcs_len, zs_len, hxl]; omega)
  have hsp := Lib.hid (splice_add hxl)
  have key : ∀ w' : World, Hid (w'.heap[w.heap.size]? = some (.cells (splice (dcs .u64 (zs (n + 1))) 0 (dcs .u64 xs)).toArray 82 (0, 0))) → Below w.heap.size w w' → Mk w' w.heap.size 82 .u64 (xs ++ [0]) := by
    intro w' h1 _
    have h1 := h1.out
    rw [hsp.out] at h1
    exact ⟨_, h1, by simp [List.take_of_length_le, dcs_len]⟩
  have hok1 : Okd (bs .u64) (xs ++ [0]) := h.ok.append (by intro y hy; simp at hy; subst hy; decide)
  have hl1 : (xs ++ [0]).length = n + 1 := by simp [hxl]
  clear hxl
  cases sw with
  | false =>
    have hnl : ¬ (n : Int) < (n' : Int) := by omega
    rw [if_neg (by simp)]
    go_enter Tryz.func114, Tryz.ntmps114
    go_wp2_with (refine wpList_copy_splice rfl (.tmp 17) (.tmp 18) 65 65 rfl 82 Tryz.underlying65 info_u64s (some ⟨w.heap.size, 0, none⟩) A (n + 1) (n + 1) n c rfl rfl w.heap.size 0 (dcs .u64 (zs (n + 1))) 82 hM0 (dcs .u64 xs) s1.out hpos.out s2.out (oneCell_dcs _ _) w.heap.size w hb0 (Nat.le_refl _) ?_; intro w3 hM3 hb3)
    have hM3 := key w3 hM3 hb3
    have hB3 := h'.below hb3
    go_wp2_with fail
    refine (increase_any w.heap.size 0 (n + 1) (n + 1) A' n' c' (xs ++ [0]) ys w3 hM3 hok1 (by omega) (by omega) (by omega) hB3 (by omega) (fun hp ad he => by have := h'.blt hp ad he; omega)).mono ?_
    rintro e w4 ⟨cy, cur, rfl, _, hM4, hok4, hl4, hv4, _, hon4⟩
    have hb4 := hb3.trans (hon4.below (Nat.le_refl _))
    have hl4' := hl4.out
    rw [hl1] at hl4'
    have hD := hM4.dg64 hl4' (by omega) hok4
    have Hv := Lib.hid (HV.out cur cy hv4.out)
    clear hl4'
    go_wp2_with fail
    refine (trim64_any _ _ _ _ _ hD).mono ?_
    rintro e w' ⟨rfl, rfl⟩
    go_wp2
    go_ret
    exact RetF.tr hD Hv.out (Nat.le_refl _) hb4 (fun ad he => by injection he with he; subst he; exact Nat.le_refl _)
  | true =>
    have hnl : (n' : Int) < (n : Int) := by have := hsw rfl; omega
    rw [if_pos rfl]
    go_enter Tryz.func114, Tryz.ntmps114
    go_wp2_with (refine wpList_copy_splice rfl (.tmp 17) (.tmp 18) 65 65 rfl 82 Tryz.underlying65 info_u64s (some ⟨w.heap.size, 0, none⟩) A (n + 1) (n + 1) n c rfl rfl w.heap.size 0 (dcs .u64 (zs (n + 1))) 82 hM0 (dcs .u64 xs) s1.out hpos.out s2.out (oneCell_dcs _ _) w.heap.size w hb0 (Nat.le_refl _) ?_; intro w3 hM3 hb3)
    have hM3 := key w3 hM3 hb3
    have hB3 := h'.below hb3
    go_wp2_with fail
    refine (increase_any w.heap.size 0 (n + 1) (n + 1) A' n' c' (xs ++ [0]) ys w3 hM3 hok1 (by omega) (by omega) (by omega) hB3 (by omega) (fun hp ad he => by have := h'.blt hp ad he; omega)).mono ?_
    rintro e w4 ⟨cy, cur, rfl, _, hM4, hok4, hl4, hv4, _, hon4⟩
    have hb4 := hb3.trans (hon4.below (Nat.le_refl _))
    have hl4' := hl4.out
    rw [hl1] at hl4'
    have hD := hM4.dg64 hl4' (by omega) hok4
    have Hv := Lib.hid (HV.out cur cy hv4.out)
    clear hl4'
    go_wp2_with fail
    refine (trim64_any _ _ _ _ _ hD).mono ?_
    rintro e w' ⟨rfl, rfl⟩
    go_wp2
    go_ret
    exact RetF.tr hD Hv.out (Nat.le_refl _) hb4 (fun ad he => by injection he with he; subst he; exact Nat.le_refl _)

theorem RetF.le {k : IntKind} {w w' : World} {x L L' : Nat} {e : Ending} (h : RetF k w x L e w') (hl : L ≤ L') : RetF k w x L' e w' := by
  obtain ⟨A, m, c, us, h1, h2, h3, h4, h5, h6⟩ := h
  exact ⟨A, m, c, us, h1, h2, h3, h4, by omega, h6⟩

theorem add_any (A A' : Option Addr) (n c n' c' : Nat) (xs ys : List Nat) (w : World) (h : Dg .u64 w A n c xs) (h' : Dg .u64 w A' n' c' ys) (hn : n ≤ 1000000) (hn' : n' ≤ 1000000) :
    Calls Tryz.prog 114 #[.slice A n c, .slice A' n' c'] w (RetF .u64 w (vl (bs .u64) xs + vl (bs .u64) ys) (max n n' + 1)) := by
  rcases Nat.lt_or_ge n n' with hl | hl
  · have := add_ge true A' A n' c' n c ys xs w h' h hn' (by omega) (fun _ => hl)
    rw [if_pos rfl] at this
    refine this.mono fun e w' hr => ?_
    rw [Nat.add_comm] at hr
    exact hr.le (by omega)
  · have := add_ge false A A' n c n' c' xs ys w h h' hn hl (by simp)
    rw [if_neg (by simp)] at this
    exact this.mono fun e w' hr => hr.le (by omega)

theorem decrease_none (A A' : Option Addr) (c c' : Nat) (w : World) :
    Calls Tryz.prog 153 #[.slice A 0 c, .slice A' 0 c'] w fun e w' => e = .returned (.tuple #[]) ∧ w = w' := by
  go_enter Tryz.func153, Tryz.ntmps153
  go_wp2
  go_loop [4, 10] (fun cv iv => cv = .int .u64 0 ∧ iv = .int .i64 0) (fun _ iv => (1 - intOf iv).toNat)
  case atStart => exact ⟨rfl, rfl⟩
  case round =>
    obtain ⟨rfl, rfl⟩ := hrel
    go_wp2
    go_loop [4, 7] (fun cv iv => cv = .int .u64 0 ∧ iv = .int .i64 0) (fun _ iv => (1 - intOf iv).toNat)
    case atStart => exact ⟨rfl, rfl⟩
    case round =>
      obtain ⟨rfl, rfl⟩ := hrel
      go_wp2
      go_end0
      exact ⟨rfl, rfl⟩

set_option maxHeartbeats 1600000 in
theorem sub_any (A A' : Option Addr) (n c n' c' : Nat) (xs ys : List Nat) (w : World) (h : Dg .u64 w A n c xs) (h' : Dg .u64 w A' n' c' ys) (hn : n ≤ 1000000) (hnn : n' ≤ n) (hle : vl (bs .u64) ys ≤ vl (bs .u64) xs) :
    Calls Tryz.prog 129 #[.slice A n c, .slice A' n' c'] w (RetF .u64 w (vl (bs .u64) xs - vl (bs .u64) ys) n) := by
  have hle := Lib.hid hle
  have hc' := h'.top
  rcases Nat.eq_zero_or_pos n with hz | hp
  · subst hz
    obtain rfl : n' = 0 := by omega
    have H0 := Lib.hid (show vl (bs .u64) xs - vl (bs .u64) ys = 0 by rw [List.eq_nil_of_length_eq_zero h.len]; simp [vl])
    go_enter Tryz.func129, Tryz.ntmps129
    go_wp2_with fail
    refine (clone_none A c xs w h).mono ?_
    rintro e w2 ⟨A2, c2, rfl, hc2, hb2, hf2⟩
    go_wp2_with fail
    refine (decrease_none A2 A' c2 c' w2).mono ?_
    rintro e w3 ⟨rfl, rfl⟩
    have hD : Dg .u64 w2 A2 0 c2 [] := ⟨rfl, by omega, hc2, Okd.nil _, fun hp => by omega⟩
    go_wp2_with fail
    refine (trim64_any _ _ _ _ _ hD).mono ?_
    rintro e w' ⟨rfl, rfl⟩
    go_wp2
    go_ret
    rw [H0.out]
    exact ⟨A2, 0, c2, [], rfl, hD, Nrm.nil, rfl, by omega, hb2, hf2⟩
  · go_enter Tryz.func129, Tryz.ntmps129
    go_wp2_with fail
    refine (clone_own A n c xs w h (by omega) hp).mono ?_
    rintro e w2 ⟨g, ca, rfl, hM, hca, hca2, hge, hb2⟩
    go_wp2_with fail
    refine (decrease_any g n ca A' n' c' xs ys w2 hM.mk h.ok h.len hca hca2 (h'.below hb2) hnn (fun hp ad he => by have := h'.blt hp ad he; omega) hle.out).mono ?_
    rintro e w3 ⟨cur, rfl, hM3, hok3, hl3, hv3, hon3⟩
    have hb3 := hb2.trans (hon3.below hge)
    have hD : Dg .u64 w3 (some ⟨g, 0, none⟩) n ca cur := ⟨hl3.out, hca, hca2, hok3, (hM3.dg64 hl3.out (by omega) hok3).cell⟩
    have Hv := Lib.hid (show vl (bs .u64) cur = vl (bs .u64) xs - vl (bs .u64) ys by have := hv3.out; omega)
    go_wp2_with fail
    refine (trim64_any _ _ _ _ _ hD).mono ?_
    rintro e w' ⟨rfl, rfl⟩
    go_wp2
    go_ret
    exact RetF.tr hD Hv.out (Nat.le_refl _) hb3 (fun ad he => by injection he with he; subst he; exact hge)
end Go.Proofs.YtbgihlfblmilmaaGreatDoor.Fr
