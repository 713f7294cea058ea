/- The words of numbers. -/
import Derived.Test.YtpdfjlbfhnapkaaGreatDoorSU
namespace Go.Proofs.YtpdfjlbfhnapkaaGreatDoor
open Go.RowKit
set_option linter.unusedSimpArgs false
set_option linter.unusedVariables false

theorem blk_type {W : World} {g g' : Nat} {t e : TypeId} {cs : Array Value} {base size n cap : Nat} {xs : List Value} (h : Blk W g t cs) (ho : W.ownsRow base e size (.slice (some ⟨g', 0, none⟩) n cap) n xs) (hte : t ≠ e) : g ≠ g' := by
  rintro rfl
  rcases ho.2 with ⟨h2, _⟩ | ⟨g2, cap2, cur, h2, h3, h4, _⟩
  · cases h2
  · injection h2 with h5 h6 h7
    injection h5 with h5
    injection h5 with h5
    subst h5
    unfold Blk at h
    rw [h] at h4
    injection h4 with h4
    injection h4 with h4 h6
    exact hte h6
theorem blk_row {W : World} {g : Nat} {t e : TypeId} {cs : Array Value} {base size n : Nat} {V : Value} {xs : List Value} (h : Blk W g t cs) (ho : W.ownsRow base e size V n xs) (hte : t ≠ e) : some g ≠ V.ownBlock := by
  rcases ho.2 with ⟨rfl, _⟩ | ⟨g2, cap2, cur, rfl, _⟩
  · simp [Value.ownBlock]
  · intro e2
    simp only [Value.ownBlock, Option.some.injEq] at e2
    exact blk_type h ho hte e2

/-- the last words of a number, behind some words -/
def lastW (pre : List Str) (n : Nat) : List Str := if pre = [] then twoW n else if n = 0 then pre else pre ++ [[97, 110, 100]] ++ twoW n
def tailW (pre : List Str) (n : Nat) : List Str := if 100 ≤ n then lastW (pre ++ [smallN (n / 100), [104, 117, 110, 100, 114, 101, 100]]) (n % 100) else lastW pre n
def loopW (cnt : Nat → List Str) : List (Nat × Str) → List Str → Nat → List Str × Nat
  | [], pre, n => (pre, n)
  | p :: ps, pre, n => if p.1 ≤ n then loopW cnt ps (pre ++ cnt (n / p.1) ++ [p.2]) (n % p.1) else loopW cnt ps pre n
def cntG (cnt : Nat → List Str) (n : Nat) : List Str := tailW (loopW cnt powL [] n).1 (loopW cnt powL [] n).2
theorem src_lit {w : World} {g : Nat} {x : Str} (h : Blk w g 9 #[.string ⟨x.toArray⟩]) : Src w (some ⟨g, 0, none⟩) 1 1 (svs [x]) 1 :=
  ⟨rfl, (fun e => by cases e), (fun ad e j u hu => by
    injection e with e
    subst e
    cases j with
    | zero => injection hu with hu; subst hu; rw [add_new]; exact h.cell 0
    | succ j => cases hu), oneCell_svs [x]⟩
theorem twoW_len (n : Nat) : (twoW n).length ≤ 2 := by
  unfold twoW; split
  · simp
  · split <;> simp
/-- a row of strings with some more behind it -/
theorem own_app {w' : World} {base n m : Nat} {V : Value} {xs ys : List Str} (h : w'.ownsRow base 9 1 V (n + m) (svs xs ++ svs ys)) (hn : xs.length = n) (hm : ys.length = m) : w'.ownsRow base 9 1 V (xs ++ ys).length (svs (xs ++ ys)) := by
  rw [List.length_append, hn, hm, svs_app]; exact h

set_option maxRecDepth 100000 in
set_option maxHeartbeats 16000000 in
theorem count_gen (n0 : Nat) (hn0 : n0 < 1000000000000) (cnt : Nat → List Str) (hcl0 : ∀ q, (cnt q).length ≤ 100) (hrec0 : 1000 ≤ n0 → ∀ q : Nat, 1 ≤ q → q < 1000 → ∀ w, WT w → Calls Tryz.prog 213 #[.int .i64 (q : Int)] w (RetW (cnt q) w)) (w : World) (hT : WT w) :
    Calls Tryz.prog 213 #[.int .i64 (n0 : Int)] w (RetW (cntG cnt n0) w) := by
  have hrec := Lib.hid hrec0
  have hcl := Lib.hid hcl0
  clear hrec0 hcl0
  obtain ⟨i0, hi, hz0, hz1, hz2⟩ := info_parts info_str
  have c0 : w.cell? ⟨3, 0, none⟩ = some (.int .i64 1000000000) := hT.pow1 0 (by decide)
  have c1 : w.cell? ⟨3, 1, none⟩ = some (.string ⟨#[98, 105, 108, 108, 105, 111, 110]⟩) := hT.pow2 0 (by decide)
  have c2 : w.cell? ⟨3, 2, none⟩ = some (.int .i64 1000000) := hT.pow1 1 (by decide)
  have c3 : w.cell? ⟨3, 3, none⟩ = some (.string ⟨#[109, 105, 108, 108, 105, 111, 110]⟩) := hT.pow2 1 (by decide)
  have c4 : w.cell? ⟨3, 4, none⟩ = some (.int .i64 1000) := hT.pow1 2 (by decide)
  have c5 : w.cell? ⟨3, 5, none⟩ = some (.string ⟨#[116, 104, 111, 117, 115, 97, 110, 100]⟩) := hT.pow2 2 (by decide)
  go_enter Tryz.func213, Tryz.ntmps213
  go_wp2
  clear c0 c1 c2 c3 c4 c5
  go_loopw [0, 3, 7] (fun mv Vv iv wr' => ∃ (j m : Nat) (V : Value) (pre : List Str) (wr : World), wr = wr' ∧ mv = .int .i64 (m : Int) ∧ V = Vv ∧ iv = .int .i64 (j : Int) ∧ j ≤ 3 ∧ m ≤ n0 ∧ (j = 0 → m < 1000000000000) ∧ (j = 1 → m < 1000000000) ∧ (j = 2 → m < 1000000) ∧ (j = 3 → m < 1000) ∧ pre.length ≤ j * 101 ∧ Hid (loopW cnt powL [] n0 = loopW cnt (powL.drop j) pre m) ∧ wr.ownsRow w.heap.size 9 1 V pre.length (svs pre) ∧ Below w.heap.size w wr) (fun _ _ iv _ => 3 - (intOf iv).toNat)
  case atStart => exact ⟨0, n0, _, [], _, rfl, rfl, rfl, rfl, by decide, Nat.le_refl _, fun _ => hn0, fun h => by omega, fun h => by omega, fun h => by omega, by simp, rfl, World.ownsRow_nil _ _ _ _, Below.refl _ _⟩
  case round =>
    obtain ⟨j, m, V, pre, wr, rfl, rfl, rfl, rfl, hj, hmn, hm0, hm1, hm2, hm3, hpl, hq, hown, hbel⟩ := hrel
    have hbs := hbel.size
    have hTr := hT.below hbel
    rcases (show j = 0 ∨ j = 1 ∨ j = 2 ∨ j = 3 by omega) with rfl | rfl | rfl | rfl
    · have hml := hm0 rfl
      clear hm0 hm1 hm2 hm3
      have hix : ∀ w9 : World, (Instr.index 154 (.agg #[.int .i64 1000000000, .string ⟨#[98, 105, 108, 108, 105, 111, 110]⟩, .int .i64 1000000, .string ⟨#[109, 105, 108, 108, 105, 111, 110]⟩, .int .i64 1000, .string ⟨#[116, 104, 111, 117, 115, 97, 110, 100]⟩]) (.int .i64 0)).run Tryz.prog w9 = .ok (.agg #[.int .i64 1000000000, .string ⟨#[98, 105, 108, 108, 105, 111, 110]⟩]) w9 := fun _ => by kernel_rfl
      have hba := hbel.alloc hbs (.cells #[.int .i64 1000000000, .string ⟨#[98, 105, 108, 108, 105, 111, 110]⟩] 153)
      have hBk := Blk.new wr 153 #[.int .i64 1000000000, .string ⟨#[98, 105, 108, 108, 105, 111, 110]⟩]
      have hownA := own_below hown ((Below.refl wr.heap.size wr).alloc (Nat.le_refl _) (.cells #[.int .i64 1000000000, .string ⟨#[98, 105, 108, 108, 105, 111, 110]⟩] 153))
      have k0 : (wr.alloc (.cells #[.int .i64 1000000000, .string ⟨#[98, 105, 108, 108, 105, 111, 110]⟩] 153)).cell? ⟨wr.heap.size, 0, none⟩ = some (.int .i64 1000000000) := hBk.cell 0
      by_cases hm : 1000000000 ≤ m
      · have hm1 : (1000000000 : Int) ≤ (m : Int) := by omega
        have hm2 : decide ((1000000000 : Int) ≤ (m : Int)) = true := decide_eq_true hm1
        obtain ⟨q, hq9⟩ : ∃ q, m / 1000000000 = q := ⟨_, rfl⟩
        obtain ⟨r, hr9⟩ : ∃ r, m % 1000000000 = r := ⟨_, rfl⟩
        have hs := Lib.hid (show loopW cnt powL [] n0 = loopW cnt (powL.drop (0 + 1)) (pre ++ cnt q ++ [[98, 105, 108, 108, 105, 111, 110]]) r by
          rw [hq.out, ← hq9, ← hr9]
          exact if_pos hm)
        have d1 : (m : Int).tdiv 1000000000 = (q : Int) := by rw [Int.tdiv_eq_ediv_of_nonneg (by omega)]; omega
        have d2 : (m : Int) / 1000000000 = (q : Int) := by omega
        have d3 : (m : Int).tmod 1000000000 = (r : Int) := by rw [Int.tmod_eq_emod_of_nonneg (by omega)]; omega
        have d4 : (m : Int) % 1000000000 = (r : Int) := by omega
        have hq1 : 1 ≤ q := by omega
        have hq2 : q < 1000 := by omega
        have wq : IntKind.i64.wrap (q : Int) = (q : Int) := IntWalk.i64_in _ (by omega)
        have hrb : r < 1000000000 := by omega
        have hrm : r ≤ n0 := by omega
        have hc := Lib.hid (hrec.out (by omega) q hq1 hq2)
        have hcq := hcl.out q
        clear hq9 hr9 hm
        generalize cnt q = Y at *
        go_wp2_with fail
        generalize wr.alloc (.cells #[.int .i64 1000000000, .string ⟨#[98, 105, 108, 108, 105, 111, 110]⟩] 153) = w1 at *
        have hHd : (fun wx : World => wx.cell? ⟨wr.heap.size, 0, none⟩ = some (.int .i64 1000000000) ∧ wx.cell? ⟨wr.heap.size, 1, none⟩ = some (.string ⟨#[98, 105, 108, 108, 105, 111, 110]⟩)) w1.drew := ⟨(hBk.drewN 1).cell 0, (hBk.drewN 1).cell 1⟩
        refine wp_region_held_drew (S := (fun wx => wx.cell? ⟨wr.heap.size, 0, none⟩ = some (.int .i64 1000000000) ∧ wx.cell? ⟨wr.heap.size, 1, none⟩ = some (.string ⟨#[98, 105, 108, 108, 105, 111, 110]⟩))) (by kernel_rfl) hHd (fun hHeld => ?_)
        have hB0 := hBk.drewN 1
        have hO0 : (w1.drewN 1).ownsRow w.heap.size 9 1 V pre.length (svs pre) := hownA
        have hb0 := bel_drewN hba 1
        have hT0 := hT.below hb0
        clear hHd hownA k0
        refine wpAnyH_take (i := 0) (v := V) rfl (by kernel_rfl) (by kernel_rfl) (by kernel_rfl) (fun _ _ _ h => h) (Or.inl ⟨by kernel_rfl, by (intro w hSw; (try dsimp only at hSw); go_simp)⟩) hHeld ?_
        simp only [Act.put, List.getElem_toArray, List.getElem_cons_succ, List.getElem_cons_zero, List.setIfInBounds_toArray, List.set_cons_zero, List.set_cons_succ]
        refine wpAnyH_take (i := 1) (v := .int .i64 (m : Int)) rfl (by kernel_rfl) (by kernel_rfl) (by kernel_rfl) (fun _ _ _ h => h) (Or.inl ⟨by kernel_rfl, by (intro w hSw; (try dsimp only at hSw); go_simp)⟩) hHeld ?_
        simp only [Act.put, List.getElem_toArray, List.getElem_cons_succ, List.getElem_cons_zero, List.setIfInBounds_toArray, List.set_cons_zero, List.set_cons_succ]
        refine wpAnyH_take (i := 2) (v := .pointer (some ⟨wr.heap.size, 0, none⟩)) rfl (by kernel_rfl) (by kernel_rfl) (by kernel_rfl) (fun _ _ _ h => h) (Or.inl ⟨by kernel_rfl, by (intro w hSw; (try dsimp only at hSw); go_simp)⟩) hHeld ?_
        simp only [Act.put, List.getElem_toArray, List.getElem_cons_succ, List.getElem_cons_zero, List.setIfInBounds_toArray, List.set_cons_zero, List.set_cons_succ]
        refine wpAnyH_take (i := 3) (v := .int .i64 1000000000) rfl (by kernel_rfl) (by kernel_rfl) (by kernel_rfl) (fun _ _ _ h => h) (Or.inl ⟨by kernel_rfl, by (intro w hSw; (try dsimp only at hSw); go_simp)⟩) hHeld ?_
        simp only [Act.put, List.getElem_toArray, List.getElem_cons_succ, List.getElem_cons_zero, List.setIfInBounds_toArray, List.set_cons_zero, List.set_cons_succ]
        refine wpAnyH_take (i := 4) (v := .int .i64 (q : Int)) rfl (by kernel_rfl) (by kernel_rfl) (by kernel_rfl) (fun _ _ _ h => h) (Or.inl ⟨by kernel_rfl, by (intro w hSw; (try dsimp only at hSw); go_simp)⟩) hHeld ?_
        simp only [Act.put, List.getElem_toArray, List.getElem_cons_succ, List.getElem_cons_zero, List.setIfInBounds_toArray, List.set_cons_zero, List.set_cons_succ]
        refine wpAnyH_take (i := 7) (v := .pointer (some ⟨wr.heap.size, 1, none⟩)) rfl (by kernel_rfl) (by kernel_rfl) (by kernel_rfl) (fun _ _ _ h => h) (Or.inl ⟨by kernel_rfl, by (intro w hSw; (try dsimp only at hSw); go_simp)⟩) hHeld ?_
        simp only [Act.put, List.getElem_toArray, List.getElem_cons_succ, List.getElem_cons_zero, List.setIfInBounds_toArray, List.set_cons_zero, List.set_cons_succ]
        refine wpAnyH_take (i := 8) (v := .string ⟨#[98, 105, 108, 108, 105, 111, 110]⟩) rfl (by kernel_rfl) (by kernel_rfl) (by kernel_rfl) (fun _ _ _ h => h) (Or.inl ⟨by kernel_rfl, by (intro w hSw; (try dsimp only at hSw); go_simp)⟩) hHeld ?_
        simp only [Act.put, List.getElem_toArray, List.getElem_cons_succ, List.getElem_cons_zero, List.setIfInBounds_toArray, List.set_cons_zero, List.set_cons_succ]
        refine wpAnyH_ready (rs := [5, 9]) (by kernel_rfl) (by simp) ?_
        refine AllReadyH.cons rfl (fun K hK => ?_) (AllReadyH.cons rfl (fun K hK => ?_) AllReadyH.nil)
        · go_simp
          refine (hc.out _ hT0).mono ?_
          rintro e x1 ⟨V2, rfl, hY, hx⟩
          have hB1 := hB0.below hx
          have hO1 := own_below hO0 hx
          have hb1 := hb0.trans (hx.mono hb0.size)
          have hT1 := hT.below hb1
          obtain ⟨A2, c2, rfl, hSY1⟩ := Src.of_own hY (oneCell_svs Y)
          clear hY hx
          go_wp2_with fail
          refine hK.out _ _ ⟨hB1.cell 0, hB1.cell 1⟩ (fun hHeld => ?_)
          clear hK K
          try simp only [Act.put, List.getElem_toArray, List.getElem_cons_succ, List.getElem_cons_zero, List.setIfInBounds_toArray, List.set_cons_zero, List.set_cons_succ]
          refine wpAnyH_ready (rs := [6, 9]) (by kernel_rfl) (by simp) ?_
          refine AllReadyH.cons rfl (fun K hK => ?_) (AllReadyH.cons rfl (fun K hK => ?_) AllReadyH.nil)
          · refine step_append_any (by rfl) _ _ _ (by rfl) w.heap.size 9 i0 (.string ⟨#[]⟩) 1 16 Tryz.underlying32 hi hz0 hz1 hz2 (by rfl) (by decide) V pre.length (svs pre) (by rfl) hO1 A2 Y.length c2 (svs Y) (by rfl) hSY1 (by unfold maxLen; omega) (by omega) hb1.size ?_
            intro V3 x2 hO hG _
            have hB2 := hB1.grown hG (blk_row hB1 hO1 (by decide))
            have hb2 : Below w.heap.size w x2 := bel_grown2 hb1 hG (fun k9 e => (hO1.lt k9 e).1)
            have hT2 := hT.below hb2
            have hO2 := own_app hO rfl rfl
            clear hO hG
            refine hK.out _ _ ⟨hB2.cell 0, hB2.cell 1⟩ (fun hHeld => ?_)
            clear hK K
            try simp only [Act.put, List.getElem_toArray, List.getElem_cons_succ, List.getElem_cons_zero, List.setIfInBounds_toArray, List.set_cons_zero, List.set_cons_succ]
            refine wpAnyH_ready (rs := [9]) (by kernel_rfl) (by simp) ?_
            refine AllReadyH.cons rfl (fun K hK => ?_) AllReadyH.nil
            have hL3 := Blk.new (x2) 9 #[.string ⟨#[98, 105, 108, 108, 105, 111, 110]⟩]
            have hAl := (Below.refl (x2).heap.size (x2)).alloc (Nat.le_refl _) (.cells #[.string ⟨#[98, 105, 108, 108, 105, 111, 110]⟩] 9)
            have hB3 := hB2.below hAl
            have hO3 := own_below hO2 hAl
            have hb3 := hb2.trans (hAl.mono hb2.size)
            have hT3 := hT.below hb3
            clear hAl
            go_simp
            refine hK.out _ _ ⟨hB3.cell 0, hB3.cell 1⟩ (fun hHeld => ?_)
            clear hK K
            try simp only [Act.put, List.getElem_toArray, List.getElem_cons_succ, List.getElem_cons_zero, List.setIfInBounds_toArray, List.set_cons_zero, List.set_cons_succ]
            refine wpAnyH_ready (rs := [10]) (by kernel_rfl) (by simp) ?_
            refine AllReadyH.cons rfl (fun K hK => ?_) AllReadyH.nil
            have hSL := src_lit (x := [98, 105, 108, 108, 105, 111, 110]) hL3
            refine step_append_any (by rfl) _ _ _ (by rfl) w.heap.size 9 i0 (.string ⟨#[]⟩) 1 16 Tryz.underlying32 hi hz0 hz1 hz2 (by rfl) (by decide) V3 (pre ++ Y).length (svs (pre ++ Y)) (by rfl) hO3 _ 1 1 (svs [[98, 105, 108, 108, 105, 111, 110]]) (by rfl) hSL (by rw [List.length_append]; unfold maxLen; omega) (by rw [List.length_append]; omega) hb3.size ?_
            intro V4 x4 hO hG _
            have hB4 := hB3.grown hG (blk_row hB3 hO3 (by decide))
            have hb4 : Below w.heap.size w x4 := bel_grown2 hb3 hG (fun k9 e => (hO3.lt k9 e).1)
            have hO4 := own_app hO rfl rfl
            clear hO hG hSL
            refine hK.out _ _ ⟨hB4.cell 0, hB4.cell 1⟩ (fun hHeld => ?_)
            clear hK K
            try simp only [Act.put, List.getElem_toArray, List.getElem_cons_succ, List.getElem_cons_zero, List.setIfInBounds_toArray, List.set_cons_zero, List.set_cons_succ]
            refine wpAnyH_take (i := 11) (v := V4) rfl (by kernel_rfl) (by kernel_rfl) (by kernel_rfl) (fun _ _ _ h => h) (Or.inl ⟨by kernel_rfl, by (intro w hSw; (try dsimp only at hSw); go_simp)⟩) hHeld ?_
            simp only [Act.put, List.getElem_toArray, List.getElem_cons_succ, List.getElem_cons_zero, List.setIfInBounds_toArray, List.set_cons_zero, List.set_cons_succ]
            refine wpAnyH_done (by kernel_rfl) ?_ _
            have k0 : x4.cell? ⟨wr.heap.size, 0, none⟩ = some (.int .i64 1000000000) := hB4.cell 0
            have hln : (pre ++ Y ++ [[98, 105, 108, 108, 105, 111, 110]]).length ≤ (0 + 1) * 101 := by rw [List.length_append, List.length_append]; simp; omega
            generalize pre ++ Y ++ [[98, 105, 108, 108, 105, 111, 110]] = PR at *
            go_wp2
            exact ⟨⟨0 + 1, r, V4, PR, _, rfl, rfl, rfl, rfl, by decide, hrm, fun h => by omega, fun h => by omega, fun h => by omega, fun h => by omega, hln, hs.out, hO4, hb4⟩, by simp [intOf]⟩
          · have hL2 := Blk.new (x1) 9 #[.string ⟨#[98, 105, 108, 108, 105, 111, 110]⟩]
            have hAl := (Below.refl (x1).heap.size (x1)).alloc (Nat.le_refl _) (.cells #[.string ⟨#[98, 105, 108, 108, 105, 111, 110]⟩] 9)
            have hB2 := hB1.below hAl
            have hO2 := own_below hO1 hAl
            have hb2 := hb1.trans (hAl.mono hb1.size)
            have hT2 := hT.below hb2
            have hLn2 : some (x1).heap.size ≠ V.ownBlock := fun e => by have := (hO1.lt _ e.symm).2; omega
            have hSY2 := hSY1.below hAl
            clear hAl
            go_simp
            refine hK.out _ _ ⟨hB2.cell 0, hB2.cell 1⟩ (fun hHeld => ?_)
            clear hK K
            try simp only [Act.put, List.getElem_toArray, List.getElem_cons_succ, List.getElem_cons_zero, List.setIfInBounds_toArray, List.set_cons_zero, List.set_cons_succ]
            refine wpAnyH_ready (rs := [6]) (by kernel_rfl) (by simp) ?_
            refine AllReadyH.cons rfl (fun K hK => ?_) AllReadyH.nil
            refine step_append_any (by rfl) _ _ _ (by rfl) w.heap.size 9 i0 (.string ⟨#[]⟩) 1 16 Tryz.underlying32 hi hz0 hz1 hz2 (by rfl) (by decide) V pre.length (svs pre) (by rfl) hO2 A2 Y.length c2 (svs Y) (by rfl) hSY2 (by unfold maxLen; omega) (by omega) hb2.size ?_
            intro V3 x3 hO hG _
            have hB3 := hB2.grown hG (blk_row hB2 hO2 (by decide))
            have hb3 : Below w.heap.size w x3 := bel_grown2 hb2 hG (fun k9 e => (hO2.lt k9 e).1)
            have hT3 := hT.below hb3
            have hO3 := own_app hO rfl rfl
            have hL3 := hL2.grown hG hLn2
            clear hO hG
            refine hK.out _ _ ⟨hB3.cell 0, hB3.cell 1⟩ (fun hHeld => ?_)
            clear hK K
            try simp only [Act.put, List.getElem_toArray, List.getElem_cons_succ, List.getElem_cons_zero, List.setIfInBounds_toArray, List.set_cons_zero, List.set_cons_succ]
            refine wpAnyH_ready (rs := [10]) (by kernel_rfl) (by simp) ?_
            refine AllReadyH.cons rfl (fun K hK => ?_) AllReadyH.nil
            have hSL := src_lit (x := [98, 105, 108, 108, 105, 111, 110]) hL3
            refine step_append_any (by rfl) _ _ _ (by rfl) w.heap.size 9 i0 (.string ⟨#[]⟩) 1 16 Tryz.underlying32 hi hz0 hz1 hz2 (by rfl) (by decide) V3 (pre ++ Y).length (svs (pre ++ Y)) (by rfl) hO3 _ 1 1 (svs [[98, 105, 108, 108, 105, 111, 110]]) (by rfl) hSL (by rw [List.length_append]; unfold maxLen; omega) (by rw [List.length_append]; omega) hb3.size ?_
            intro V4 x4 hO hG _
            have hB4 := hB3.grown hG (blk_row hB3 hO3 (by decide))
            have hb4 : Below w.heap.size w x4 := bel_grown2 hb3 hG (fun k9 e => (hO3.lt k9 e).1)
            have hO4 := own_app hO rfl rfl
            clear hO hG hSL
            refine hK.out _ _ ⟨hB4.cell 0, hB4.cell 1⟩ (fun hHeld => ?_)
            clear hK K
            try simp only [Act.put, List.getElem_toArray, List.getElem_cons_succ, List.getElem_cons_zero, List.setIfInBounds_toArray, List.set_cons_zero, List.set_cons_succ]
            refine wpAnyH_take (i := 11) (v := V4) rfl (by kernel_rfl) (by kernel_rfl) (by kernel_rfl) (fun _ _ _ h => h) (Or.inl ⟨by kernel_rfl, by (intro w hSw; (try dsimp only at hSw); go_simp)⟩) hHeld ?_
            simp only [Act.put, List.getElem_toArray, List.getElem_cons_succ, List.getElem_cons_zero, List.setIfInBounds_toArray, List.set_cons_zero, List.set_cons_succ]
            refine wpAnyH_done (by kernel_rfl) ?_ _
            have k0 : x4.cell? ⟨wr.heap.size, 0, none⟩ = some (.int .i64 1000000000) := hB4.cell 0
            have hln : (pre ++ Y ++ [[98, 105, 108, 108, 105, 111, 110]]).length ≤ (0 + 1) * 101 := by rw [List.length_append, List.length_append]; simp; omega
            generalize pre ++ Y ++ [[98, 105, 108, 108, 105, 111, 110]] = PR at *
            go_wp2
            exact ⟨⟨0 + 1, r, V4, PR, _, rfl, rfl, rfl, rfl, by decide, hrm, fun h => by omega, fun h => by omega, fun h => by omega, fun h => by omega, hln, hs.out, hO4, hb4⟩, by simp [intOf]⟩
        · have hL1 := Blk.new (w1.drewN 1) 9 #[.string ⟨#[98, 105, 108, 108, 105, 111, 110]⟩]
          have hAl := (Below.refl (w1.drewN 1).heap.size (w1.drewN 1)).alloc (Nat.le_refl _) (.cells #[.string ⟨#[98, 105, 108, 108, 105, 111, 110]⟩] 9)
          have hB1 := hB0.below hAl
          have hO1 := own_below hO0 hAl
          have hb1 := hb0.trans (hAl.mono hb0.size)
          have hT1 := hT.below hb1
          have hLn1 : some (w1.drewN 1).heap.size ≠ V.ownBlock := fun e => by have := (hO0.lt _ e.symm).2; omega
          clear hAl
          go_simp
          refine hK.out _ _ ⟨hB1.cell 0, hB1.cell 1⟩ (fun hHeld => ?_)
          clear hK K
          try simp only [Act.put, List.getElem_toArray, List.getElem_cons_succ, List.getElem_cons_zero, List.setIfInBounds_toArray, List.set_cons_zero, List.set_cons_succ]
          refine wpAnyH_ready (rs := [5]) (by kernel_rfl) (by simp) ?_
          refine AllReadyH.cons rfl (fun K hK => ?_) AllReadyH.nil
          go_simp
          refine (hc.out _ hT1).mono ?_
          rintro e x2 ⟨V2, rfl, hY, hx⟩
          have hB2 := hB1.below hx
          have hO2 := own_below hO1 hx
          have hb2 := hb1.trans (hx.mono hb1.size)
          have hT2 := hT.below hb2
          obtain ⟨A2, c2, rfl, hSY2⟩ := Src.of_own hY (oneCell_svs Y)
          have hL2 := hL1.below hx
          have hLn2 := hLn1
          clear hY hx
          go_wp2_with fail
          refine hK.out _ _ ⟨hB2.cell 0, hB2.cell 1⟩ (fun hHeld => ?_)
          clear hK K
          try simp only [Act.put, List.getElem_toArray, List.getElem_cons_succ, List.getElem_cons_zero, List.setIfInBounds_toArray, List.set_cons_zero, List.set_cons_succ]
          refine wpAnyH_ready (rs := [6]) (by kernel_rfl) (by simp) ?_
          refine AllReadyH.cons rfl (fun K hK => ?_) AllReadyH.nil
          refine step_append_any (by rfl) _ _ _ (by rfl) w.heap.size 9 i0 (.string ⟨#[]⟩) 1 16 Tryz.underlying32 hi hz0 hz1 hz2 (by rfl) (by decide) V pre.length (svs pre) (by rfl) hO2 A2 Y.length c2 (svs Y) (by rfl) hSY2 (by unfold maxLen; omega) (by omega) hb2.size ?_
          intro V3 x3 hO hG _
          have hB3 := hB2.grown hG (blk_row hB2 hO2 (by decide))
          have hb3 : Below w.heap.size w x3 := bel_grown2 hb2 hG (fun k9 e => (hO2.lt k9 e).1)
          have hT3 := hT.below hb3
          have hO3 := own_app hO rfl rfl
          have hL3 := hL2.grown hG hLn2
          clear hO hG
          refine hK.out _ _ ⟨hB3.cell 0, hB3.cell 1⟩ (fun hHeld => ?_)
          clear hK K
          try simp only [Act.put, List.getElem_toArray, List.getElem_cons_succ, List.getElem_cons_zero, List.setIfInBounds_toArray, List.set_cons_zero, List.set_cons_succ]
          refine wpAnyH_ready (rs := [10]) (by kernel_rfl) (by simp) ?_
          refine AllReadyH.cons rfl (fun K hK => ?_) AllReadyH.nil
          have hSL := src_lit (x := [98, 105, 108, 108, 105, 111, 110]) hL3
          refine step_append_any (by rfl) _ _ _ (by rfl) w.heap.size 9 i0 (.string ⟨#[]⟩) 1 16 Tryz.underlying32 hi hz0 hz1 hz2 (by rfl) (by decide) V3 (pre ++ Y).length (svs (pre ++ Y)) (by rfl) hO3 _ 1 1 (svs [[98, 105, 108, 108, 105, 111, 110]]) (by rfl) hSL (by rw [List.length_append]; unfold maxLen; omega) (by rw [List.length_append]; omega) hb3.size ?_
          intro V4 x4 hO hG _
          have hB4 := hB3.grown hG (blk_row hB3 hO3 (by decide))
          have hb4 : Below w.heap.size w x4 := bel_grown2 hb3 hG (fun k9 e => (hO3.lt k9 e).1)
          have hO4 := own_app hO rfl rfl
          clear hO hG hSL
          refine hK.out _ _ ⟨hB4.cell 0, hB4.cell 1⟩ (fun hHeld => ?_)
          clear hK K
          try simp only [Act.put, List.getElem_toArray, List.getElem_cons_succ, List.getElem_cons_zero, List.setIfInBounds_toArray, List.set_cons_zero, List.set_cons_succ]
          refine wpAnyH_take (i := 11) (v := V4) rfl (by kernel_rfl) (by kernel_rfl) (by kernel_rfl) (fun _ _ _ h => h) (Or.inl ⟨by kernel_rfl, by (intro w hSw; (try dsimp only at hSw); go_simp)⟩) hHeld ?_
          simp only [Act.put, List.getElem_toArray, List.getElem_cons_succ, List.getElem_cons_zero, List.setIfInBounds_toArray, List.set_cons_zero, List.set_cons_succ]
          refine wpAnyH_done (by kernel_rfl) ?_ _
          have k0 : x4.cell? ⟨wr.heap.size, 0, none⟩ = some (.int .i64 1000000000) := hB4.cell 0
          have hln : (pre ++ Y ++ [[98, 105, 108, 108, 105, 111, 110]]).length ≤ (0 + 1) * 101 := by rw [List.length_append, List.length_append]; simp; omega
          generalize pre ++ Y ++ [[98, 105, 108, 108, 105, 111, 110]] = PR at *
          go_wp2
          exact ⟨⟨0 + 1, r, V4, PR, _, rfl, rfl, rfl, rfl, by decide, hrm, fun h => by omega, fun h => by omega, fun h => by omega, fun h => by omega, hln, hs.out, hO4, hb4⟩, by simp [intOf]⟩
      · have hm1 : ¬ (1000000000 : Int) ≤ (m : Int) := by omega
        have hm2 : decide ((1000000000 : Int) ≤ (m : Int)) = false := decide_eq_false hm1
        have hs := Lib.hid (show loopW cnt powL [] n0 = loopW cnt (powL.drop (0 + 1)) pre m by
          rw [hq.out]
          exact if_neg hm)
        have hmb : m < 1000000000 := by omega
        clear hm
        go_wp2
        exact ⟨⟨0 + 1, m, V, pre, _, rfl, rfl, rfl, rfl, by decide, hmn, fun h => by omega, fun h => by omega, fun h => by omega, fun h => by omega, by omega, hs.out, hownA, hba⟩, by simp [intOf]⟩
    · have hml := hm1 rfl
      clear hm0 hm1 hm2 hm3
      have hix : ∀ w9 : World, (Instr.index 154 (.agg #[.int .i64 1000000000, .string ⟨#[98, 105, 108, 108, 105, 111, 110]⟩, .int .i64 1000000, .string ⟨#[109, 105, 108, 108, 105, 111, 110]⟩, .int .i64 1000, .string ⟨#[116, 104, 111, 117, 115, 97, 110, 100]⟩]) (.int .i64 1)).run Tryz.prog w9 = .ok (.agg #[.int .i64 1000000, .string ⟨#[109, 105, 108, 108, 105, 111, 110]⟩]) w9 := fun _ => by kernel_rfl
      have hba := hbel.alloc hbs (.cells #[.int .i64 1000000, .string ⟨#[109, 105, 108, 108, 105, 111, 110]⟩] 153)
      have hBk := Blk.new wr 153 #[.int .i64 1000000, .string ⟨#[109, 105, 108, 108, 105, 111, 110]⟩]
      have hownA := own_below hown ((Below.refl wr.heap.size wr).alloc (Nat.le_refl _) (.cells #[.int .i64 1000000, .string ⟨#[109, 105, 108, 108, 105, 111, 110]⟩] 153))
      have k0 : (wr.alloc (.cells #[.int .i64 1000000, .string ⟨#[109, 105, 108, 108, 105, 111, 110]⟩] 153)).cell? ⟨wr.heap.size, 0, none⟩ = some (.int .i64 1000000) := hBk.cell 0
      by_cases hm : 1000000 ≤ m
      · have hm1 : (1000000 : Int) ≤ (m : Int) := by omega
        have hm2 : decide ((1000000 : Int) ≤ (m : Int)) = true := decide_eq_true hm1
        obtain ⟨q, hq9⟩ : ∃ q, m / 1000000 = q := ⟨_, rfl⟩
        obtain ⟨r, hr9⟩ : ∃ r, m % 1000000 = r := ⟨_, rfl⟩
        have hs := Lib.hid (show loopW cnt powL [] n0 = loopW cnt (powL.drop (1 + 1)) (pre ++ cnt q ++ [[109, 105, 108, 108, 105, 111, 110]]) r by
          rw [hq.out, ← hq9, ← hr9]
          exact if_pos hm)
        have d1 : (m : Int).tdiv 1000000 = (q : Int) := by rw [Int.tdiv_eq_ediv_of_nonneg (by omega)]; omega
        have d2 : (m : Int) / 1000000 = (q : Int) := by omega
        have d3 : (m : Int).tmod 1000000 = (r : Int) := by rw [Int.tmod_eq_emod_of_nonneg (by omega)]; omega
        have d4 : (m : Int) % 1000000 = (r : Int) := by omega
        have hq1 : 1 ≤ q := by omega
        have hq2 : q < 1000 := by omega
        have wq : IntKind.i64.wrap (q : Int) = (q : Int) := IntWalk.i64_in _ (by omega)
        have hrb : r < 1000000 := by omega
        have hrm : r ≤ n0 := by omega
        have hc := Lib.hid (hrec.out (by omega) q hq1 hq2)
        have hcq := hcl.out q
        clear hq9 hr9 hm
        generalize cnt q = Y at *
        go_wp2_with fail
        generalize wr.alloc (.cells #[.int .i64 1000000, .string ⟨#[109, 105, 108, 108, 105, 111, 110]⟩] 153) = w1 at *
        have hHd : (fun wx : World => wx.cell? ⟨wr.heap.size, 0, none⟩ = some (.int .i64 1000000) ∧ wx.cell? ⟨wr.heap.size, 1, none⟩ = some (.string ⟨#[109, 105, 108, 108, 105, 111, 110]⟩)) w1.drew := ⟨(hBk.drewN 1).cell 0, (hBk.drewN 1).cell 1⟩
        refine wp_region_held_drew (S := (fun wx => wx.cell? ⟨wr.heap.size, 0, none⟩ = some (.int .i64 1000000) ∧ wx.cell? ⟨wr.heap.size, 1, none⟩ = some (.string ⟨#[109, 105, 108, 108, 105, 111, 110]⟩))) (by kernel_rfl) hHd (fun hHeld => ?_)
        have hB0 := hBk.drewN 1
        have hO0 : (w1.drewN 1).ownsRow w.heap.size 9 1 V pre.length (svs pre) := hownA
        have hb0 := bel_drewN hba 1
        have hT0 := hT.below hb0
        clear hHd hownA k0
        refine wpAnyH_take (i := 0) (v := V) rfl (by kernel_rfl) (by kernel_rfl) (by kernel_rfl) (fun _ _ _ h => h) (Or.inl ⟨by kernel_rfl, by (intro w hSw; (try dsimp only at hSw); go_simp)⟩) hHeld ?_
        simp only [Act.put, List.getElem_toArray, List.getElem_cons_succ, List.getElem_cons_zero, List.setIfInBounds_toArray, List.set_cons_zero, List.set_cons_succ]
        refine wpAnyH_take (i := 1) (v := .int .i64 (m : Int)) rfl (by kernel_rfl) (by kernel_rfl) (by kernel_rfl) (fun _ _ _ h => h) (Or.inl ⟨by kernel_rfl, by (intro w hSw; (try dsimp only at hSw); go_simp)⟩) hHeld ?_
        simp only [Act.put, List.getElem_toArray, List.getElem_cons_succ, List.getElem_cons_zero, List.setIfInBounds_toArray, List.set_cons_zero, List.set_cons_succ]
        refine wpAnyH_take (i := 2) (v := .pointer (some ⟨wr.heap.size, 0, none⟩)) rfl (by kernel_rfl) (by kernel_rfl) (by kernel_rfl) (fun _ _ _ h => h) (Or.inl ⟨by kernel_rfl, by (intro w hSw; (try dsimp only at hSw); go_simp)⟩) hHeld ?_
        simp only [Act.put, List.getElem_toArray, List.getElem_cons_succ, List.getElem_cons_zero, List.setIfInBounds_toArray, List.set_cons_zero, List.set_cons_succ]
        refine wpAnyH_take (i := 3) (v := .int .i64 1000000) rfl (by kernel_rfl) (by kernel_rfl) (by kernel_rfl) (fun _ _ _ h => h) (Or.inl ⟨by kernel_rfl, by (intro w hSw; (try dsimp only at hSw); go_simp)⟩) hHeld ?_
        simp only [Act.put, List.getElem_toArray, List.getElem_cons_succ, List.getElem_cons_zero, List.setIfInBounds_toArray, List.set_cons_zero, List.set_cons_succ]
        refine wpAnyH_take (i := 4) (v := .int .i64 (q : Int)) rfl (by kernel_rfl) (by kernel_rfl) (by kernel_rfl) (fun _ _ _ h => h) (Or.inl ⟨by kernel_rfl, by (intro w hSw; (try dsimp only at hSw); go_simp)⟩) hHeld ?_
        simp only [Act.put, List.getElem_toArray, List.getElem_cons_succ, List.getElem_cons_zero, List.setIfInBounds_toArray, List.set_cons_zero, List.set_cons_succ]
        refine wpAnyH_take (i := 7) (v := .pointer (some ⟨wr.heap.size, 1, none⟩)) rfl (by kernel_rfl) (by kernel_rfl) (by kernel_rfl) (fun _ _ _ h => h) (Or.inl ⟨by kernel_rfl, by (intro w hSw; (try dsimp only at hSw); go_simp)⟩) hHeld ?_
        simp only [Act.put, List.getElem_toArray, List.getElem_cons_succ, List.getElem_cons_zero, List.setIfInBounds_toArray, List.set_cons_zero, List.set_cons_succ]
        refine wpAnyH_take (i := 8) (v := .string ⟨#[109, 105, 108, 108, 105, 111, 110]⟩) rfl (by kernel_rfl) (by kernel_rfl) (by kernel_rfl) (fun _ _ _ h => h) (Or.inl ⟨by kernel_rfl, by (intro w hSw; (try dsimp only at hSw); go_simp)⟩) hHeld ?_
        simp only [Act.put, List.getElem_toArray, List.getElem_cons_succ, List.getElem_cons_zero, List.setIfInBounds_toArray, List.set_cons_zero, List.set_cons_succ]
        refine wpAnyH_ready (rs := [5, 9]) (by kernel_rfl) (by simp) ?_
        refine AllReadyH.cons rfl (fun K hK => ?_) (AllReadyH.cons rfl (fun K hK => ?_) AllReadyH.nil)
        · go_simp
          refine (hc.out _ hT0).mono ?_
          rintro e x1 ⟨V2, rfl, hY, hx⟩
          have hB1 := hB0.below hx
          have hO1 := own_below hO0 hx
          have hb1 := hb0.trans (hx.mono hb0.size)
          have hT1 := hT.below hb1
          obtain ⟨A2, c2, rfl, hSY1⟩ := Src.of_own hY (oneCell_svs Y)
          clear hY hx
          go_wp2_with fail
          refine hK.out _ _ ⟨hB1.cell 0, hB1.cell 1⟩ (fun hHeld => ?_)
          clear hK K
          try simp only [Act.put, List.getElem_toArray, List.getElem_cons_succ, List.getElem_cons_zero, List.setIfInBounds_toArray, List.set_cons_zero, List.set_cons_succ]
          refine wpAnyH_ready (rs := [6, 9]) (by kernel_rfl) (by simp) ?_
          refine AllReadyH.cons rfl (fun K hK => ?_) (AllReadyH.cons rfl (fun K hK => ?_) AllReadyH.nil)
          · refine step_append_any (by rfl) _ _ _ (by rfl) w.heap.size 9 i0 (.string ⟨#[]⟩) 1 16 Tryz.underlying32 hi hz0 hz1 hz2 (by rfl) (by decide) V pre.length (svs pre) (by rfl) hO1 A2 Y.length c2 (svs Y) (by rfl) hSY1 (by unfold maxLen; omega) (by omega) hb1.size ?_
            intro V3 x2 hO hG _
            have hB2 := hB1.grown hG (blk_row hB1 hO1 (by decide))
            have hb2 : Below w.heap.size w x2 := bel_grown2 hb1 hG (fun k9 e => (hO1.lt k9 e).1)
            have hT2 := hT.below hb2
            have hO2 := own_app hO rfl rfl
            clear hO hG
            refine hK.out _ _ ⟨hB2.cell 0, hB2.cell 1⟩ (fun hHeld => ?_)
            clear hK K
            try simp only [Act.put, List.getElem_toArray, List.getElem_cons_succ, List.getElem_cons_zero, List.setIfInBounds_toArray, List.set_cons_zero, List.set_cons_succ]
            refine wpAnyH_ready (rs := [9]) (by kernel_rfl) (by simp) ?_
            refine AllReadyH.cons rfl (fun K hK => ?_) AllReadyH.nil
            have hL3 := Blk.new (x2) 9 #[.string ⟨#[109, 105, 108, 108, 105, 111, 110]⟩]
            have hAl := (Below.refl (x2).heap.size (x2)).alloc (Nat.le_refl _) (.cells #[.string ⟨#[109, 105, 108, 108, 105, 111, 110]⟩] 9)
            have hB3 := hB2.below hAl
            have hO3 := own_below hO2 hAl
            have hb3 := hb2.trans (hAl.mono hb2.size)
            have hT3 := hT.below hb3
            clear hAl
            go_simp
            refine hK.out _ _ ⟨hB3.cell 0, hB3.cell 1⟩ (fun hHeld => ?_)
            clear hK K
            try simp only [Act.put, List.getElem_toArray, List.getElem_cons_succ, List.getElem_cons_zero, List.setIfInBounds_toArray, List.set_cons_zero, List.set_cons_succ]
            refine wpAnyH_ready (rs := [10]) (by kernel_rfl) (by simp) ?_
            refine AllReadyH.cons rfl (fun K hK => ?_) AllReadyH.nil
            have hSL := src_lit (x := [109, 105, 108, 108, 105, 111, 110]) hL3
            refine step_append_any (by rfl) _ _ _ (by rfl) w.heap.size 9 i0 (.string ⟨#[]⟩) 1 16 Tryz.underlying32 hi hz0 hz1 hz2 (by rfl) (by decide) V3 (pre ++ Y).length (svs (pre ++ Y)) (by rfl) hO3 _ 1 1 (svs [[109, 105, 108, 108, 105, 111, 110]]) (by rfl) hSL (by rw [List.length_append]; unfold maxLen; omega) (by rw [List.length_append]; omega) hb3.size ?_
            intro V4 x4 hO hG _
            have hB4 := hB3.grown hG (blk_row hB3 hO3 (by decide))
            have hb4 : Below w.heap.size w x4 := bel_grown2 hb3 hG (fun k9 e => (hO3.lt k9 e).1)
            have hO4 := own_app hO rfl rfl
            clear hO hG hSL
            refine hK.out _ _ ⟨hB4.cell 0, hB4.cell 1⟩ (fun hHeld => ?_)
            clear hK K
            try simp only [Act.put, List.getElem_toArray, List.getElem_cons_succ, List.getElem_cons_zero, List.setIfInBounds_toArray, List.set_cons_zero, List.set_cons_succ]
            refine wpAnyH_take (i := 11) (v := V4) rfl (by kernel_rfl) (by kernel_rfl) (by kernel_rfl) (fun _ _ _ h => h) (Or.inl ⟨by kernel_rfl, by (intro w hSw; (try dsimp only at hSw); go_simp)⟩) hHeld ?_
            simp only [Act.put, List.getElem_toArray, List.getElem_cons_succ, List.getElem_cons_zero, List.setIfInBounds_toArray, List.set_cons_zero, List.set_cons_succ]
            refine wpAnyH_done (by kernel_rfl) ?_ _
            have k0 : x4.cell? ⟨wr.heap.size, 0, none⟩ = some (.int .i64 1000000) := hB4.cell 0
            have hln : (pre ++ Y ++ [[109, 105, 108, 108, 105, 111, 110]]).length ≤ (1 + 1) * 101 := by rw [List.length_append, List.length_append]; simp; omega
            generalize pre ++ Y ++ [[109, 105, 108, 108, 105, 111, 110]] = PR at *
            go_wp2
            exact ⟨⟨1 + 1, r, V4, PR, _, rfl, rfl, rfl, rfl, by decide, hrm, fun h => by omega, fun h => by omega, fun h => by omega, fun h => by omega, hln, hs.out, hO4, hb4⟩, by simp [intOf]⟩
          · have hL2 := Blk.new (x1) 9 #[.string ⟨#[109, 105, 108, 108, 105, 111, 110]⟩]
            have hAl := (Below.refl (x1).heap.size (x1)).alloc (Nat.le_refl _) (.cells #[.string ⟨#[109, 105, 108, 108, 105, 111, 110]⟩] 9)
            have hB2 := hB1.below hAl
            have hO2 := own_below hO1 hAl
            have hb2 := hb1.trans (hAl.mono hb1.size)
            have hT2 := hT.below hb2
            have hLn2 : some (x1).heap.size ≠ V.ownBlock := fun e => by have := (hO1.lt _ e.symm).2; omega
            have hSY2 := hSY1.below hAl
            clear hAl
            go_simp
            refine hK.out _ _ ⟨hB2.cell 0, hB2.cell 1⟩ (fun hHeld => ?_)
            clear hK K
            try simp only [Act.put, List.getElem_toArray, List.getElem_cons_succ, List.getElem_cons_zero, List.setIfInBounds_toArray, List.set_cons_zero, List.set_cons_succ]
            refine wpAnyH_ready (rs := [6]) (by kernel_rfl) (by simp) ?_
            refine AllReadyH.cons rfl (fun K hK => ?_) AllReadyH.nil
            refine step_append_any (by rfl) _ _ _ (by rfl) w.heap.size 9 i0 (.string ⟨#[]⟩) 1 16 Tryz.underlying32 hi hz0 hz1 hz2 (by rfl) (by decide) V pre.length (svs pre) (by rfl) hO2 A2 Y.length c2 (svs Y) (by rfl) hSY2 (by unfold maxLen; omega) (by omega) hb2.size ?_
            intro V3 x3 hO hG _
            have hB3 := hB2.grown hG (blk_row hB2 hO2 (by decide))
            have hb3 : Below w.heap.size w x3 := bel_grown2 hb2 hG (fun k9 e => (hO2.lt k9 e).1)
            have hT3 := hT.below hb3
            have hO3 := own_app hO rfl rfl
            have hL3 := hL2.grown hG hLn2
            clear hO hG
            refine hK.out _ _ ⟨hB3.cell 0, hB3.cell 1⟩ (fun hHeld => ?_)
            clear hK K
            try simp only [Act.put, List.getElem_toArray, List.getElem_cons_succ, List.getElem_cons_zero, List.setIfInBounds_toArray, List.set_cons_zero, List.set_cons_succ]
            refine wpAnyH_ready (rs := [10]) (by kernel_rfl) (by simp) ?_
            refine AllReadyH.cons rfl (fun K hK => ?_) AllReadyH.nil
            have hSL := src_lit (x := [109, 105, 108, 108, 105, 111, 110]) hL3
            refine step_append_any (by rfl) _ _ _ (by rfl) w.heap.size 9 i0 (.string ⟨#[]⟩) 1 16 Tryz.underlying32 hi hz0 hz1 hz2 (by rfl) (by decide) V3 (pre ++ Y).length (svs (pre ++ Y)) (by rfl) hO3 _ 1 1 (svs [[109, 105, 108, 108, 105, 111, 110]]) (by rfl) hSL (by rw [List.length_append]; unfold maxLen; omega) (by rw [List.length_append]; omega) hb3.size ?_
            intro V4 x4 hO hG _
            have hB4 := hB3.grown hG (blk_row hB3 hO3 (by decide))
            have hb4 : Below w.heap.size w x4 := bel_grown2 hb3 hG (fun k9 e => (hO3.lt k9 e).1)
            have hO4 := own_app hO rfl rfl
            clear hO hG hSL
            refine hK.out _ _ ⟨hB4.cell 0, hB4.cell 1⟩ (fun hHeld => ?_)
            clear hK K
            try simp only [Act.put, List.getElem_toArray, List.getElem_cons_succ, List.getElem_cons_zero, List.setIfInBounds_toArray, List.set_cons_zero, List.set_cons_succ]
            refine wpAnyH_take (i := 11) (v := V4) rfl (by kernel_rfl) (by kernel_rfl) (by kernel_rfl) (fun _ _ _ h => h) (Or.inl ⟨by kernel_rfl, by (intro w hSw; (try dsimp only at hSw); go_simp)⟩) hHeld ?_
            simp only [Act.put, List.getElem_toArray, List.getElem_cons_succ, List.getElem_cons_zero, List.setIfInBounds_toArray, List.set_cons_zero, List.set_cons_succ]
            refine wpAnyH_done (by kernel_rfl) ?_ _
            have k0 : x4.cell? ⟨wr.heap.size, 0, none⟩ = some (.int .i64 1000000) := hB4.cell 0
            have hln : (pre ++ Y ++ [[109, 105, 108, 108, 105, 111, 110]]).length ≤ (1 + 1) * 101 := by rw [List.length_append, List.length_append]; simp; omega
            generalize pre ++ Y ++ [[109, 105, 108, 108, 105, 111, 110]] = PR at *
            go_wp2
            exact ⟨⟨1 + 1, r, V4, PR, _, rfl, rfl, rfl, rfl, by decide, hrm, fun h => by omega, fun h => by omega, fun h => by omega, fun h => by omega, hln, hs.out, hO4, hb4⟩, by simp [intOf]⟩
        · have hL1 := Blk.new (w1.drewN 1) 9 #[.string ⟨#[109, 105, 108, 108, 105, 111, 110]⟩]
          have hAl := (Below.refl (w1.drewN 1).heap.size (w1.drewN 1)).alloc (Nat.le_refl _) (.cells #[.string ⟨#[109, 105, 108, 108, 105, 111, 110]⟩] 9)
          have hB1 := hB0.below hAl
          have hO1 := own_below hO0 hAl
          have hb1 := hb0.trans (hAl.mono hb0.size)
          have hT1 := hT.below hb1
          have hLn1 : some (w1.drewN 1).heap.size ≠ V.ownBlock := fun e => by have := (hO0.lt _ e.symm).2; omega
          clear hAl
          go_simp
          refine hK.out _ _ ⟨hB1.cell 0, hB1.cell 1⟩ (fun hHeld => ?_)
          clear hK K
          try simp only [Act.put, List.getElem_toArray, List.getElem_cons_succ, List.getElem_cons_zero, List.setIfInBounds_toArray, List.set_cons_zero, List.set_cons_succ]
          refine wpAnyH_ready (rs := [5]) (by kernel_rfl) (by simp) ?_
          refine AllReadyH.cons rfl (fun K hK => ?_) AllReadyH.nil
          go_simp
          refine (hc.out _ hT1).mono ?_
          rintro e x2 ⟨V2, rfl, hY, hx⟩
          have hB2 := hB1.below hx
          have hO2 := own_below hO1 hx
          have hb2 := hb1.trans (hx.mono hb1.size)
          have hT2 := hT.below hb2
          obtain ⟨A2, c2, rfl, hSY2⟩ := Src.of_own hY (oneCell_svs Y)
          have hL2 := hL1.below hx
          have hLn2 := hLn1
          clear hY hx
          go_wp2_with fail
          refine hK.out _ _ ⟨hB2.cell 0, hB2.cell 1⟩ (fun hHeld => ?_)
          clear hK K
          try simp only [Act.put, List.getElem_toArray, List.getElem_cons_succ, List.getElem_cons_zero, List.setIfInBounds_toArray, List.set_cons_zero, List.set_cons_succ]
          refine wpAnyH_ready (rs := [6]) (by kernel_rfl) (by simp) ?_
          refine AllReadyH.cons rfl (fun K hK => ?_) AllReadyH.nil
          refine step_append_any (by rfl) _ _ _ (by rfl) w.heap.size 9 i0 (.string ⟨#[]⟩) 1 16 Tryz.underlying32 hi hz0 hz1 hz2 (by rfl) (by decide) V pre.length (svs pre) (by rfl) hO2 A2 Y.length c2 (svs Y) (by rfl) hSY2 (by unfold maxLen; omega) (by omega) hb2.size ?_
          intro V3 x3 hO hG _
          have hB3 := hB2.grown hG (blk_row hB2 hO2 (by decide))
          have hb3 : Below w.heap.size w x3 := bel_grown2 hb2 hG (fun k9 e => (hO2.lt k9 e).1)
          have hT3 := hT.below hb3
          have hO3 := own_app hO rfl rfl
          have hL3 := hL2.grown hG hLn2
          clear hO hG
          refine hK.out _ _ ⟨hB3.cell 0, hB3.cell 1⟩ (fun hHeld => ?_)
          clear hK K
          try simp only [Act.put, List.getElem_toArray, List.getElem_cons_succ, List.getElem_cons_zero, List.setIfInBounds_toArray, List.set_cons_zero, List.set_cons_succ]
          refine wpAnyH_ready (rs := [10]) (by kernel_rfl) (by simp) ?_
          refine AllReadyH.cons rfl (fun K hK => ?_) AllReadyH.nil
          have hSL := src_lit (x := [109, 105, 108, 108, 105, 111, 110]) hL3
          refine step_append_any (by rfl) _ _ _ (by rfl) w.heap.size 9 i0 (.string ⟨#[]⟩) 1 16 Tryz.underlying32 hi hz0 hz1 hz2 (by rfl) (by decide) V3 (pre ++ Y).length (svs (pre ++ Y)) (by rfl) hO3 _ 1 1 (svs [[109, 105, 108, 108, 105, 111, 110]]) (by rfl) hSL (by rw [List.length_append]; unfold maxLen; omega) (by rw [List.length_append]; omega) hb3.size ?_
          intro V4 x4 hO hG _
          have hB4 := hB3.grown hG (blk_row hB3 hO3 (by decide))
          have hb4 : Below w.heap.size w x4 := bel_grown2 hb3 hG (fun k9 e => (hO3.lt k9 e).1)
          have hO4 := own_app hO rfl rfl
          clear hO hG hSL
          refine hK.out _ _ ⟨hB4.cell 0, hB4.cell 1⟩ (fun hHeld => ?_)
          clear hK K
          try simp only [Act.put, List.getElem_toArray, List.getElem_cons_succ, List.getElem_cons_zero, List.setIfInBounds_toArray, List.set_cons_zero, List.set_cons_succ]
          refine wpAnyH_take (i := 11) (v := V4) rfl (by kernel_rfl) (by kernel_rfl) (by kernel_rfl) (fun _ _ _ h => h) (Or.inl ⟨by kernel_rfl, by (intro w hSw; (try dsimp only at hSw); go_simp)⟩) hHeld ?_
          simp only [Act.put, List.getElem_toArray, List.getElem_cons_succ, List.getElem_cons_zero, List.setIfInBounds_toArray, List.set_cons_zero, List.set_cons_succ]
          refine wpAnyH_done (by kernel_rfl) ?_ _
          have k0 : x4.cell? ⟨wr.heap.size, 0, none⟩ = some (.int .i64 1000000) := hB4.cell 0
          have hln : (pre ++ Y ++ [[109, 105, 108, 108, 105, 111, 110]]).length ≤ (1 + 1) * 101 := by rw [List.length_append, List.length_append]; simp; omega
          generalize pre ++ Y ++ [[109, 105, 108, 108, 105, 111, 110]] = PR at *
          go_wp2
          exact ⟨⟨1 + 1, r, V4, PR, _, rfl, rfl, rfl, rfl, by decide, hrm, fun h => by omega, fun h => by omega, fun h => by omega, fun h => by omega, hln, hs.out, hO4, hb4⟩, by simp [intOf]⟩
      · have hm1 : ¬ (1000000 : Int) ≤ (m : Int) := by omega
        have hm2 : decide ((1000000 : Int) ≤ (m : Int)) = false := decide_eq_false hm1
        have hs := Lib.hid (show loopW cnt powL [] n0 = loopW cnt (powL.drop (1 + 1)) pre m by
          rw [hq.out]
          exact if_neg hm)
        have hmb : m < 1000000 := by omega
        clear hm
        go_wp2
        exact ⟨⟨1 + 1, m, V, pre, _, rfl, rfl, rfl, rfl, by decide, hmn, fun h => by omega, fun h => by omega, fun h => by omega, fun h => by omega, by omega, hs.out, hownA, hba⟩, by simp [intOf]⟩
    · have hml := hm2 rfl
      clear hm0 hm1 hm2 hm3
      have hix : ∀ w9 : World, (Instr.index 154 (.agg #[.int .i64 1000000000, .string ⟨#[98, 105, 108, 108, 105, 111, 110]⟩, .int .i64 1000000, .string ⟨#[109, 105, 108, 108, 105, 111, 110]⟩, .int .i64 1000, .string ⟨#[116, 104, 111, 117, 115, 97, 110, 100]⟩]) (.int .i64 2)).run Tryz.prog w9 = .ok (.agg #[.int .i64 1000, .string ⟨#[116, 104, 111, 117, 115, 97, 110, 100]⟩]) w9 := fun _ => by kernel_rfl
      have hba := hbel.alloc hbs (.cells #[.int .i64 1000, .string ⟨#[116, 104, 111, 117, 115, 97, 110, 100]⟩] 153)
      have hBk := Blk.new wr 153 #[.int .i64 1000, .string ⟨#[116, 104, 111, 117, 115, 97, 110, 100]⟩]
      have hownA := own_below hown ((Below.refl wr.heap.size wr).alloc (Nat.le_refl _) (.cells #[.int .i64 1000, .string ⟨#[116, 104, 111, 117, 115, 97, 110, 100]⟩] 153))
      have k0 : (wr.alloc (.cells #[.int .i64 1000, .string ⟨#[116, 104, 111, 117, 115, 97, 110, 100]⟩] 153)).cell? ⟨wr.heap.size, 0, none⟩ = some (.int .i64 1000) := hBk.cell 0
      by_cases hm : 1000 ≤ m
      · have hm1 : (1000 : Int) ≤ (m : Int) := by omega
        have hm2 : decide ((1000 : Int) ≤ (m : Int)) = true := decide_eq_true hm1
        obtain ⟨q, hq9⟩ : ∃ q, m / 1000 = q := ⟨_, rfl⟩
        obtain ⟨r, hr9⟩ : ∃ r, m % 1000 = r := ⟨_, rfl⟩
        have hs := Lib.hid (show loopW cnt powL [] n0 = loopW cnt (powL.drop (2 + 1)) (pre ++ cnt q ++ [[116, 104, 111, 117, 115, 97, 110, 100]]) r by
          rw [hq.out, ← hq9, ← hr9]
          exact if_pos hm)
        have d1 : (m : Int).tdiv 1000 = (q : Int) := by rw [Int.tdiv_eq_ediv_of_nonneg (by omega)]; omega
        have d2 : (m : Int) / 1000 = (q : Int) := by omega
        have d3 : (m : Int).tmod 1000 = (r : Int) := by rw [Int.tmod_eq_emod_of_nonneg (by omega)]; omega
        have d4 : (m : Int) % 1000 = (r : Int) := by omega
        have hq1 : 1 ≤ q := by omega
        have hq2 : q < 1000 := by omega
        have wq : IntKind.i64.wrap (q : Int) = (q : Int) := IntWalk.i64_in _ (by omega)
        have hrb : r < 1000 := by omega
        have hrm : r ≤ n0 := by omega
        have hc := Lib.hid (hrec.out (by omega) q hq1 hq2)
        have hcq := hcl.out q
        clear hq9 hr9 hm
        generalize cnt q = Y at *
        go_wp2_with fail
        generalize wr.alloc (.cells #[.int .i64 1000, .string ⟨#[116, 104, 111, 117, 115, 97, 110, 100]⟩] 153) = w1 at *
        have hHd : (fun wx : World => wx.cell? ⟨wr.heap.size, 0, none⟩ = some (.int .i64 1000) ∧ wx.cell? ⟨wr.heap.size, 1, none⟩ = some (.string ⟨#[116, 104, 111, 117, 115, 97, 110, 100]⟩)) w1.drew := ⟨(hBk.drewN 1).cell 0, (hBk.drewN 1).cell 1⟩
        refine wp_region_held_drew (S := (fun wx => wx.cell? ⟨wr.heap.size, 0, none⟩ = some (.int .i64 1000) ∧ wx.cell? ⟨wr.heap.size, 1, none⟩ = some (.string ⟨#[116, 104, 111, 117, 115, 97, 110, 100]⟩))) (by kernel_rfl) hHd (fun hHeld => ?_)
        have hB0 := hBk.drewN 1
        have hO0 : (w1.drewN 1).ownsRow w.heap.size 9 1 V pre.length (svs pre) := hownA
        have hb0 := bel_drewN hba 1
        have hT0 := hT.below hb0
        clear hHd hownA k0
        refine wpAnyH_take (i := 0) (v := V) rfl (by kernel_rfl) (by kernel_rfl) (by kernel_rfl) (fun _ _ _ h => h) (Or.inl ⟨by kernel_rfl, by (intro w hSw; (try dsimp only at hSw); go_simp)⟩) hHeld ?_
        simp only [Act.put, List.getElem_toArray, List.getElem_cons_succ, List.getElem_cons_zero, List.setIfInBounds_toArray, List.set_cons_zero, List.set_cons_succ]
        refine wpAnyH_take (i := 1) (v := .int .i64 (m : Int)) rfl (by kernel_rfl) (by kernel_rfl) (by kernel_rfl) (fun _ _ _ h => h) (Or.inl ⟨by kernel_rfl, by (intro w hSw; (try dsimp only at hSw); go_simp)⟩) hHeld ?_
        simp only [Act.put, List.getElem_toArray, List.getElem_cons_succ, List.getElem_cons_zero, List.setIfInBounds_toArray, List.set_cons_zero, List.set_cons_succ]
        refine wpAnyH_take (i := 2) (v := .pointer (some ⟨wr.heap.size, 0, none⟩)) rfl (by kernel_rfl) (by kernel_rfl) (by kernel_rfl) (fun _ _ _ h => h) (Or.inl ⟨by kernel_rfl, by (intro w hSw; (try dsimp only at hSw); go_simp)⟩) hHeld ?_
        simp only [Act.put, List.getElem_toArray, List.getElem_cons_succ, List.getElem_cons_zero, List.setIfInBounds_toArray, List.set_cons_zero, List.set_cons_succ]
        refine wpAnyH_take (i := 3) (v := .int .i64 1000) rfl (by kernel_rfl) (by kernel_rfl) (by kernel_rfl) (fun _ _ _ h => h) (Or.inl ⟨by kernel_rfl, by (intro w hSw; (try dsimp only at hSw); go_simp)⟩) hHeld ?_
        simp only [Act.put, List.getElem_toArray, List.getElem_cons_succ, List.getElem_cons_zero, List.setIfInBounds_toArray, List.set_cons_zero, List.set_cons_succ]
        refine wpAnyH_take (i := 4) (v := .int .i64 (q : Int)) rfl (by kernel_rfl) (by kernel_rfl) (by kernel_rfl) (fun _ _ _ h => h) (Or.inl ⟨by kernel_rfl, by (intro w hSw; (try dsimp only at hSw); go_simp)⟩) hHeld ?_
        simp only [Act.put, List.getElem_toArray, List.getElem_cons_succ, List.getElem_cons_zero, List.setIfInBounds_toArray, List.set_cons_zero, List.set_cons_succ]
        refine wpAnyH_take (i := 7) (v := .pointer (some ⟨wr.heap.size, 1, none⟩)) rfl (by kernel_rfl) (by kernel_rfl) (by kernel_rfl) (fun _ _ _ h => h) (Or.inl ⟨by kernel_rfl, by (intro w hSw; (try dsimp only at hSw); go_simp)⟩) hHeld ?_
        simp only [Act.put, List.getElem_toArray, List.getElem_cons_succ, List.getElem_cons_zero, List.setIfInBounds_toArray, List.set_cons_zero, List.set_cons_succ]
        refine wpAnyH_take (i := 8) (v := .string ⟨#[116, 104, 111, 117, 115, 97, 110, 100]⟩) rfl (by kernel_rfl) (by kernel_rfl) (by kernel_rfl) (fun _ _ _ h => h) (Or.inl ⟨by kernel_rfl, by (intro w hSw; (try dsimp only at hSw); go_simp)⟩) hHeld ?_
        simp only [Act.put, List.getElem_toArray, List.getElem_cons_succ, List.getElem_cons_zero, List.setIfInBounds_toArray, List.set_cons_zero, List.set_cons_succ]
        refine wpAnyH_ready (rs := [5, 9]) (by kernel_rfl) (by simp) ?_
        refine AllReadyH.cons rfl (fun K hK => ?_) (AllReadyH.cons rfl (fun K hK => ?_) AllReadyH.nil)
        · go_simp
          refine (hc.out _ hT0).mono ?_
          rintro e x1 ⟨V2, rfl, hY, hx⟩
          have hB1 := hB0.below hx
          have hO1 := own_below hO0 hx
          have hb1 := hb0.trans (hx.mono hb0.size)
          have hT1 := hT.below hb1
          obtain ⟨A2, c2, rfl, hSY1⟩ := Src.of_own hY (oneCell_svs Y)
          clear hY hx
          go_wp2_with fail
          refine hK.out _ _ ⟨hB1.cell 0, hB1.cell 1⟩ (fun hHeld => ?_)
          clear hK K
          try simp only [Act.put, List.getElem_toArray, List.getElem_cons_succ, List.getElem_cons_zero, List.setIfInBounds_toArray, List.set_cons_zero, List.set_cons_succ]
          refine wpAnyH_ready (rs := [6, 9]) (by kernel_rfl) (by simp) ?_
          refine AllReadyH.cons rfl (fun K hK => ?_) (AllReadyH.cons rfl (fun K hK => ?_) AllReadyH.nil)
          · refine step_append_any (by rfl) _ _ _ (by rfl) w.heap.size 9 i0 (.string ⟨#[]⟩) 1 16 Tryz.underlying32 hi hz0 hz1 hz2 (by rfl) (by decide) V pre.length (svs pre) (by rfl) hO1 A2 Y.length c2 (svs Y) (by rfl) hSY1 (by unfold maxLen; omega) (by omega) hb1.size ?_
            intro V3 x2 hO hG _
            have hB2 := hB1.grown hG (blk_row hB1 hO1 (by decide))
            have hb2 : Below w.heap.size w x2 := bel_grown2 hb1 hG (fun k9 e => (hO1.lt k9 e).1)
            have hT2 := hT.below hb2
            have hO2 := own_app hO rfl rfl
            clear hO hG
            refine hK.out _ _ ⟨hB2.cell 0, hB2.cell 1⟩ (fun hHeld => ?_)
            clear hK K
            try simp only [Act.put, List.getElem_toArray, List.getElem_cons_succ, List.getElem_cons_zero, List.setIfInBounds_toArray, List.set_cons_zero, List.set_cons_succ]
            refine wpAnyH_ready (rs := [9]) (by kernel_rfl) (by simp) ?_
            refine AllReadyH.cons rfl (fun K hK => ?_) AllReadyH.nil
            have hL3 := Blk.new (x2) 9 #[.string ⟨#[116, 104, 111, 117, 115, 97, 110, 100]⟩]
            have hAl := (Below.refl (x2).heap.size (x2)).alloc (Nat.le_refl _) (.cells #[.string ⟨#[116, 104, 111, 117, 115, 97, 110, 100]⟩] 9)
            have hB3 := hB2.below hAl
            have hO3 := own_below hO2 hAl
            have hb3 := hb2.trans (hAl.mono hb2.size)
            have hT3 := hT.below hb3
            clear hAl
            go_simp
            refine hK.out _ _ ⟨hB3.cell 0, hB3.cell 1⟩ (fun hHeld => ?_)
            clear hK K
            try simp only [Act.put, List.getElem_toArray, List.getElem_cons_succ, List.getElem_cons_zero, List.setIfInBounds_toArray, List.set_cons_zero, List.set_cons_succ]
            refine wpAnyH_ready (rs := [10]) (by kernel_rfl) (by simp) ?_
            refine AllReadyH.cons rfl (fun K hK => ?_) AllReadyH.nil
            have hSL := src_lit (x := [116, 104, 111, 117, 115, 97, 110, 100]) hL3
            refine step_append_any (by rfl) _ _ _ (by rfl) w.heap.size 9 i0 (.string ⟨#[]⟩) 1 16 Tryz.underlying32 hi hz0 hz1 hz2 (by rfl) (by decide) V3 (pre ++ Y).length (svs (pre ++ Y)) (by rfl) hO3 _ 1 1 (svs [[116, 104, 111, 117, 115, 97, 110, 100]]) (by rfl) hSL (by rw [List.length_append]; unfold maxLen; omega) (by rw [List.length_append]; omega) hb3.size ?_
            intro V4 x4 hO hG _
            have hB4 := hB3.grown hG (blk_row hB3 hO3 (by decide))
            have hb4 : Below w.heap.size w x4 := bel_grown2 hb3 hG (fun k9 e => (hO3.lt k9 e).1)
            have hO4 := own_app hO rfl rfl
            clear hO hG hSL
            refine hK.out _ _ ⟨hB4.cell 0, hB4.cell 1⟩ (fun hHeld => ?_)
            clear hK K
            try simp only [Act.put, List.getElem_toArray, List.getElem_cons_succ, List.getElem_cons_zero, List.setIfInBounds_toArray, List.set_cons_zero, List.set_cons_succ]
            refine wpAnyH_take (i := 11) (v := V4) rfl (by kernel_rfl) (by kernel_rfl) (by kernel_rfl) (fun _ _ _ h => h) (Or.inl ⟨by kernel_rfl, by (intro w hSw; (try dsimp only at hSw); go_simp)⟩) hHeld ?_
            simp only [Act.put, List.getElem_toArray, List.getElem_cons_succ, List.getElem_cons_zero, List.setIfInBounds_toArray, List.set_cons_zero, List.set_cons_succ]
            refine wpAnyH_done (by kernel_rfl) ?_ _
            have k0 : x4.cell? ⟨wr.heap.size, 0, none⟩ = some (.int .i64 1000) := hB4.cell 0
            have hln : (pre ++ Y ++ [[116, 104, 111, 117, 115, 97, 110, 100]]).length ≤ (2 + 1) * 101 := by rw [List.length_append, List.length_append]; simp; omega
            generalize pre ++ Y ++ [[116, 104, 111, 117, 115, 97, 110, 100]] = PR at *
            go_wp2
            exact ⟨⟨2 + 1, r, V4, PR, _, rfl, rfl, rfl, rfl, by decide, hrm, fun h => by omega, fun h => by omega, fun h => by omega, fun h => by omega, hln, hs.out, hO4, hb4⟩, by simp [intOf]⟩
          · have hL2 := Blk.new (x1) 9 #[.string ⟨#[116, 104, 111, 117, 115, 97, 110, 100]⟩]
            have hAl := (Below.refl (x1).heap.size (x1)).alloc (Nat.le_refl _) (.cells #[.string ⟨#[116, 104, 111, 117, 115, 97, 110, 100]⟩] 9)
            have hB2 := hB1.below hAl
            have hO2 := own_below hO1 hAl
            have hb2 := hb1.trans (hAl.mono hb1.size)
            have hT2 := hT.below hb2
            have hLn2 : some (x1).heap.size ≠ V.ownBlock := fun e => by have := (hO1.lt _ e.symm).2; omega
            have hSY2 := hSY1.below hAl
            clear hAl
            go_simp
            refine hK.out _ _ ⟨hB2.cell 0, hB2.cell 1⟩ (fun hHeld => ?_)
            clear hK K
            try simp only [Act.put, List.getElem_toArray, List.getElem_cons_succ, List.getElem_cons_zero, List.setIfInBounds_toArray, List.set_cons_zero, List.set_cons_succ]
            refine wpAnyH_ready (rs := [6]) (by kernel_rfl) (by simp) ?_
            refine AllReadyH.cons rfl (fun K hK => ?_) AllReadyH.nil
            refine step_append_any (by rfl) _ _ _ (by rfl) w.heap.size 9 i0 (.string ⟨#[]⟩) 1 16 Tryz.underlying32 hi hz0 hz1 hz2 (by rfl) (by decide) V pre.length (svs pre) (by rfl) hO2 A2 Y.length c2 (svs Y) (by rfl) hSY2 (by unfold maxLen; omega) (by omega) hb2.size ?_
            intro V3 x3 hO hG _
            have hB3 := hB2.grown hG (blk_row hB2 hO2 (by decide))
            have hb3 : Below w.heap.size w x3 := bel_grown2 hb2 hG (fun k9 e => (hO2.lt k9 e).1)
            have hT3 := hT.below hb3
            have hO3 := own_app hO rfl rfl
            have hL3 := hL2.grown hG hLn2
            clear hO hG
            refine hK.out _ _ ⟨hB3.cell 0, hB3.cell 1⟩ (fun hHeld => ?_)
            clear hK K
            try simp only [Act.put, List.getElem_toArray, List.getElem_cons_succ, List.getElem_cons_zero, List.setIfInBounds_toArray, List.set_cons_zero, List.set_cons_succ]
            refine wpAnyH_ready (rs := [10]) (by kernel_rfl) (by simp) ?_
            refine AllReadyH.cons rfl (fun K hK => ?_) AllReadyH.nil
            have hSL := src_lit (x := [116, 104, 111, 117, 115, 97, 110, 100]) hL3
            refine step_append_any (by rfl) _ _ _ (by rfl) w.heap.size 9 i0 (.string ⟨#[]⟩) 1 16 Tryz.underlying32 hi hz0 hz1 hz2 (by rfl) (by decide) V3 (pre ++ Y).length (svs (pre ++ Y)) (by rfl) hO3 _ 1 1 (svs [[116, 104, 111, 117, 115, 97, 110, 100]]) (by rfl) hSL (by rw [List.length_append]; unfold maxLen; omega) (by rw [List.length_append]; omega) hb3.size ?_
            intro V4 x4 hO hG _
            have hB4 := hB3.grown hG (blk_row hB3 hO3 (by decide))
            have hb4 : Below w.heap.size w x4 := bel_grown2 hb3 hG (fun k9 e => (hO3.lt k9 e).1)
            have hO4 := own_app hO rfl rfl
            clear hO hG hSL
            refine hK.out _ _ ⟨hB4.cell 0, hB4.cell 1⟩ (fun hHeld => ?_)
            clear hK K
            try simp only [Act.put, List.getElem_toArray, List.getElem_cons_succ, List.getElem_cons_zero, List.setIfInBounds_toArray, List.set_cons_zero, List.set_cons_succ]
            refine wpAnyH_take (i := 11) (v := V4) rfl (by kernel_rfl) (by kernel_rfl) (by kernel_rfl) (fun _ _ _ h => h) (Or.inl ⟨by kernel_rfl, by (intro w hSw; (try dsimp only at hSw); go_simp)⟩) hHeld ?_
            simp only [Act.put, List.getElem_toArray, List.getElem_cons_succ, List.getElem_cons_zero, List.setIfInBounds_toArray, List.set_cons_zero, List.set_cons_succ]
            refine wpAnyH_done (by kernel_rfl) ?_ _
            have k0 : x4.cell? ⟨wr.heap.size, 0, none⟩ = some (.int .i64 1000) := hB4.cell 0
            have hln : (pre ++ Y ++ [[116, 104, 111, 117, 115, 97, 110, 100]]).length ≤ (2 + 1) * 101 := by rw [List.length_append, List.length_append]; simp; omega
            generalize pre ++ Y ++ [[116, 104, 111, 117, 115, 97, 110, 100]] = PR at *
            go_wp2
            exact ⟨⟨2 + 1, r, V4, PR, _, rfl, rfl, rfl, rfl, by decide, hrm, fun h => by omega, fun h => by omega, fun h => by omega, fun h => by omega, hln, hs.out, hO4, hb4⟩, by simp [intOf]⟩
        · have hL1 := Blk.new (w1.drewN 1) 9 #[.string ⟨#[116, 104, 111, 117, 115, 97, 110, 100]⟩]
          have hAl := (Below.refl (w1.drewN 1).heap.size (w1.drewN 1)).alloc (Nat.le_refl _) (.cells #[.string ⟨#[116, 104, 111, 117, 115, 97, 110, 100]⟩] 9)
          have hB1 := hB0.below hAl
          have hO1 := own_below hO0 hAl
          have hb1 := hb0.trans (hAl.mono hb0.size)
          have hT1 := hT.below hb1
          have hLn1 : some (w1.drewN 1).heap.size ≠ V.ownBlock := fun e => by have := (hO0.lt _ e.symm).2; omega
          clear hAl
          go_simp
          refine hK.out _ _ ⟨hB1.cell 0, hB1.cell 1⟩ (fun hHeld => ?_)
          clear hK K
          try simp only [Act.put, List.getElem_toArray, List.getElem_cons_succ, List.getElem_cons_zero, List.setIfInBounds_toArray, List.set_cons_zero, List.set_cons_succ]
          refine wpAnyH_ready (rs := [5]) (by kernel_rfl) (by simp) ?_
          refine AllReadyH.cons rfl (fun K hK => ?_) AllReadyH.nil
          go_simp
          refine (hc.out _ hT1).mono ?_
          rintro e x2 ⟨V2, rfl, hY, hx⟩
          have hB2 := hB1.below hx
          have hO2 := own_below hO1 hx
          have hb2 := hb1.trans (hx.mono hb1.size)
          have hT2 := hT.below hb2
          obtain ⟨A2, c2, rfl, hSY2⟩ := Src.of_own hY (oneCell_svs Y)
          have hL2 := hL1.below hx
          have hLn2 := hLn1
          clear hY hx
          go_wp2_with fail
          refine hK.out _ _ ⟨hB2.cell 0, hB2.cell 1⟩ (fun hHeld => ?_)
          clear hK K
          try simp only [Act.put, List.getElem_toArray, List.getElem_cons_succ, List.getElem_cons_zero, List.setIfInBounds_toArray, List.set_cons_zero, List.set_cons_succ]
          refine wpAnyH_ready (rs := [6]) (by kernel_rfl) (by simp) ?_
          refine AllReadyH.cons rfl (fun K hK => ?_) AllReadyH.nil
          refine step_append_any (by rfl) _ _ _ (by rfl) w.heap.size 9 i0 (.string ⟨#[]⟩) 1 16 Tryz.underlying32 hi hz0 hz1 hz2 (by rfl) (by decide) V pre.length (svs pre) (by rfl) hO2 A2 Y.length c2 (svs Y) (by rfl) hSY2 (by unfold maxLen; omega) (by omega) hb2.size ?_
          intro V3 x3 hO hG _
          have hB3 := hB2.grown hG (blk_row hB2 hO2 (by decide))
          have hb3 : Below w.heap.size w x3 := bel_grown2 hb2 hG (fun k9 e => (hO2.lt k9 e).1)
          have hT3 := hT.below hb3
          have hO3 := own_app hO rfl rfl
          have hL3 := hL2.grown hG hLn2
          clear hO hG
          refine hK.out _ _ ⟨hB3.cell 0, hB3.cell 1⟩ (fun hHeld => ?_)
          clear hK K
          try simp only [Act.put, List.getElem_toArray, List.getElem_cons_succ, List.getElem_cons_zero, List.setIfInBounds_toArray, List.set_cons_zero, List.set_cons_succ]
          refine wpAnyH_ready (rs := [10]) (by kernel_rfl) (by simp) ?_
          refine AllReadyH.cons rfl (fun K hK => ?_) AllReadyH.nil
          have hSL := src_lit (x := [116, 104, 111, 117, 115, 97, 110, 100]) hL3
          refine step_append_any (by rfl) _ _ _ (by rfl) w.heap.size 9 i0 (.string ⟨#[]⟩) 1 16 Tryz.underlying32 hi hz0 hz1 hz2 (by rfl) (by decide) V3 (pre ++ Y).length (svs (pre ++ Y)) (by rfl) hO3 _ 1 1 (svs [[116, 104, 111, 117, 115, 97, 110, 100]]) (by rfl) hSL (by rw [List.length_append]; unfold maxLen; omega) (by rw [List.length_append]; omega) hb3.size ?_
          intro V4 x4 hO hG _
          have hB4 := hB3.grown hG (blk_row hB3 hO3 (by decide))
          have hb4 : Below w.heap.size w x4 := bel_grown2 hb3 hG (fun k9 e => (hO3.lt k9 e).1)
          have hO4 := own_app hO rfl rfl
          clear hO hG hSL
          refine hK.out _ _ ⟨hB4.cell 0, hB4.cell 1⟩ (fun hHeld => ?_)
          clear hK K
          try simp only [Act.put, List.getElem_toArray, List.getElem_cons_succ, List.getElem_cons_zero, List.setIfInBounds_toArray, List.set_cons_zero, List.set_cons_succ]
          refine wpAnyH_take (i := 11) (v := V4) rfl (by kernel_rfl) (by kernel_rfl) (by kernel_rfl) (fun _ _ _ h => h) (Or.inl ⟨by kernel_rfl, by (intro w hSw; (try dsimp only at hSw); go_simp)⟩) hHeld ?_
          simp only [Act.put, List.getElem_toArray, List.getElem_cons_succ, List.getElem_cons_zero, List.setIfInBounds_toArray, List.set_cons_zero, List.set_cons_succ]
          refine wpAnyH_done (by kernel_rfl) ?_ _
          have k0 : x4.cell? ⟨wr.heap.size, 0, none⟩ = some (.int .i64 1000) := hB4.cell 0
          have hln : (pre ++ Y ++ [[116, 104, 111, 117, 115, 97, 110, 100]]).length ≤ (2 + 1) * 101 := by rw [List.length_append, List.length_append]; simp; omega
          generalize pre ++ Y ++ [[116, 104, 111, 117, 115, 97, 110, 100]] = PR at *
          go_wp2
          exact ⟨⟨2 + 1, r, V4, PR, _, rfl, rfl, rfl, rfl, by decide, hrm, fun h => by omega, fun h => by omega, fun h => by omega, fun h => by omega, hln, hs.out, hO4, hb4⟩, by simp [intOf]⟩
      · have hm1 : ¬ (1000 : Int) ≤ (m : Int) := by omega
        have hm2 : decide ((1000 : Int) ≤ (m : Int)) = false := decide_eq_false hm1
        have hs := Lib.hid (show loopW cnt powL [] n0 = loopW cnt (powL.drop (2 + 1)) pre m by
          rw [hq.out]
          exact if_neg hm)
        have hmb : m < 1000 := by omega
        clear hm
        go_wp2
        exact ⟨⟨2 + 1, m, V, pre, _, rfl, rfl, rfl, rfl, by decide, hmn, fun h => by omega, fun h => by omega, fun h => by omega, fun h => by omega, by omega, hs.out, hownA, hba⟩, by simp [intOf]⟩
    · have hml := hm3 rfl
      clear hm0 hm1 hm2 hm3
      have hcg := Lib.hid (show cntG cnt n0 = tailW pre m by unfold cntG; rw [hq.out, show loopW cnt (powL.drop 3) pre m = (pre, m) from rfl])
      obtain ⟨N0, hN0⟩ : ∃ N0, pre.length = N0 := ⟨_, rfl⟩
      rw [hN0] at hown hpl
      have hlN := Lib.hid hN0
      clear hN0
      obtain ⟨AV, cV, hVe, hSV, _, _⟩ := Ss.of_own hown
      subst hVe
      have hcapV := hSV.cap
      have htopV := hSV.top
      by_cases h100 : 100 ≤ m
      · have g1 : (100 : Int) ≤ (m : Int) := by omega
        have g2 : decide ((100 : Int) ≤ (m : Int)) = true := decide_eq_true g1
        obtain ⟨a, ha⟩ : ∃ a, m / 100 = a := ⟨_, rfl⟩
        obtain ⟨r, hr⟩ : ∃ r, m % 100 = r := ⟨_, rfl⟩
        have d1 : (m : Int).tdiv 100 = (a : Int) := by rw [Int.tdiv_eq_ediv_of_nonneg (by omega)]; omega
        have d2 : (m : Int) / 100 = (a : Int) := by omega
        have d3 : (m : Int).tmod 100 = (r : Int) := by rw [Int.tmod_eq_emod_of_nonneg (by omega)]; omega
        have d4 : (m : Int) % 100 = (r : Int) := by omega
        have wa : IntKind.i64.wrap (a : Int) = (a : Int) := IntWalk.i64_in _ (by omega)
        have hr100 : r < 100 := by omega
        have hcg2 := Lib.hid (show cntG cnt n0 = lastW (pre ++ [smallN a, [104, 117, 110, 100, 114, 101, 100]]) r by rw [hcg.out]; unfold tailW; rw [if_pos h100, ha, hr])
        have hsm := Lib.hid (fun (w9 : World) (h9 : WT w9) => small_any a (by omega) (by omega) w9 h9)
        clear ha hr h100
        generalize smallN a = SA at *
        go_wp2_with fail
        refine (hsm.out _ hTr).mono ?_
        rintro e w' ⟨rfl, rfl⟩
        have hAl := (Below.refl wr.heap.size wr).alloc (Nat.le_refl _) (.cells #[.string ⟨SA.toArray⟩, .string ⟨#[104, 117, 110, 100, 114, 101, 100]⟩] 9)
        have hOl := own_below hown hAl
        have hbl := hbel.trans (hAl.mono hbs)
        have hlit := own_lit wr [SA, [104, 117, 110, 100, 114, 101, 100]] (by simp)
        obtain ⟨AL, cL, hLe, hSL⟩ := Src.of_own hlit (oneCell_svs _)
        injection hLe with hL1 hL2 hL3
        subst hL1
        subst hL3
        go_wp2_with (at_builtin; refine wpList_append_any rfl (.tmp 32) (.tmp 36) 32 rfl w.heap.size 9 i0 (.string ⟨#[]⟩) 1 16 Tryz.underlying32 hi hz0 hz1 hz2 rfl (by decide) _ N0 (svs pre) rfl hOl _ 2 2 (svs [SA, [104, 117, 110, 100, 114, 101, 100]]) rfl hSL (by unfold maxLen; omega) (by omega) hbl.size ?_; intro V5 x5 hOx hGx hZx; clear hZx)
        have hb5 : Below w.heap.size w x5 := bel_grown2 hbl hGx (fun k9 e => (hOl.lt k9 e).1)
        have hO5 := own_app hOx hlN.out rfl
        have hT5 := hT.below hb5
        have hpl5 : (pre ++ [SA, [104, 117, 110, 100, 114, 101, 100]]).length ≤ 306 := by rw [List.length_append, hlN.out]; simp; omega
        have hPne : ¬ pre ++ [SA, [104, 117, 110, 100, 114, 101, 100]] = [] := by simp
        have hPl0 : 0 < (pre ++ [SA, [104, 117, 110, 100, 114, 101, 100]]).length := by simp
        clear hOx hGx hOl hbl hAl hlit hSL hown hSV hlN
        generalize pre ++ [SA, [104, 117, 110, 100, 114, 101, 100]] = PP at *
        obtain ⟨N5, hN0⟩ : ∃ N5, PP.length = N5 := ⟨_, rfl⟩
        rw [hN0] at hO5 hpl5 hPl0
        have hlN := Lib.hid hN0
        clear hN0
        obtain ⟨A5, c5, hVe, hSV, _, _⟩ := Ss.of_own hO5
        subst hVe
        have hcap5 := hSV.cap
        have htop5 := hSV.top
        have e1 : ((N5 : Int) == 0) = false := by rw [beq_eq_false_iff_ne]; omega
        have hlen : (Builtin.len_ #[32] 3 #[.slice A5 N5 c5]).run Tryz.prog x5 = .ok (.int .i64 (N5 : Int)) x5 := by go_simp
        have hlne := hPne
        by_cases hm0 : r = 0
        · have e0 : ((r : Int) == 0) = true := by rw [hm0]; rfl
          have hw2 := Lib.hid (show cntG cnt n0 = PP by rw [hcg2.out]; unfold lastW; rw [if_neg hlne, if_pos hm0])
          clear hm0
          go_wp2
          rw [hlen]
          go_wp2
          go_ret
          rw [hw2.out]
          exact ⟨_, rfl, by rw [hlN.out]; exact hO5, hb5⟩
        · have e0 : ((r : Int) == 0) = false := by rw [beq_eq_false_iff_ne]; omega
          have hw2 := Lib.hid (show cntG cnt n0 = PP ++ [[97, 110, 100]] ++ twoW r by rw [hcg2.out]; unfold lastW; rw [if_neg hlne, if_neg hm0])
          have hbe := Lib.hid (fun (w9 : World) (h9 : WT w9) => belowHundred_any r hr100 w9 h9)
          have htl := twoW_len r
          generalize twoW r = TW at *
          have hAl := (Below.refl (x5).heap.size (x5)).alloc (Nat.le_refl _) (.cells #[.string ⟨#[97, 110, 100]⟩] 9)
          have hOl := own_below hO5 hAl
          have hbl := hb5.trans (hAl.mono hb5.size)
          have hSL := src_lit (x := [97, 110, 100]) (Blk.new (x5) 9 #[.string ⟨#[97, 110, 100]⟩])
          go_wp2
          rw [hlen]
          go_wp2_with (at_builtin; refine wpList_append_any rfl (.tmp 50) (.tmp 51) 32 rfl w.heap.size 9 i0 (.string ⟨#[]⟩) 1 16 Tryz.underlying32 hi hz0 hz1 hz2 rfl (by decide) _ N5 (svs PP) rfl hOl _ 1 1 (svs [[97, 110, 100]]) rfl hSL (by unfold maxLen; omega) (by omega) hbl.size ?_; intro V7 x7 hOx hGx hZx; clear hZx)
          have hb7 : Below w.heap.size w x7 := bel_grown2 hbl hGx (fun k9 e => (hOl.lt k9 e).1)
          have hO7 := own_app hOx hlN.out rfl
          have hT7 := hT.below hb7
          clear hOx hGx
          go_wp2_with fail
          refine (hbe.out _ hT7).mono ?_
          rintro e x8 ⟨V8, rfl, hY, hx8⟩
          have hO8 := own_below hO7 hx8
          have hb8 := hb7.trans (hx8.mono hb7.size)
          obtain ⟨A8, c8, rfl, hS8⟩ := Src.of_own hY (oneCell_svs TW)
          have hpn : (PP ++ [[97, 110, 100]]).length ≤ 310 := by rw [List.length_append, hlN.out]; simp; omega
          generalize PP ++ [[97, 110, 100]] = PA at *
          go_wp2_with (at_builtin; refine wpList_append_any rfl (.tmp 52) (.tmp 54) 32 rfl w.heap.size 9 i0 (.string ⟨#[]⟩) 1 16 Tryz.underlying32 hi hz0 hz1 hz2 rfl (by decide) V7 PA.length (svs PA) rfl hO8 A8 TW.length c8 (svs TW) rfl hS8 (by unfold maxLen; omega) (by omega) hb8.size ?_; intro V9 x9 hOx hGx hZx; clear hZx)
          have hb9 : Below w.heap.size w x9 := bel_grown2 hb8 hGx (fun k9 e => (hO8.lt k9 e).1)
          have hO9 := own_app hOx rfl rfl
          go_wp2
          go_ret
          rw [hw2.out]
          exact ⟨V9, rfl, hO9, hb9⟩
      · have g1 : ¬ (100 : Int) ≤ (m : Int) := by omega
        have g2 : decide ((100 : Int) ≤ (m : Int)) = false := decide_eq_false g1
        have hm100 : m < 100 := by omega
        have hcg2 := Lib.hid (show cntG cnt n0 = lastW pre m by rw [hcg.out]; unfold tailW; rw [if_neg h100])
        clear h100
        by_cases hpe : pre = []
        · subst hpe
          obtain rfl : N0 = 0 := hlN.out.symm
          have hw2 := Lib.hid (show cntG cnt n0 = twoW m by rw [hcg2.out]; unfold lastW; rw [if_pos rfl])
          have hbe := Lib.hid (belowHundred_any m hm100 wr hTr)
          generalize twoW m = TW at *
          go_wp2_with fail
          refine hbe.out.mono ?_
          rintro e x8 ⟨V8, rfl, hY, hx8⟩
          have hb8 := hbel.trans (hx8.mono hbs)
          have hY2 := own_mono hY hbs
          go_wp2
          go_ret
          rw [hw2.out]
          exact ⟨V8, rfl, hY2, hb8⟩
        · have hPl0 : 0 < N0 := by rw [← hlN.out]; cases pre with | nil => exact absurd rfl hpe | cons a b => simp
          have e1 : ((N0 : Int) == 0) = false := by rw [beq_eq_false_iff_ne]; omega
          have hlne := hpe
          by_cases hm0 : m = 0
          · have e0 : ((m : Int) == 0) = true := by rw [hm0]; rfl
            have hw2 := Lib.hid (show cntG cnt n0 = pre by rw [hcg2.out]; unfold lastW; rw [if_neg hlne, if_pos hm0])
            clear hm0
            go_wp2
            go_ret
            rw [hw2.out]
            exact ⟨_, rfl, by rw [hlN.out]; exact hown, hbel⟩
          · have e0 : ((m : Int) == 0) = false := by rw [beq_eq_false_iff_ne]; omega
            have hw2 := Lib.hid (show cntG cnt n0 = pre ++ [[97, 110, 100]] ++ twoW m by rw [hcg2.out]; unfold lastW; rw [if_neg hlne, if_neg hm0])
            have hbe := Lib.hid (fun (w9 : World) (h9 : WT w9) => belowHundred_any m hm100 w9 h9)
            have htl := twoW_len m
            generalize twoW m = TW at *
            have hAl := (Below.refl (wr).heap.size (wr)).alloc (Nat.le_refl _) (.cells #[.string ⟨#[97, 110, 100]⟩] 9)
            have hOl := own_below hown hAl
            have hbl := hbel.trans (hAl.mono hbel.size)
            have hSL := src_lit (x := [97, 110, 100]) (Blk.new (wr) 9 #[.string ⟨#[97, 110, 100]⟩])
            go_wp2_with (at_builtin; refine wpList_append_any rfl (.tmp 50) (.tmp 51) 32 rfl w.heap.size 9 i0 (.string ⟨#[]⟩) 1 16 Tryz.underlying32 hi hz0 hz1 hz2 rfl (by decide) _ N0 (svs pre) rfl hOl _ 1 1 (svs [[97, 110, 100]]) rfl hSL (by unfold maxLen; omega) (by omega) hbl.size ?_; intro V7 x7 hOx hGx hZx; clear hZx)
            have hb7 : Below w.heap.size w x7 := bel_grown2 hbl hGx (fun k9 e => (hOl.lt k9 e).1)
            have hO7 := own_app hOx hlN.out rfl
            have hT7 := hT.below hb7
            clear hOx hGx
            go_wp2_with fail
            refine (hbe.out _ hT7).mono ?_
            rintro e x8 ⟨V8, rfl, hY, hx8⟩
            have hO8 := own_below hO7 hx8
            have hb8 := hb7.trans (hx8.mono hb7.size)
            obtain ⟨A8, c8, rfl, hS8⟩ := Src.of_own hY (oneCell_svs TW)
            have hpn : (pre ++ [[97, 110, 100]]).length ≤ 310 := by rw [List.length_append, hlN.out]; simp; omega
            generalize pre ++ [[97, 110, 100]] = PA at *
            go_wp2_with (at_builtin; refine wpList_append_any rfl (.tmp 52) (.tmp 54) 32 rfl w.heap.size 9 i0 (.string ⟨#[]⟩) 1 16 Tryz.underlying32 hi hz0 hz1 hz2 rfl (by decide) V7 PA.length (svs PA) rfl hO8 A8 TW.length c8 (svs TW) rfl hS8 (by unfold maxLen; omega) (by omega) hb8.size ?_; intro V9 x9 hOx hGx hZx; clear hZx)
            have hb9 : Below w.heap.size w x9 := bel_grown2 hb8 hGx (fun k9 e => (hO8.lt k9 e).1)
            have hO9 := own_app hOx rfl rfl
            go_wp2
            go_ret
            rw [hw2.out]
            exact ⟨V9, rfl, hO9, hb9⟩

theorem lastW_len (pre : List Str) (n : Nat) : (lastW pre n).length ≤ pre.length + 3 := by
  have := twoW_len n
  unfold lastW
  split
  · omega
  · split
    · omega
    · rw [List.length_append, List.length_append]; simp; omega
theorem tailW_len (pre : List Str) (n : Nat) : (tailW pre n).length ≤ pre.length + 5 := by
  unfold tailW
  split
  · have := lastW_len (pre ++ [smallN (n / 100), [104, 117, 110, 100, 114, 101, 100]]) (n % 100)
    rw [List.length_append] at this
    simp at this
    omega
  · have := lastW_len pre n
    omega
/-- the words of a number below a thousand -/
def cnt3 (n : Nat) : List Str := tailW [] n
/-- the words of a number that is not negative -/
def cntW (n : Nat) : List Str := cntG cnt3 n
theorem cntG_small (cnt : Nat → List Str) {n : Nat} (h : n < 1000) : cntG cnt n = cnt3 n := by
  have e : loopW cnt powL [] n = ([], n) := by
    show (if 1000000000 ≤ n then _ else (if 1000000 ≤ n then _ else (if 1000 ≤ n then _ else _))) = _
    rw [if_neg (by omega), if_neg (by omega), if_neg (by omega)]
    rfl
  unfold cntG
  rw [e]; rfl
theorem count3_any (n : Nat) (hn : n < 1000) (w : World) (hT : WT w) : Calls Tryz.prog 213 #[.int .i64 (n : Int)] w (RetW (cnt3 n) w) := by
  have h := count_gen n (by omega) (fun _ => []) (fun _ => Nat.zero_le _) (fun h => absurd h (by omega)) w hT
  rw [cntG_small _ hn] at h
  exact h
theorem sayCount_any (n : Nat) (hn : n < 1000000000000) (w : World) (hT : WT w) : Calls Tryz.prog 213 #[.int .i64 (n : Int)] w (RetW (cntW n) w) :=
  count_gen n hn cnt3 (fun q => by have := tailW_len [] q; unfold cnt3; simp at this; omega) (fun _ q _ h2 w9 h9 => count3_any q h2 w9 h9) w hT
end Go.Proofs.YtpdfjlbfhnapkaaGreatDoor
