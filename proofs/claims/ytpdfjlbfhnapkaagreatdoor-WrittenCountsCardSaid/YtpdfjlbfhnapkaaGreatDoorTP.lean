/- Whether a word occurs in a spoken form. -/
import Derived.Test.YtpdfjlbfhnapkaaGreatDoorTN
namespace Go.Proofs.YtpdfjlbfhnapkaaGreatDoor
open Go.RowKit
set_option linter.unusedSimpArgs false
set_option linter.unusedVariables false
set_option maxRecDepth 100000

def occB (x : Str) : Bool := othersL.contains x || (decide (x = [122, 101, 114, 111]) || (decide (0 < (monthF [x]).1) || (countsB x || decide (cardW x ≠ []))))
theorem drop_cons_of {α : Type} {l : List α} {j : Nat} {y : α} (h : l[j]? = some y) : l.drop j = y :: l.drop (j + 1) := by
  have hj := lt_of_some h
  rw [List.drop_eq_getElem_cons hj]
  rw [List.getElem?_eq_getElem hj] at h
  injection h with h
  rw [h]
set_option maxHeartbeats 8000000 in
theorem occurs_any (x : Str) (hxl : x.length ≤ 10000) (w : World) (hT : WT w) : Calls Tryz.prog 106 #[.string ⟨x.toArray⟩] w fun e w' => e = .returned (.bool (occB x)) ∧ Below w.heap.size w w' := by
  have c0 : w.cell? ⟨0, 0, none⟩ = some (.string ⟨#[109, 105, 110, 117, 115]⟩) := hT.others 0 (by decide)
  have c1 : w.cell? ⟨0, 1, none⟩ = some (.string ⟨#[97, 110, 100]⟩) := hT.others 1 (by decide)
  have c2 : w.cell? ⟨0, 2, none⟩ = some (.string ⟨#[100, 105, 103, 105, 116, 115]⟩) := hT.others 2 (by decide)
  have c3 : w.cell? ⟨0, 3, none⟩ = some (.string ⟨#[112, 111, 105, 110, 116]⟩) := hT.others 3 (by decide)
  have c4 : w.cell? ⟨0, 4, none⟩ = some (.string ⟨#[104, 111, 117, 114, 115]⟩) := hT.others 4 (by decide)
  have c5 : w.cell? ⟨0, 5, none⟩ = some (.string ⟨#[111, 104]⟩) := hT.others 5 (by decide)
  have c6 : w.cell? ⟨0, 6, none⟩ = some (.string ⟨#[116, 104, 101]⟩) := hT.others 6 (by decide)
  have c7 : w.cell? ⟨0, 7, none⟩ = some (.string ⟨#[111, 102]⟩) := hT.others 7 (by decide)
  have c8 : w.cell? ⟨0, 8, none⟩ = some (.string ⟨#[100, 111, 108, 108, 97, 114]⟩) := hT.others 8 (by decide)
  have c9 : w.cell? ⟨0, 9, none⟩ = some (.string ⟨#[100, 111, 108, 108, 97, 114, 115]⟩) := hT.others 9 (by decide)
  have c10 : w.cell? ⟨0, 10, none⟩ = some (.string ⟨#[99, 101, 110, 116]⟩) := hT.others 10 (by decide)
  have c11 : w.cell? ⟨0, 11, none⟩ = some (.string ⟨#[99, 101, 110, 116, 115]⟩) := hT.others 11 (by decide)
  go_enter Tryz.func106, Tryz.ntmps106
  go_wp2
  clear c0 c1 c2 c3 c4 c5 c6 c7 c8 c9 c10 c11
  go_loopw [7] (fun iv wr' => ∃ (j : Nat) (wr : World), wr = wr' ∧ iv = .int .i64 (j : Int) ∧ j ≤ 12 ∧ Hid (othersL.contains x = (othersL.drop j).contains x) ∧ Below w.heap.size w wr) (fun iv _ => 12 - (intOf iv).toNat)
  case atStart => exact ⟨0, _, rfl, rfl, by decide, rfl, Below.refl _ _⟩
  case round =>
    obtain ⟨j, wr, rfl, rfl, hj, hq, hbel⟩ := hrel
    have hbs := hbel.size
    rcases Nat.lt_or_ge j 12 with hlt | hge
    · have hix : ∃ y : Str, othersL[j]? = some y ∧ ∀ w9 : World, (Instr.index 130 (.agg #[.string ⟨#[109, 105, 110, 117, 115]⟩, .string ⟨#[97, 110, 100]⟩, .string ⟨#[100, 105, 103, 105, 116, 115]⟩, .string ⟨#[112, 111, 105, 110, 116]⟩, .string ⟨#[104, 111, 117, 114, 115]⟩, .string ⟨#[111, 104]⟩, .string ⟨#[116, 104, 101]⟩, .string ⟨#[111, 102]⟩, .string ⟨#[100, 111, 108, 108, 97, 114]⟩, .string ⟨#[100, 111, 108, 108, 97, 114, 115]⟩, .string ⟨#[99, 101, 110, 116]⟩, .string ⟨#[99, 101, 110, 116, 115]⟩]) (.int .i64 (j : Int))).run Tryz.prog w9 = .ok (.string ⟨y.toArray⟩) w9 := by
        rcases (show j = 0 ∨ j = 1 ∨ j = 2 ∨ j = 3 ∨ j = 4 ∨ j = 5 ∨ j = 6 ∨ j = 7 ∨ j = 8 ∨ j = 9 ∨ j = 10 ∨ j = 11 by omega) with rfl | rfl | rfl | rfl | rfl | rfl | rfl | rfl | rfl | rfl | rfl | rfl <;> exact ⟨_, rfl, fun _ => by kernel_rfl⟩
      obtain ⟨y, hy, hix⟩ := hix
      have hlt2 : (j : Int) < 12 := by omega
      have hdc := drop_cons_of hy
      by_cases hx : y = x
      · have hbx : (y == x) = true := by rw [hx]; simp
        have hw := Lib.hid (show occB x = true by
          unfold occB
          rw [List.contains_iff_mem.2 (by rw [← hx]; exact List.mem_of_getElem? hy)]
          rfl)
        clear hx hy hdc
        go_wp2
        go_ret
        exact ⟨ret_bool hw.out.symm, hbel⟩
      · have hbx : (y == x) = false := by rw [beq_eq_false_iff_ne]; exact hx
        have hq2 := Lib.hid (show othersL.contains x = (othersL.drop (j + 1)).contains x from hq.out.trans (by
          rw [hdc, List.contains_cons, show (x == y) = false by rw [beq_eq_false_iff_ne]; exact fun e => hx e.symm, Bool.false_or]))
        clear hx hy hdc
        go_wp2
        exact ⟨⟨j + 1, _, rfl, by go_num, hlt, hq2.out, hbel⟩, by simp [intOf]; omega⟩
    · obtain rfl : j = 12 := by omega
      have hw := Lib.hid (show occB x = (decide (x = [122, 101, 114, 111]) || (decide (0 < (monthF [x]).1) || (countsB x || decide (cardW x ≠ [])))) by
        unfold occB; rw [hq.out]; rfl)
      have hTr := hT.below hbel
      have hP := parser1 (x := x) hTr
      have hb2 := (hbel.alloc hbs (.cells #[.string ⟨x.toArray⟩] 9)).alloc (by rw [World.size_alloc]; omega) (.cells #[.slice (some ⟨wr.heap.size, 0, none⟩) 1 1] 107)
      have hs2 := hb2.size
      have htk := Lib.hid (fun (w9 : World) (h9 : PW w9 (wr.heap.size + 1) [x]) => takeW (wr.heap.size + 1) [122, 101, 114, 111] [x] w9 h9)
      have hmo := Lib.hid (fun (w9 : World) (h9 : PW w9 (wr.heap.size + 1) [x]) => month_read (wr.heap.size + 1) [x] w9 h9)
      have hco := Lib.hid (fun (w9 : World) (h9 : WT w9) => counts_any x w9 h9)
      have hca := Lib.hid (fun (w9 : World) (h9 : WT w9) => cardinalWord_any x hxl w9 h9)
      have htb : tkB [122, 101, 114, 111] [x] = decide (x = [122, 101, 114, 111]) := rfl
      have htr : tkR [122, 101, 114, 111] [x] = if tkB [122, 101, 114, 111] [x] = true then [] else [x] := rfl
      rw [← htb] at hw
      obtain ⟨m, vs, hr⟩ := pair_eta (monthF [x])
      rw [hr] at hmo hw
      generalize countsB x = CB at *
      generalize cardW x = CW at *
      clear hr htb
      cases hz : tkB [122, 101, 114, 111] [x] with
      | true =>
        rw [hz] at htk hw htr
        have hw2 := Lib.hid (show occB x = true from hw.out)
        clear hz htr hmo hco hca
        go_wp2_with fail
        generalize (wr.alloc (.cells #[.string ⟨x.toArray⟩] 9)).alloc (.cells #[.slice (some ⟨wr.heap.size, 0, none⟩) 1 1] 107) = w2 at *
        refine (htk.out _ hP).mono ?_
        rintro e w4 ⟨rfl, _, hU4⟩
        have hb4 := hb2.trans (hU4.below (B := w.heap.size) (by omega) hs2)
        go_wp2
        go_ret
        exact ⟨ret_bool hw2.out.symm, hb4⟩
      | false =>
        rw [hz] at htk hw htr
        rw [if_neg Bool.false_ne_true] at htr
        rw [htr] at htk
        clear hz htr
        have hw2 := Lib.hid (show occB x = (decide (0 < m) || (CB || decide (CW ≠ []))) from hw.out)
        by_cases hm : 0 < m
        · have g1 : (0 : Int) < (m : Int) := by omega
          have g2 : decide ((0 : Int) < (m : Int)) = true := decide_eq_true g1
          have hw3 := Lib.hid (show occB x = true by rw [hw2.out, decide_eq_true hm]; rfl)
          clear hm
          go_wp2_with fail
          generalize (wr.alloc (.cells #[.string ⟨x.toArray⟩] 9)).alloc (.cells #[.slice (some ⟨wr.heap.size, 0, none⟩) 1 1] 107) = w2 at *
          refine (htk.out _ hP).mono ?_
          rintro e w4 ⟨rfl, hP4, hU4⟩
          have hb4 := hb2.trans (hU4.below (B := w.heap.size) (by omega) hs2)
          go_wp2_with fail
          refine (hmo.out _ hP4).mono ?_
          rintro e w5 ⟨rfl, hP5, hU5⟩
          have hb5 := hb2.trans ((hU4.trans hU5).below (B := w.heap.size) (by omega) hs2)
          go_wp2
          go_ret
          exact ⟨ret_bool hw3.out.symm, hb5⟩
        · obtain rfl : m = 0 := by omega
          have hw3 := Lib.hid (show occB x = (CB || decide (CW ≠ [])) from hw2.out)
          cases CB with
          | true =>
            have hw4 := Lib.hid (show occB x = true from hw3.out)
            go_wp2_with fail
            generalize (wr.alloc (.cells #[.string ⟨x.toArray⟩] 9)).alloc (.cells #[.slice (some ⟨wr.heap.size, 0, none⟩) 1 1] 107) = w2 at *
            refine (htk.out _ hP).mono ?_
            rintro e w4 ⟨rfl, hP4, hU4⟩
            go_wp2_with fail
            refine (hmo.out _ hP4).mono ?_
            rintro e w5 ⟨rfl, hP5, hU5⟩
            have hb5 := hb2.trans ((hU4.trans hU5).below (B := w.heap.size) (by omega) hs2)
            go_wp2_with fail
            refine (hco.out _ hP5.2.1).mono ?_
            rintro e w6 ⟨rfl, hx6⟩
            have hb6 := hb5.trans (hx6.mono hb5.size)
            go_wp2
            go_ret
            exact ⟨ret_bool hw4.out.symm, hb6⟩
          | false =>
            have hw4 := Lib.hid (show occB x = decide (CW ≠ []) from hw3.out)
            cases CW with
            | nil =>
              have hw5 := Lib.hid (show occB x = false from hw4.out)
              go_wp2_with fail
              generalize (wr.alloc (.cells #[.string ⟨x.toArray⟩] 9)).alloc (.cells #[.slice (some ⟨wr.heap.size, 0, none⟩) 1 1] 107) = w2 at *
              refine (htk.out _ hP).mono ?_
              rintro e w4 ⟨rfl, hP4, hU4⟩
              go_wp2_with fail
              refine (hmo.out _ hP4).mono ?_
              rintro e w5 ⟨rfl, hP5, hU5⟩
              have hb5 := hb2.trans ((hU4.trans hU5).below (B := w.heap.size) (by omega) hs2)
              go_wp2_with fail
              refine (hco.out _ hP5.2.1).mono ?_
              rintro e w6 ⟨rfl, hx6⟩
              have hb6 := hb5.trans (hx6.mono hb5.size)
              go_wp2_with fail
              refine (hca.out _ (hT.below hb6)).mono ?_
              rintro e w7 ⟨rfl, hx7⟩
              go_wp2
              go_ret
              exact ⟨ret_bool hw5.out.symm, hb6.trans (hx7.mono hb6.size)⟩
            | cons a b =>
              have hw5 := Lib.hid (show occB x = true from hw4.out)
              go_wp2_with fail
              generalize (wr.alloc (.cells #[.string ⟨x.toArray⟩] 9)).alloc (.cells #[.slice (some ⟨wr.heap.size, 0, none⟩) 1 1] 107) = w2 at *
              refine (htk.out _ hP).mono ?_
              rintro e w4 ⟨rfl, hP4, hU4⟩
              go_wp2_with fail
              refine (hmo.out _ hP4).mono ?_
              rintro e w5 ⟨rfl, hP5, hU5⟩
              have hb5 := hb2.trans ((hU4.trans hU5).below (B := w.heap.size) (by omega) hs2)
              go_wp2_with fail
              refine (hco.out _ hP5.2.1).mono ?_
              rintro e w6 ⟨rfl, hx6⟩
              have hb6 := hb5.trans (hx6.mono hb5.size)
              go_wp2_with fail
              refine (hca.out _ (hT.below hb6)).mono ?_
              rintro e w7 ⟨rfl, hx7⟩
              go_wp2
              go_ret
              exact ⟨ret_bool hw5.out.symm, hb6.trans (hx7.mono hb6.size)⟩
end Go.Proofs.YtpdfjlbfhnapkaaGreatDoor

/- The ways to write some words as one part. -/
namespace Go.Proofs.YtpdfjlbfhnapkaaGreatDoor
open Go.RowKit
set_option linter.unusedSimpArgs false
set_option linter.unusedVariables false
set_option maxRecDepth 100000

/-- ways as cells -/
def spv (xs : List (Str × Nat)) : List Value := xs.flatMap fun x => [.string ⟨x.1.toArray⟩, .int .i64 ((x.2 : Nat) : Int)]
theorem spv_app (xs ys : List (Str × Nat)) : spv (xs ++ ys) = spv xs ++ spv ys := by simp [spv]
theorem spv_len (xs : List (Str × Nat)) : (spv xs).length = xs.length * 2 := by
  induction xs with
  | nil => rfl
  | cons x xs ih => simp [spv] at ih ⊢; omega
theorem info_step : (Tryz.prog.info? 81).map (fun i => (i.zero, i.size, i.bytes)) = some (some (.agg #[.string ⟨#[]⟩, .int .i64 0]), 2, 24) := by kernel_rfl
/-- the ways from a word on: so many ends from some end on -/
def stepN (ws : List Str) (a : Nat) : Nat → Nat → List (Str × Nat)
  | 0, _ => []
  | k + 1, e => if writeF ((ws.drop a).take (e - a)) = [] then stepN ws a k (e + 1) else (writeF ((ws.drop a).take (e - a)), e) :: stepN ws a k (e + 1)
def stepsF (ws : List Str) (a : Nat) : List (Str × Nat) := if occB (ws.getD a []) then stepN ws a (min ws.length (a + 37) - a) (a + 1) else [(ws.getD a [], a + 1)]
theorem stepN_len (ws : List Str) (a : Nat) : ∀ k e, (stepN ws a k e).length ≤ k := by
  intro k
  induction k with
  | zero => intro e; exact Nat.le_refl _
  | succ k ih =>
    intro e
    unfold stepN
    split
    · have := ih (e + 1); omega
    · have := ih (e + 1); simp only [List.length_cons]; omega
theorem stepsF_len (ws : List Str) (a : Nat) : (stepsF ws a).length ≤ 37 := by
  unfold stepsF
  split
  · have := stepN_len ws a (min ws.length (a + 37) - a) (a + 1); omega
  · simp
theorem stepN_in (ws : List Str) (a : Nat) : ∀ k e, ∀ x ∈ stepN ws a k e, e ≤ x.2 ∧ x.2 < e + k := by
  intro k
  induction k with
  | zero => intro e x hx; cases hx
  | succ k ih =>
    intro e x hx
    unfold stepN at hx
    split at hx
    · have := ih (e + 1) x hx; omega
    · rcases List.mem_cons.1 hx with h | h
      · subst h; simp only; omega
      · have := ih (e + 1) x h; omega
theorem stepsF_in {ws : List Str} {a : Nat} (h : a < ws.length) : ∀ x ∈ stepsF ws a, a < x.2 ∧ x.2 ≤ ws.length := by
  intro x hx
  unfold stepsF at hx
  split at hx
  · have := stepN_in ws a _ _ x hx; omega
  · rw [List.mem_singleton] at hx; subst hx; simp only; omega
theorem stepN_short (ws : List Str) (a : Nat) : ∀ k e, ∀ x ∈ stepN ws a k e, x.1.length ≤ 120 := by
  intro k
  induction k with
  | zero => intro e x hx; cases hx
  | succ k ih =>
    intro e x hx
    unfold stepN at hx
    split at hx
    · exact ih (e + 1) x hx
    · rcases List.mem_cons.1 hx with h | h
      · subst h; exact writeF_len _
      · exact ih (e + 1) x h
theorem stepsF_short {ws : List Str} {a : Nat} (hw : ∀ x ∈ ws, x.length ≤ 2000) : ∀ x ∈ stepsF ws a, x.1.length ≤ 2000 := by
  intro x hx
  unfold stepsF at hx
  split at hx
  · have := stepN_short ws a _ _ x hx; omega
  · rw [List.mem_singleton] at hx; subst hx
    simp only
    rw [List.getD_eq_getElem?_getD]
    cases h : ws[a]? with
    | none => simp
    | some y => exact hw y (List.mem_of_getElem? h)
/-- the call returned ways in a row of its own -/
def RetSt (xs : List (Str × Nat)) (w : World) (e : Ending) (w' : World) : Prop := ∃ V, e = .returned V ∧ w'.ownsRow w.heap.size 81 2 V xs.length (spv xs) ∧ Below w.heap.size w w'
theorem own_step {w : World} {x : Str} {e : Nat} : (w.alloc (.cells #[.string ⟨x.toArray⟩, .int .i64 (e : Int)] 81)).ownsRow w.heap.size 81 2 (.slice (some ⟨w.heap.size, 0, none⟩) 1 1) 1 (spv [(x, e)]) :=
  ⟨rfl, Or.inr ⟨w.heap.size, 1, _, rfl, Nat.le_refl _, Blk.new w 81 _, Nat.le_refl _, by decide, rfl, rfl⟩⟩
theorem src_step {w : World} {g : Nat} {x : Str} {e : Nat} (h : Blk w g 81 #[.string ⟨x.toArray⟩, .int .i64 (e : Int)]) : Src w (some ⟨g, 0, none⟩) 1 1 (spv [(x, e)]) 2 :=
  ⟨rfl, (fun e => by cases e), (fun ad e9 j u hu => by
    injection e9 with e9
    subst e9
    rw [add_new, h.cell j]
    match j, hu with
    | 0, hu => exact hu
    | 1, hu => exact hu), by
    intro u hu
    simp [spv] at hu
    rcases hu with rfl | rfl <;> rfl⟩
set_option maxHeartbeats 8000000 in
theorem stepsFrom_any (ad : Addr) (n c : Nat) (ws : List Str) (a : Nat) (ha : a < n) (w : World) (hS : Ss w (some ad) n c ws) (hlt : ad.block < w.heap.size) (hT : WT w) (hl : Shw ws) :
    Calls Tryz.prog 72 #[.slice (some ad) n c, .int .i64 (a : Int)] w (RetSt (stepsF ws a) w) := by
  have hcap := hS.cap
  have hln := hS.len
  have hn1 : n ≤ 100000 := by rw [← hln]; exact hl.1
  obtain ⟨ad0, x, he, hcx, hx⟩ := hS.at_ ha
  injection he with he
  subst he
  have hxl : x.length ≤ 10000 := hl.2 x (List.mem_of_getElem? hx.out)
  have hgd : ws.getD a [] = x := by rw [List.getD_eq_getElem?_getD, hx.out]; rfl
  have h1 : (a : Int) < (n : Int) := by omega
  have h0 : (0 : Int) ≤ (a : Int) := by omega
  have hoc := Lib.hid (occurs_any x hxl w hT)
  have wa1 : IntKind.i64.wrap ((a : Int) + 1) = ((a + 1 : Nat) : Int) := by rw [IntWalk.i64_in _ (by omega)]; omega
  obtain ⟨a1, ha1⟩ : ∃ a1, a + 1 = a1 := ⟨_, rfl⟩
  have hst : stepsF ws a = if occB x then stepN ws a (min ws.length (a + 37) - a) a1 else [(x, a1)] := by unfold stepsF; rw [hgd, ha1]
  rw [ha1] at wa1
  cases hob : occB x with
  | false =>
    rw [hob] at hoc
    have hst2 := Lib.hid (show stepsF ws a = [(x, a1)] by rw [hst, hob]; rfl)
    clear hst hob hgd hx ha1 hln
    go_enter Tryz.func72, Tryz.ntmps72
    go_wp2_with fail
    refine hoc.out.mono ?_
    rintro e w2 ⟨rfl, hb⟩
    have hcx2 : w2.cell? (ad.add a) = some (.string ⟨x.toArray⟩) := (hb.cell (by rw [block_of_add]; exact hlt)).trans hcx
    have hA := (Below.refl w2.heap.size w2).alloc (Nat.le_refl _) (.cells #[.string ⟨x.toArray⟩, .int .i64 (a1 : Int)] 81)
    have hO := own_mono (own_step (w := w2) (x := x) (e := a1)) hb.size
    go_wp2
    go_ret
    rw [hst2.out]
    exact ⟨_, rfl, hO, hb.trans (hA.mono hb.size)⟩
  | true =>
    rw [hob] at hoc
    obtain ⟨M, hM⟩ : ∃ M, min ws.length (a + 37) = M := ⟨_, rfl⟩
    rw [hM] at hst
    have hMn : M ≤ n := by omega
    have hM37 : M ≤ a + 37 := by omega
    have haM : a < M := by omega
    have wa37 : IntKind.i64.wrap ((a : Int) + 37) = (a : Int) + 37 := IntWalk.i64_in _ (by omega)
    have hm2 : min (n : Int) ((a : Int) + 37) = (M : Int) := by omega
    have hst2 := Lib.hid (show stepsF ws a = stepN ws a (M - a) a1 by rw [hst, hob]; rfl)
    obtain ⟨i0, hi, hz0, hz1, hz2⟩ := info_parts info_step
    have hca : ¬ c = a := by omega
    have hM37 := Lib.hid hM37
    clear hst hob hgd hx hM hln
    go_enter Tryz.func72, Tryz.ntmps72
    go_wp2_with fail
    refine hoc.out.mono ?_
    rintro e w2 ⟨rfl, hb⟩
    have hbz := hb.size
    go_wp2
    go_loopg [5, 6] (M - a) (fun gg Vv ev wr' => ∃ (k e : Nat) (V : Value) (ps : List (Str × Nat)) (wr : World), wr = wr' ∧ V = Vv ∧ Hid (gg = k) ∧ ev = .int .i64 (e : Int) ∧ a1 ≤ e ∧ e + k = M + 1 ∧ Hid (stepsF ws a = ps ++ stepN ws a k e) ∧ Hid (ps.length + k ≤ M - a) ∧ wr.ownsRow w2.heap.size 81 2 V ps.length (spv ps) ∧ Below w2.heap.size w2 wr)
    case atStart => exact ⟨M - a, a1, .slice none 0 0, [], _, rfl, rfl, rfl, rfl, Nat.le_refl _, by omega, hst2.out, (by show 0 + (M - a) ≤ _; omega), World.ownsRow_nil _ _ _ _, Below.refl _ _⟩
    case round =>
      obtain ⟨k, e, V, ps, wr, rfl, rfl, hgk, rfl, hae, hek, hq, hpk, hO, hbel⟩ := hrel
      have hbs := hbel.size
      have hbw := hb.trans (hbel.mono hbz)
      rcases Nat.eq_zero_or_pos k with hk0 | hk0
      · subst hk0
        have g1 : ¬ (e : Int) ≤ (M : Int) := by omega
        have g1d : decide ((e : Int) ≤ (M : Int)) = false := decide_eq_false g1
        have hq2 := Lib.hid (show stepsF ws a = ps by rw [hq.out]; show ps ++ [] = _; rw [List.append_nil])
        have hO2 := own_mono hO hbz
        go_wp2
        go_ret
        rw [hq2.out]
        exact ⟨V, rfl, hO2, hbw⟩
      · have g1 : (e : Int) ≤ (M : Int) := by omega
        have g1d : decide ((e : Int) ≤ (M : Int)) = true := decide_eq_true g1
        have hSr := (hS.below hbw).cut (m := a) (by omega)
        rw [if_neg hca] at hSr
        have hSt := hSr.take (m := e - a) (by omega)
        have hTr := hT.below hbw
        have hltr : ∀ ad9, (some ad).map (·.add a) = some ad9 → ad9.block < wr.heap.size := fun ad9 e9 => by injection e9 with e9; subst e9; rw [block_of_add]; exact Nat.lt_of_lt_of_le hlt hbw.size
        have hlr : Shw ((ws.drop a).take (e - a)) := ⟨by rw [List.length_take, List.length_drop]; have := hl.1; omega, fun y hy => hl.2 y (List.mem_of_mem_drop (List.mem_of_mem_take hy))⟩
        have hwr := Lib.hid (write_any ((some ad).map (·.add a)) (e - a) (c - a) ((ws.drop a).take (e - a)) wr hSt hltr hTr hlr)
        have hwl := writeF_len ((ws.drop a).take (e - a))
        obtain ⟨k2, hk2⟩ : ∃ k2, k = k2 + 1 := ⟨k - 1, by omega⟩
        have hq1 := Lib.hid (show stepsF ws a = ps ++ (if writeF ((ws.drop a).take (e - a)) = [] then stepN ws a k2 (e + 1) else (writeF ((ws.drop a).take (e - a)), e) :: stepN ws a k2 (e + 1)) by rw [hq.out, hk2]; rfl)
        have hk2 := Lib.hid hk2
        generalize writeF ((ws.drop a).take (e - a)) = Z at *
        have f1 : (a : Int) ≤ (e : Int) := by omega
        have f2 : (e : Int) ≤ (c : Int) := by omega
        have f3 : a ≤ e := by omega
        have f4 : e ≤ c := by omega
        have we : IntKind.i64.wrap ((e : Int) + 1) = ((e + 1 : Nat) : Int) := by rw [IntWalk.i64_in _ (by omega)]; omega
        obtain ⟨e1, he1⟩ : ∃ e1, e + 1 = e1 := ⟨_, rfl⟩
        rw [he1] at we
        have hae1 : a1 ≤ e1 := by omega
        have hek1 : e1 + k2 = M + 1 := by have := hk2.out; omega
        have he1 := Lib.hid he1
        by_cases hZ : Z = []
        · subst hZ
          have hq2 := Lib.hid (show stepsF ws a = ps ++ stepN ws a k2 e1 by rw [hq1.out, if_pos rfl, he1.out])
          go_wp2_with fail
          refine hwr.out.mono ?_
          rintro e9 x2 ⟨rfl, hx2⟩
          have hO2 := own_below hO hx2
          have hb3 := hbel.trans (hx2.mono hbs)
          go_wp2
          go_roundg k2
          case measure => have := hgk.out; have := hk2.out; omega
          case rel => exact ⟨k2, e1, V, ps, _, rfl, rfl, rfl, rfl, hae1, hek1, hq2.out, (by have := hpk.out; have := hk2.out; show ps.length + k2 ≤ M - a; omega), hO2, hb3⟩
        · have hq2 := Lib.hid (show stepsF ws a = (ps ++ [(Z, e)]) ++ stepN ws a k2 e1 by rw [hq1.out, if_neg hZ, he1.out]; simp)
          have hZe : Z.isEmpty = false := by cases Z with | nil => exact absurd rfl hZ | cons a b => rfl
          clear hZ
          go_wp2_with fail
          refine hwr.out.mono ?_
          rintro e9 x2 ⟨rfl, hx2⟩
          have hO2 := own_below hO hx2
          have hb3 := hbel.trans (hx2.mono hbs)
          have hAl := (Below.refl x2.heap.size x2).alloc (Nat.le_refl _) (.cells #[.string ⟨Z.toArray⟩, .int .i64 (e : Int)] 81)
          have hOl := own_below hO2 hAl
          have hSL := src_step (x := Z) (e := e) (Blk.new x2 81 #[.string ⟨Z.toArray⟩, .int .i64 (e : Int)])
          have hbl := hb3.trans (hAl.mono hb3.size)
          have hps37 : ps.length ≤ 37 := by have := hpk.out; have := hM37.out; omega
          go_wp2_with (at_builtin; refine wpList_append_any rfl (.tmp 40) (.tmp 44) 78 rfl w2.heap.size 81 i0 _ 2 24 Tryz.underlying78 hi hz0 hz1 hz2 rfl (by decide) V ps.length (spv ps) rfl hOl _ 1 1 (spv [(Z, e)]) rfl hSL (by unfold maxLen; omega) (by omega) hbl.size ?_; intro V6 x6 hOx hGx hZx; clear hZx)
          have hb6 : Below w2.heap.size w2 x6 := bel_grown2 hbl hGx (fun k9 e9 => (hOl.lt k9 e9).1)
          have hO6 : x6.ownsRow w2.heap.size 81 2 V6 (ps ++ [(Z, e)]).length (spv (ps ++ [(Z, e)])) := by rw [List.length_append, spv_app]; exact hOx
          have hpl : (ps ++ [(Z, e)]).length + k2 ≤ M - a := by have := hpk.out; have := hk2.out; rw [List.length_append]; simp only [List.length_cons, List.length_nil]; omega
          generalize ps ++ [(Z, e)] = ps2 at *
          go_roundg k2
          case measure => have := hgk.out; have := hk2.out; omega
          case rel => exact ⟨k2, e1, _, ps2, _, rfl, rfl, rfl, rfl, hae1, hek1, hq2.out, hpl, hO6, hb6⟩
end Go.Proofs.YtpdfjlbfhnapkaaGreatDoor
