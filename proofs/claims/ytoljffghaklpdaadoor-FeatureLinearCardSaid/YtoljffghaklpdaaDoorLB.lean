/- Transforms are linear: the law's walk. -/
import Derived.Test.YtoljffghaklpdaaDoorLA
import Derived.BigRegion
import Derived.Deep.DeepCutAuto
namespace Go.Proofs.YtoljffghaklpdaaDoor
open Go.RowKit

theorem Fill.far {w wr : World} {g : Nat} {t : TypeId} {n k : Nat} {f : Nat → Int} (h : Fill w wr g t n k f) {p : Addr} (hp : g ≠ p.block) (hg : w.heap.size ≤ p.block) (v : Value) : Fill w (wr.setCell p v) g t n k f :=
  ⟨h.own.far hp v, h.bel.setCell hg v, h.new⟩

set_option maxHeartbeats 6400000 in
set_option maxRecDepth 100000 in
theorem linear_law (A : Option Addr) (n c : Nat) (xs : List Int) (A' : Option Addr) (m c' : Nat) (ys : List Int) (p : Int) (w : World) (h : Sl .i64 w A n c xs) (h' : Sl .i64 w A' m c' ys) (hT : Tab w) :
    Calls Tryd.prog 6 #[.slice A n c, .slice A' m c', .int .i64 p] w (YesF w) := by
  have hl := Lib.hid h.len
  have hl' := Lib.hid h'.len
  have hcap := h.cap
  have htop := h.top
  have hcap' := h'.cap
  have htop' := h'.top
  have hS := spans_any A n c xs w h
  have hAx := All_any A n c xs (-30000) 30000 w h
  have hAy := All_any A' m c' ys (-30000) 30000 w h'
  cases hk : trOk xs with
  | false =>
    rw [hk] at hS
    have hS := Lib.hid hS
    clear hk hAx hAy
    go_enter Tryd.func6, Tryd.ntmps6
    go_wp2_with fail
    refine hS.out.mono ?_
    rintro e w1 ⟨rfl, hw1⟩
    rw [hw1]
    clear hw1
    go_wp2_with fail
    refine (known_any _ hT).mono ?_
    rintro e w99 ⟨rfl, hb99⟩
    go_wp2
    go_ret
    exact ⟨rfl, hb99⟩
  | true =>
    rw [hk] at hS
    have hS := Lib.hid hS
    have hlen : lenB n = true ∧ allB (-65536) 65536 xs = true := by
      unfold trOk at hk
      rw [hl.out] at hk
      simpa using hk
    have hle := lenB_le hlen.1
    have hn1 := hle.1
    have hn2 := hle.2.1
    have hkk := Lib.hid hk
    have hlB := Lib.hid hlen.1
    clear hk hlen hle
    by_cases hnm : n = m
    · subst hnm
      cases hbx : allB (-30000) 30000 xs with
      | false =>
        rw [hbx] at hAx
        have hAx := Lib.hid hAx
        clear hbx hAy
        go_enter Tryd.func6, Tryd.ntmps6
        go_wp2_with fail
        refine hS.out.mono ?_
        rintro e w1 ⟨rfl, hw1⟩
        rw [hw1]
        clear hw1
        go_wp2_with fail
        refine hAx.out.mono ?_
        rintro e w1 ⟨rfl, rfl⟩
        go_wp2_with fail
        refine (known_any _ hT).mono ?_
        rintro e w99 ⟨rfl, hb99⟩
        go_wp2
        go_ret
        exact ⟨rfl, hb99⟩
      | true =>
        rw [hbx] at hAx
        have hAx := Lib.hid hAx
        have hbx := Lib.hid hbx
        cases hby : allB (-30000) 30000 ys with
        | false =>
          rw [hby] at hAy
          have hAy := Lib.hid hAy
          clear hby
          go_enter Tryd.func6, Tryd.ntmps6
          go_wp2_with fail
          refine hS.out.mono ?_
          rintro e w1 ⟨rfl, hw1⟩
          rw [hw1]
          clear hw1
          go_wp2_with fail
          refine hAx.out.mono ?_
          rintro e w1 ⟨rfl, rfl⟩
          go_wp2_with fail
          refine hAy.out.mono ?_
          rintro e w1 ⟨rfl, rfl⟩
          go_wp2_with fail
          refine (known_any _ hT).mono ?_
          rintro e w99 ⟨rfl, hb99⟩
          go_wp2
          go_ret
          exact ⟨rfl, hb99⟩
        | true =>
          rw [hby] at hAy
          have hAy := Lib.hid hAy
          have hby := Lib.hid hby
          rcases Int.lt_or_le p (-2) with hp1 | hp1
          · go_enter Tryd.func6, Tryd.ntmps6
            go_wp2_with fail
            refine hS.out.mono ?_
            rintro e w1 ⟨rfl, hw1⟩
            rw [hw1]
            clear hw1
            go_wp2_with fail
            refine hAx.out.mono ?_
            rintro e w1 ⟨rfl, rfl⟩
            go_wp2_with fail
            refine hAy.out.mono ?_
            rintro e w1 ⟨rfl, rfl⟩
            go_wp2_with fail
            refine (known_any _ hT).mono ?_
            rintro e w99 ⟨rfl, hb99⟩
            go_wp2
            go_ret
            exact ⟨rfl, hb99⟩
          rcases Int.lt_or_le 2 p with hp2 | hp2
          · go_enter Tryd.func6, Tryd.ntmps6
            go_wp2_with fail
            refine hS.out.mono ?_
            rintro e w1 ⟨rfl, hw1⟩
            rw [hw1]
            clear hw1
            go_wp2_with fail
            refine hAx.out.mono ?_
            rintro e w1 ⟨rfl, rfl⟩
            go_wp2_with fail
            refine hAy.out.mono ?_
            rintro e w1 ⟨rfl, rfl⟩
            go_wp2_with fail
            refine (known_any _ hT).mono ?_
            rintro e w99 ⟨rfl, hb99⟩
            go_wp2
            go_ret
            exact ⟨rfl, hb99⟩
          have q1 : ¬ p < -2 := by omega
          have q2 : ¬ 2 < p := by omega
          have q3 : decide (p < -2) = false := decide_eq_false q1
          have q4 : decide (2 < p) = false := decide_eq_false q2
          have hmk := make_int n (by omega)
          go_enter Tryd.func6, Tryd.ntmps6
          go_wp2_with fail
          refine hS.out.mono ?_
          rintro e w1 ⟨rfl, hw1⟩
          rw [hw1]
          clear hw1
          go_wp2_with fail
          refine hAx.out.mono ?_
          rintro e w1 ⟨rfl, rfl⟩
          go_wp2_with fail
          refine hAy.out.mono ?_
          rintro e w1 ⟨rfl, rfl⟩
          go_upto_region 3 with fail
          clear q1 q2 q3 q4
          go_cut [7, 8] (fun v1 v2 wx => ∃ g1 g2, v1 = .slice (some ⟨g1, 0, none⟩) n n ∧ v2 = .slice (some ⟨g2, 0, none⟩) n n ∧ g1 ≠ g2 ∧ Mk wx g1 3 .i64 (zs n) ∧ Mk wx g2 3 .i64 (zs n) ∧ Below w.heap.size w wx ∧ w.heap.size ≤ g1 ∧ w.heap.size ≤ g2)
          case first =>
            have z1 := Mk.new w 3 .i64 (zs n)
            have z2 := Mk.new (w.alloc (.cells (ivs .i64 (zs n)).toArray 3)) 3 .i64 (zs n)
            have z3 := Mk.alloc z1 (.cells (ivs .i64 (zs n)).toArray 3)
            rw [show (w.alloc (.cells (ivs .i64 (zs n)).toArray 3)).heap.size = w.heap.size + 1 by simp] at z2
            have z4 := ((Below.refl w.heap.size w).alloc (Nat.le_refl _) (.cells (ivs .i64 (zs n)).toArray 3)).alloc (by simp) (.cells (ivs .i64 (zs n)).toArray 3)
            have z5 : Below w.heap.size w ((w.alloc (.cells (ivs .i64 (zs n)).toArray 3)).alloc (.cells (ivs .i64 (zs n)).toArray 3)).drew := bel_drewN z4 1
            go_region
            all_goals (go_wp2_with fail; go_meet)
            · exact ⟨_, _, rfl, rfl, by omega, z3.drew, z2.drew, z5, Nat.le_refl _, by omega⟩
            · exact ⟨_, _, rfl, rfl, by omega, z2.drew, z3.drew, z5, by omega, Nat.le_refl _⟩
          case rest =>
            obtain ⟨g1, g2, rfl, rfl, hg12, hM1, hM2, hbc, hg1, hg2⟩ := hcut
            have hM1n := hM1.alloc (.cells (ivs .i64 (zs n)).toArray 3)
            have hM2n := hM2.alloc (.cells (ivs .i64 (zs n)).toArray 3)
            have hM3n := Mk.new wc 3 .i64 (zs n)
            have hbn := hbc.alloc hbc.size (.cells (ivs .i64 (zs n)).toArray 3)
            have hg13 : g1 ≠ wc.heap.size := Nat.ne_of_lt hM1.lt
            have hg23 : g2 ≠ wc.heap.size := Nat.ne_of_lt hM2.lt
            have hg3 := hbc.size
            go_wp2
            clear hmk hM1 hM2 hbc
            generalize wc.alloc (.cells (ivs .i64 (zs n)).toArray 3) = wd at *
            generalize wc.heap.size = g3 at *
            obtain ⟨ad, x0, rfl, _, _⟩ := h.at_ (show 0 < n by omega)
            obtain ⟨ad', y0, rfl, _, _⟩ := h'.at_ (show 0 < n by omega)
            have hF1 : Fill w wd g1 3 n 0 (fun i => xs.getD i 0 + ys.getD i 0) := ⟨by rw [tab_zero, List.nil_append]; exact hM1n, hbn, hg1⟩
            have hF2 : Fill w wd g2 3 n 0 (fun i => xs.getD (n - 1 - i) 0) := ⟨by rw [tab_zero, List.nil_append]; exact hM2n, hbn, hg2⟩
            have hF3 : Fill w wd g3 3 n 0 (fun i => p * xs.getD i 0) := ⟨by rw [tab_zero, List.nil_append]; exact hM3n, hbn, hg3⟩
            clear hM1n hM2n hM3n
            go_loopw [10] (fun iv wr' => ∃ (i : Nat) (wr : World), wr = wr' ∧ iv = .int .i64 i ∧ i ≤ n ∧ Fill w wr g1 3 n i (fun i => xs.getD i 0 + ys.getD i 0) ∧ Fill w wr g2 3 n i (fun i => xs.getD (n - 1 - i) 0) ∧ Fill w wr g3 3 n i (fun i => p * xs.getD i 0)) (fun iv _ => n - (intOf iv).toNat)
            case atStart => exact ⟨0, _, rfl, rfl, Nat.zero_le _, hF1, hF2, hF3⟩
            case round =>
              obtain ⟨i, wr, rfl, rfl, hin, k1, k2, k3⟩ := hrel
              clear hF1 hF2 hF3 hbn
              rcases Nat.lt_or_ge i n with hlt | hge
              · obtain ⟨n1, hn1e⟩ : ∃ n1, n - 1 = n1 := ⟨_, rfl⟩
                obtain ⟨r, hr⟩ : ∃ r, n1 - i = r := ⟨_, rfl⟩
                have hrn : r < n := by omega
                obtain ⟨x, hx⟩ : ∃ x, xs.getD i 0 = x := ⟨_, rfl⟩
                obtain ⟨y, hy⟩ : ∃ y, ys.getD i 0 = y := ⟨_, rfl⟩
                obtain ⟨z, hz⟩ : ∃ z, xs.getD r 0 = z := ⟨_, rfl⟩
                have hcx := (h.below k1.bel).cellAt hlt hx
                have hcy := (h'.below k1.bel).cellAt hlt hy
                have hcz := (h.below k1.bel).cellAt hrn hz
                have bx := allB_get hbx.out (by rw [hl.out]; exact hlt) hx
                have b_y := allB_get hby.out (by rw [hl'.out]; exact hlt) hy
                obtain ⟨B, hB⟩ : ∃ B, p * x = B := ⟨_, rfl⟩
                have hBb : -60000 ≤ B ∧ B ≤ 60000 := by
                  have := prod_bd (a := p) (b := x) (m := 2) (q := 30000) hp1 hp2 bx.1 bx.2
                  omega
                have v1 := Lib.hid (show x + y = xs.getD i 0 + ys.getD i 0 by rw [hx, hy])
                have v2 := Lib.hid (show z = xs.getD (n - 1 - i) 0 by rw [hn1e, hr, hz])
                have v3 := Lib.hid (show B = p * xs.getD i 0 by rw [hx, hB])
                have w1e : IntKind.i64.wrap (x + y) = x + y := IntWalk.i64_in _ (by omega)
                have w2e : IntKind.i64.wrap B = B := IntWalk.i64_in _ (by omega)
                have w3e : IntKind.i64.wrap ((n : Int) - 1) = (n1 : Int) := by rw [IntWalk.i64_in _ (by omega)]; omega
                have w4e : IntKind.i64.wrap ((n1 : Int) - (i : Int)) = (r : Int) := by rw [IntWalk.i64_in _ (by omega)]; omega
                have i0 : (0 : Int) ≤ (i : Int) := by omega
                have i1 : (i : Int) < (n : Int) := by omega
                have i2 : (0 : Int) ≤ (r : Int) := by omega
                have i3 : (r : Int) < (n : Int) := by omega
                have hx := Lib.hid hx
                have hy := Lib.hid hy
                have hz := Lib.hid hz
                have hn1e := Lib.hid hn1e
                have hr := Lib.hid hr
                clear bx b_y hBb
                have hKeep := Lib.hid (fun (wx : World) (hb : Below w.heap.size w wx) => show wx.cell? (ad.add i) = some (.int .i64 x) ∧ wx.cell? (ad'.add i) = some (.int .i64 y) ∧ wx.cell? (ad.add r) = some (.int .i64 z) from ⟨(h.below hb).cellAt hlt hx.out, (h'.below hb).cellAt hlt hy.out, (h.below hb).cellAt hrn hz.out⟩)
                have hg21 : g2 ≠ g1 := fun q => hg12 q.symm
                have hg31 : g3 ≠ g1 := fun q => hg13 q.symm
                have hg32 : g3 ≠ g2 := fun q => hg23 q.symm
                obtain ⟨u1, c1⟩ := k1.cell hlt
                have c1 : wr.drew.cell? ⟨g1, i, none⟩ = some (.int .i64 u1) := c1
                have f1 : wr.drew.frozen? ⟨g1, i, none⟩ = false := k1.frozen i
                have k1n := k1.next hlt v1.out
                have k2a := k2.far (p := ⟨g1, i, none⟩) hg21 hg1 (.int .i64 (x + y))
                have k3a := k3.far (p := ⟨g1, i, none⟩) hg31 hg1 (.int .i64 (x + y))
                obtain ⟨u3, c3⟩ := k3a.cell hlt
                have c3 : (wr.setCell ⟨g1, i, none⟩ (.int .i64 (x + y))).drew.cell? ⟨g3, i, none⟩ = some (.int .i64 u3) := c3
                have f3 : (wr.setCell ⟨g1, i, none⟩ (.int .i64 (x + y))).drew.frozen? ⟨g3, i, none⟩ = false := k3a.frozen i
                have k3n := k3a.next hlt v3.out
                have k1b := k1n.far (p := ⟨g3, i, none⟩) hg13 hg3 (.int .i64 B)
                have k2b := k2a.far (p := ⟨g3, i, none⟩) hg23 hg3 (.int .i64 B)
                obtain ⟨u2, c2⟩ := k2b.cell hlt
                have c2 : ((wr.setCell ⟨g1, i, none⟩ (.int .i64 (x + y))).setCell ⟨g3, i, none⟩ (.int .i64 B)).drew.cell? ⟨g2, i, none⟩ = some (.int .i64 u2) := c2
                have f2 : ((wr.setCell ⟨g1, i, none⟩ (.int .i64 (x + y))).setCell ⟨g3, i, none⟩ (.int .i64 B)).drew.frozen? ⟨g2, i, none⟩ = false := k2b.frozen i
                have k2n := k2b.next hlt v2.out
                have k1c := k1b.far (p := ⟨g2, i, none⟩) hg12 hg2 (.int .i64 z)
                have k3c := k3n.far (p := ⟨g2, i, none⟩) hg32 hg2 (.int .i64 z)
                have b0 := k1.bel
                have b1 : Below w.heap.size w wr.drew := bel_drewN b0 1
                have b2 : Below w.heap.size w (wr.setCell ⟨g1, i, none⟩ (.int .i64 (x + y))).drew := bel_drewN k1n.bel 1
                have b3 : Below w.heap.size w ((wr.setCell ⟨g1, i, none⟩ (.int .i64 (x + y))).setCell ⟨g3, i, none⟩ (.int .i64 B)).drew := bel_drewN k1b.bel 1
                have b4 : Below w.heap.size w (((wr.setCell ⟨g1, i, none⟩ (.int .i64 (x + y))).setCell ⟨g3, i, none⟩ (.int .i64 B)).setCell ⟨g2, i, none⟩ (.int .i64 z)).drew := bel_drewN k1c.bel 1
                have k1c := Lib.hid (show Fill w (((wr.setCell ⟨g1, i, none⟩ (.int .i64 (x + y))).setCell ⟨g3, i, none⟩ (.int .i64 B)).setCell ⟨g2, i, none⟩ (.int .i64 z)).drew g1 3 n (i + 1) (fun i => xs.getD i 0 + ys.getD i 0) from ⟨k1c.own, bel_drewN k1c.bel 1, k1c.new⟩)
                have k2n := Lib.hid (show Fill w (((wr.setCell ⟨g1, i, none⟩ (.int .i64 (x + y))).setCell ⟨g3, i, none⟩ (.int .i64 B)).setCell ⟨g2, i, none⟩ (.int .i64 z)).drew g2 3 n (i + 1) (fun i => xs.getD (n - 1 - i) 0) from ⟨k2n.own, bel_drewN k2n.bel 1, k2n.new⟩)
                have k3c := Lib.hid (show Fill w (((wr.setCell ⟨g1, i, none⟩ (.int .i64 (x + y))).setCell ⟨g3, i, none⟩ (.int .i64 B)).setCell ⟨g2, i, none⟩ (.int .i64 z)).drew g3 3 n (i + 1) (fun i => p * xs.getD i 0) from ⟨k3c.own, bel_drewN k3c.bel 1, k3c.new⟩)
                clear k1 k2 k3 k1n k2a k3a k3n k1b k2b
                go_wp2
                go_region_held3 (fun wx => wx.cell? (ad.add i) = some (.int .i64 x) ∧ wx.cell? (ad'.add i) = some (.int .i64 y) ∧ wx.cell? (ad.add r) = some (.int .i64 z)) (first | exact hKeep.out _ b0 | exact hKeep.out _ b1 | exact hKeep.out _ b2 | exact hKeep.out _ b3 | exact hKeep.out _ b4 | go_keep) (first | fail)
                go_wp2
                go_roundw
                case rel => exact ⟨i + 1, _, rfl, by go_num, hlt, k1c.out, k2n.out, k3c.out⟩
                case measure => simp [intOf]; omega
              · have hin' : n = i := by omega
                subst hin'
                have hx2 := h.below k1.bel
                have hy2 := h'.below k1.bel
                have s1 := k1.done (by omega)
                have s2 := k2.done (by omega)
                have s3 := k3.done (by omega)
                have hTr := hT.below k1.bel
                have hbr := k1.bel
                clear k1 k2 k3
                obtain ⟨zS, hzS⟩ : ∃ zS, tab n (fun i => xs.getD i 0 + ys.getD i 0) = zS := ⟨_, rfl⟩
                obtain ⟨zU, hzU⟩ : ∃ zU, tab n (fun i => xs.getD (n - 1 - i) 0) = zU := ⟨_, rfl⟩
                obtain ⟨zT, hzT⟩ : ∃ zT, tab n (fun i => p * xs.getD i 0) = zT := ⟨_, rfl⟩
                have bx := fun i (hi : i < n) => allB_get hbx.out (by rw [hl.out]; exact hi) (rfl : xs.getD i 0 = xs.getD i 0)
                have b_y := fun i (hi : i < n) => allB_get hby.out (by rw [hl'.out]; exact hi) (rfl : ys.getD i 0 = ys.getD i 0)
                have lS : zS.length = n := by rw [← hzS]; exact tab_len _ _
                have lU : zU.length = n := by rw [← hzU]; exact tab_len _ _
                have lT : zT.length = n := by rw [← hzT]; exact tab_len _ _
                have gS : ∀ i, i < n → zS.getD i 0 = xs.getD i 0 + ys.getD i 0 := fun i hi => by rw [← hzS, tab_getD hi]
                have gU : ∀ i, i < n → zU.getD i 0 = xs.getD (n - 1 - i) 0 := fun i hi => by rw [← hzU, tab_getD hi]
                have gT : ∀ i, i < n → zT.getD i 0 = p * xs.getD i 0 := fun i hi => by rw [← hzT, tab_getD hi]
                have oY := Lib.hid (trOk_of hl'.out hlB.out (fun i hi => by have := b_y i hi; omega))
                have oS := Lib.hid (trOk_of lS hlB.out (fun i hi => by have := b_y i hi; have := bx i hi; rw [gS i hi]; omega))
                have oU := Lib.hid (trOk_of lU hlB.out (fun i hi => by have := bx (n - 1 - i) (by omega); rw [gU i hi]; omega))
                have oT := Lib.hid (trOk_of lT hlB.out (fun i hi => by
                  have e1 := bx i hi
                  have := prod_bd (a := p) (b := xs.getD i 0) (m := 2) (q := 30000) hp1 hp2 e1.1 e1.2
                  rw [gT i hi]; omega))
                rw [hzS] at s1
                rw [hzU] at s2
                rw [hzT] at s3
                have eS := Lib.hid (fun k => tr_add (k := k) gS)
                have eU := Lib.hid (fun k => tr_turn (k := k) hlB.out gU)
                have eT := Lib.hid (fun k => tr_mul (k := k) gT)
                have bP := Lib.hid (fun k => trA_bd2 hkk.out hl.out k)
                have bQ := Lib.hid (fun k => trA_bd2 oY.out hl'.out k)
                have lS := Lib.hid lS
                have lU := Lib.hid lU
                have lT := Lib.hid lT
                have aX := Lib.hid (fun k (hk : k < n) => show (trL xs).length = n ∧ (trL xs).getD k 0 = trA xs n k by unfold trL; rw [hl.out, tab_len, tab_getD hk]; exact ⟨rfl, rfl⟩)
                have aY := Lib.hid (fun k (hk : k < n) => show (trL ys).length = n ∧ (trL ys).getD k 0 = trA ys n k by unfold trL; rw [hl'.out, tab_len, tab_getD hk]; exact ⟨rfl, rfl⟩)
                have aS := Lib.hid (fun k (hk : k < n) => show (trL zS).length = n ∧ (trL zS).getD k 0 = trA xs n k + trA ys n k by unfold trL; rw [lS.out, tab_len, tab_getD hk, eS.out]; exact ⟨rfl, rfl⟩)
                have aU := Lib.hid (fun k (hk : k < n) => show (trL zU).length = n ∧ (trL zU).getD k 0 = (if k % 2 = 0 then trA xs n k else -trA xs n k) by unfold trL; rw [lU.out, tab_len, tab_getD hk, eU.out]; exact ⟨rfl, rfl⟩)
                have aT := Lib.hid (fun k (hk : k < n) => show (trL zT).length = n ∧ (trL zT).getD k 0 = p * trA xs n k by unfold trL; rw [lT.out, tab_len, tab_getD hk, eT.out]; exact ⟨rfl, rfl⟩)
                clear gS gU gT hzS hzU hzT bx b_y
                go_wp2_with fail
                refine (Transform_any _ n c xs wr hx2 hTr).mono ?_
                intro e wa hh
                obtain ⟨ga, rfl, hMa, hba, _⟩ := (hh.resolve_right (fun q => by have := q.1; rw [hkk.out] at this; cases this)).2
                clear hh
                go_wp2_with fail
                refine (Transform_any _ n c' ys wa (hy2.below hba) (hTr.below hba)).mono ?_
                intro e wb hh
                obtain ⟨gb, rfl, hMb, hbab, _⟩ := (hh.resolve_right (fun q => by have := q.1; rw [oY.out] at this; cases this)).2
                clear hh
                have hbb := hba.trans (hbab.mono hba.size)
                go_wp2_with fail
                refine (Transform_any _ n n zS wb (s1.below hbb) (hTr.below hbb)).mono ?_
                intro e wc2 hh
                obtain ⟨gc, rfl, hMc, hbbc, _⟩ := (hh.resolve_right (fun q => by have := q.1; rw [oS.out] at this; cases this)).2
                clear hh
                have hbc := hbb.trans (hbbc.mono hbb.size)
                go_wp2_with fail
                refine (Transform_any _ n n zT wc2 (s3.below hbc) (hTr.below hbc)).mono ?_
                intro e wd2 hh
                obtain ⟨gd, rfl, hMd, hbcd, _⟩ := (hh.resolve_right (fun q => by have := q.1; rw [oT.out] at this; cases this)).2
                clear hh
                have hbd := hbc.trans (hbcd.mono hbc.size)
                go_wp2_with fail
                refine (Transform_any _ n n zU wd2 (s2.below hbd) (hTr.below hbd)).mono ?_
                intro e we hh
                obtain ⟨gt, rfl, hMt, hbde, _⟩ := (hh.resolve_right (fun q => by have := q.1; rw [oU.out] at this; cases this)).2
                clear hh
                have hbe := hbd.trans (hbde.mono hbd.size)
                have mA := (((hMa.below hbab).below hbbc).below hbcd).below hbde
                have mB := ((hMb.below hbbc).below hbcd).below hbde
                have mC := (hMc.below hbcd).below hbde
                have mD := hMd.below hbde
                clear hMa hMb hMc hMd hba hbab hbb hbbc hbc hbcd hbd hbde s1 s2 s3 hx2 hy2
                have hbw := hbr.trans (hbe.mono hbr.size)
                go_wp2
                go_loopw [21] (fun iv wx' => ∃ (k : Nat) (wx : World), wx = wx' ∧ iv = .int .i64 k ∧ k ≤ n ∧ Below we.heap.size we wx) (fun iv _ => n - (intOf iv).toNat)
                case atStart => exact ⟨0, _, rfl, rfl, Nat.zero_le _, Below.refl _ _⟩
                case round =>
                  obtain ⟨k, wx, rfl, rfl, hkn, hbx2⟩ := hrel
                  rcases Nat.lt_or_ge k n with hlt | hge
                  · have cA := (mA.below hbx2).cell (i := k) (by rw [(aX.out k hlt).1]; exact hlt)
                    have cB := (mB.below hbx2).cell (i := k) (by rw [(aY.out k hlt).1]; exact hlt)
                    have cC := (mC.below hbx2).cell (i := k) (by rw [(aS.out k hlt).1]; exact hlt)
                    have cD := (mD.below hbx2).cell (i := k) (by rw [(aT.out k hlt).1]; exact hlt)
                    have cT := (hMt.below hbx2).cell (i := k) (by rw [(aU.out k hlt).1]; exact hlt)
                    rw [(aX.out k hlt).2] at cA
                    rw [(aY.out k hlt).2] at cB
                    rw [(aS.out k hlt).2] at cC
                    rw [(aT.out k hlt).2] at cD
                    rw [(aU.out k hlt).2] at cT
                    have p1 := bP.out k
                    have p2 := bQ.out k
                    generalize trA xs n k = P at *
                    generalize trA ys n k = Q at *
                    obtain ⟨B, hB⟩ : ∃ B, p * P = B := ⟨_, rfl⟩
                    rw [hB] at cD
                    have hBb : -137438953472 ≤ B ∧ B ≤ 137438953472 := by
                      have := prod_bd (a := p) (b := P) (m := 2) (q := 68719476736) hp1 hp2 p1.1 p1.2
                      omega
                    have w1e : IntKind.i64.wrap (P + Q) = P + Q := IntWalk.i64_in _ (by omega)
                    have w2e : IntKind.i64.wrap B = B := IntWalk.i64_in _ (by omega)
                    have w3e : IntKind.i64.wrap (-P) = -P := IntWalk.i64_in _ (by omega)
                    have i0 : (0 : Int) ≤ (k : Int) := by omega
                    have i1 : (k : Int) < (n : Int) := by omega
                    clear p1 p2 hBb
                    by_cases h2 : k % 2 = 0
                    · rw [if_pos h2] at cT
                      have e1 : (k : Int) % 2 = 0 := by omega
                      have e2 : Int.tmod (k : Int) 2 = 0 := by rw [Int.tmod_eq_emod_of_nonneg (by omega)]; exact e1
                      go_wp2
                      go_quiet (fail)
                      have hbz := bel_drewN hbx2 nq
                      generalize wx.drewN nq = wz at *
                      go_wp2
                      go_roundw
                      case rel => exact ⟨k + 1, _, rfl, by go_num, hlt, hbz⟩
                      case measure => simp [intOf]; omega
                    · rw [if_neg h2] at cT
                      have h3 : k % 2 = 1 := by omega
                      have e1 : (k : Int) % 2 = 1 := by omega
                      have e2 : Int.tmod (k : Int) 2 = 1 := by rw [Int.tmod_eq_emod_of_nonneg (by omega)]; exact e1
                      go_wp2
                      go_quiet (fail)
                      have hbz := bel_drewN hbx2 nq
                      generalize wx.drewN nq = wz at *
                      go_wp2
                      go_roundw
                      case rel => exact ⟨k + 1, _, rfl, by go_num, hlt, hbz⟩
                      case measure => simp [intOf]; omega
                  · have hkn' : n = k := by omega
                    subst hkn'
                    have hbz := hbw.trans (hbx2.mono hbw.size)
                    have hTz := hT.below hbz
                    go_wp2_with fail
                    refine (known_any _ hTz).mono ?_
                    rintro e w99 ⟨rfl, hb99⟩
                    go_wp2
                    go_ret
                    exact ⟨rfl, hbz.trans (hb99.mono hbz.size)⟩
    · have hne : ((n : Int) != (m : Int)) = true := by simp; omega
      clear hAx hAy
      go_enter Tryd.func6, Tryd.ntmps6
      go_wp2_with fail
      refine hS.out.mono ?_
      rintro e w1 ⟨rfl, hw1⟩
      rw [hw1]
      clear hw1
      go_wp2_with fail
      refine (known_any _ hT).mono ?_
      rintro e w99 ⟨rfl, hb99⟩
      go_wp2
      go_ret
      exact ⟨rfl, hb99⟩
end Go.Proofs.YtoljffghaklpdaaDoor
