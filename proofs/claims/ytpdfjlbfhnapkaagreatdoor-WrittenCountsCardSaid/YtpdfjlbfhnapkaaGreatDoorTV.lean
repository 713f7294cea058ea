/- The program's Readings. -/
import Derived.Test.YtpdfjlbfhnapkaaGreatDoorTT
namespace Go.Proofs.YtpdfjlbfhnapkaaGreatDoor
open Go.RowKit
set_option linter.unusedSimpArgs false
set_option linter.unusedVariables false
set_option maxRecDepth 100000

theorem nil_len (n : Nat) : madeCells #[Value.slice none 0 0] n = (Array.replicate n (Value.slice none 0 0)) := by
  apply Array.ext
  · simp [size_madeCells]
  · intro i h1 h2
    simp [madeCells, Nat.mod_one]
theorem info_steps : (Tryz.prog.info? 78).map (fun i => (i.zero, i.size, i.bytes)) = some (some (.slice none 0 0), 1, 24) := by kernel_rfl
theorem info_int : (Tryz.prog.info? 3).map (fun i => (i.zero, i.size, i.bytes)) = some (some (.int .i64 0), 1, 8) := by kernel_rfl
theorem make_steps (n : Nat) (hn : n ≤ 5000000000) (w : World) :
    (Instr.makeSlice 77 (.int .i64 (n : Int)) (.int .i64 (n : Int))).run Tryz.prog w = .ok (.slice (some ⟨w.heap.size, 0, none⟩) n n) (w.alloc (.cells (Array.replicate n (Value.slice none 0 0)) 78)) := by
  obtain ⟨i0, hi, hz0, hz1, hz2⟩ := info_parts info_steps
  have := run_make (P := Tryz.prog) w 77 78 i0 (.slice none 0 0) Tryz.underlying77 hi hz0 .i64 .i64 n n (by omega) (by omega) (by rw [hz2]; omega) (by omega)
  rw [this, hz1]
  have e : Value.cells (Value.slice none 0 0) = #[Value.slice none 0 0] := rfl
  rw [e, nil_len]
  simp
theorem make_int (n : Nat) (hn : n ≤ 5000000000) (w : World) :
    (Instr.makeSlice 56 (.int .i64 (n : Int)) (.int .i64 (n : Int))).run Tryz.prog w = .ok (.slice (some ⟨w.heap.size, 0, none⟩) n n) (w.alloc (.cells (ivs .i64 (zs n)).toArray 3)) := by
  obtain ⟨i0, hi, hz0, hz1, hz2⟩ := info_parts info_int
  have := run_make (P := Tryz.prog) w 56 3 i0 (.int .i64 0) Tryz.underlying56 hi hz0 .i64 .i64 n n (by omega) (by omega) (by rw [hz2]; omega) (by omega)
  rw [this, hz1]
  have e : Value.cells (Value.int .i64 0) = #[Value.int .i64 0] := rfl
  rw [e, made_zs]
  simp
section
variable {ws : List Str} {w2 wr : World} {g j : Nat} {f f' : Nat → Int}
theorem St.congr (h : St ws w2 g j f wr) (hf : ∀ i, i ≤ ws.length → f i = f' i) : St ws w2 g j f' wr := by
  obtain ⟨hr, ⟨ys, hM, hl, hy⟩, hb, hz⟩ := h
  exact ⟨hr, ⟨ys, hM, hl, fun i hi => by rw [← hf i hi]; exact hy i hi⟩, hb, hz⟩
theorem St.start (w2 : World) (hg : w2.heap.size = g) (n n1 : Nat) (hn : ws.length = n) (hn1 : n + 1 = n1) : St ws w2 g n (fun i => if i = n then 1 else 0) ((w2.alloc (.cells (Array.replicate n (Value.slice none 0 0)) 78)).alloc (.cells ((ivs .i64 (zs n1)).set n (.int .i64 1)).toArray 3)) := by
  have e1 : (w2.alloc (.cells (Array.replicate n (Value.slice none 0 0)) 78)).heap.size = g + 1 := by rw [World.size_alloc, hg]
  have B0 := (Blk.new w2 78 (Array.replicate n (Value.slice none 0 0))).alloc (.cells ((ivs .i64 (zs n1)).set n (.int .i64 1)).toArray 3)
  have B1 := Blk.new (w2.alloc (.cells (Array.replicate n (Value.slice none 0 0)) 78)) 3 ((ivs .i64 (zs n1)).set n (.int .i64 1)).toArray
  rw [hg] at B0
  rw [e1] at B1
  have e2 : (ivs .i64 (zs n1)).set n (.int .i64 1) = ivs .i64 ((zs n1).set n 1) := by simp [ivs, List.map_set]
  refine ⟨⟨_, B0, by simp [hn], fun i h1 h2 => by omega⟩, ⟨(zs n1).set n 1, by unfold Mk; rw [← e2]; exact B1, by rw [List.length_set, zs_len, hn, hn1], fun i hi => ?_⟩, ((hg ▸ Below.refl w2.heap.size w2).alloc (by omega) _).alloc (by rw [e1]; omega) _, by rw [World.size_alloc, e1]; omega⟩
  rw [List.getElem?_set]
  unfold zs
  by_cases h : i = n
  · subst h; simp; omega
  · rw [if_neg (fun e => h e.symm), List.getElem?_replicate, if_pos (by omega), if_neg h]
theorem St.any (h : St ws w2 g j f wr) {i : Nat} (hi : i < ws.length) : ∃ v, wr.cell? ⟨g, i, none⟩ = some v := by
  obtain ⟨⟨cs, hB, hc, _⟩, _⟩ := h
  exact ⟨cs[i]'(by omega), (hB.cell i).trans (Array.getElem?_eq_getElem (by omega))⟩
end
/-- the ways of a word, the first ones counted -/
def accF (ws : List Str) (a q : Nat) : Nat := ((stepsF ws a).take q).foldl (fun acc s => min (acc + way ws s.2) 501) 0
theorem accF_le (ws : List Str) (a q : Nat) : accF ws a q ≤ 501 := wayfold_le ws _ _ (by decide)
theorem accF_succ {ws : List Str} {a q : Nat} {s : Str × Nat} (h : (stepsF ws a)[q]? = some s) : accF ws a (q + 1) = min (accF ws a q + way ws s.2) 501 := by
  unfold accF
  rw [List.take_add_one, h, List.foldl_append]
  rfl
theorem accF_all {ws : List Str} {a : Nat} (h : a < ws.length) : accF ws a (stepsF ws a).length = way ws a := by
  unfold accF
  rw [List.take_length, way_at ws h]
/-- what Readings answers -/
def rdgF (s : Str) : List Str × Int := if (wofF s).2 ≠ 0 then ([], (wofF s).2) else if 500 < way (wofF s).1 0 then ([], 5) else (readR (wofF s).1, 0)
def RetRg (r : List Str × Int) (w : World) (e : Ending) (w' : World) : Prop := ∃ V, e = .returned (.tuple #[V, .int .i64 r.2]) ∧ w'.ownsRow w.heap.size 9 1 V r.1.length (svs r.1) ∧ Below w.heap.size w w'
set_option maxHeartbeats 16000000 in
theorem Readings_any (s : Str) (w : World) (hT : WT w) : Calls Tryz.prog 42 #[.string ⟨s.toArray⟩] w (RetRg (rdgF s) w) := by
  have hwo := Lib.hid (wordsOf_any s w hT)
  have hk := Lib.hid (show rdgF s = if (wofF s).2 ≠ 0 then ([], (wofF s).2) else if 500 < way (wofF s).1 0 then ([], 5) else (readR (wofF s).1, 0) from rfl)
  obtain ⟨hsh, hs1, hs2⟩ := wofF_short (s := s)
  unfold RetWO at hwo
  obtain ⟨ws, code, hr⟩ := pair_eta (wofF s)
  rw [hr] at hwo hk hsh hs1 hs2
  simp only at hwo hk hsh hs1 hs2
  clear hr
  by_cases hc : code = 0
  · subst hc
    have hk2 := Lib.hid (show rdgF s = if 500 < way ws 0 then ([], 5) else (readR ws, 0) by rw [hk.out, if_neg (by simp)])
    have hcol := Lib.hid (collect_any ws hs2 hs1)
    obtain ⟨n, hn⟩ : ∃ n, ws.length = n := ⟨_, rfl⟩
    have hnn := Lib.hid hn
    have hn2 : n ≤ 2001 := by omega
    rw [hn] at hwo
    have hws := Lib.hid hs2
    obtain ⟨n1, hn1⟩ : ∃ n1, n + 1 = n1 := ⟨_, rfl⟩
    have wm1 : IntKind.i64.wrap ((n : Int) - 1) = (n : Int) - 1 := IntWalk.i64_in _ (by omega)
    clear hn hk hs2
    go_enter Tryz.func42, Tryz.ntmps42
    go_wp2_with fail
    refine hwo.out.mono ?_
    rintro e w2 ⟨A, c, rfl, hS, hlt, hb⟩
    have m1 := make_steps n (by omega) w2
    have m2 := make_int n1 (by omega) (w2.alloc (.cells (Array.replicate n (Value.slice none 0 0)) 78))
    obtain ⟨g, hg⟩ : ∃ g, w2.heap.size = g := ⟨_, rfl⟩
    have hst := St.start (ws := ws) w2 hg n n1 hnn.out hn1
    have e1 : (w2.alloc (.cells (Array.replicate n (Value.slice none 0 0)) 78)).heap.size = g + 1 := by rw [World.size_alloc, hg]
    rw [e1, show ((n1 : Nat) : Int) = (n : Int) + 1 by omega] at m2
    rw [hg] at m1
    have B1 := Mk.new (w2.alloc (.cells (Array.replicate n (Value.slice none 0 0)) 78)) 3 .i64 (zs n1)
    rw [e1] at B1
    have z0 := B1.cell (i := n) (by rw [zs_len]; omega)
    have z1 := B1.frozen n
    clear B1
    have hn0 : (0 : Int) ≤ (n : Int) := by omega
    have hnl : (n : Int) < (n1 : Int) := by omega
    have hn1h := Lib.hid hn1
    clear e1 hn1
    have hst1 := hst.congr (f' := fun i => if n ≤ i then ((way ws i : Nat) : Int) else 0) (fun i hi => by
      show (if i = n then (1 : Int) else 0) = if n ≤ i then ((way ws i : Nat) : Int) else 0
      by_cases e : i = n
      · subst e
        rw [if_pos rfl, if_pos (Nat.le_refl _), way_end ws (by rw [hnn.out]; exact Nat.le_refl _)]; rfl
      · rw [if_neg e, if_neg (by rw [hnn.out] at hi; omega)])
    go_wp2
    generalize (w2.alloc (.cells (Array.replicate n (Value.slice none 0 0)) 78)).alloc (.cells ((ivs .i64 (zs n1)).set n (.int .i64 1)).toArray 3) = w3 at *
    clear hst m1 m2 z0 z1
    go_loopg [8] n (fun gg av wr' => ∃ (j : Nat) (x : Int) (wr : World), wr = wr' ∧ Hid (gg = j) ∧ av = .int .i64 x ∧ Hid (x = (j : Int) - 1) ∧ j ≤ n ∧ St ws w2 g j (fun i => if j ≤ i then ((way ws i : Nat) : Int) else 0) wr)
    case atStart => exact ⟨n, (n : Int) - 1, _, rfl, rfl, rfl, rfl, Nat.le_refl _, hst1⟩
    case round =>
      obtain ⟨j, x, wr, rfl, hgj, rfl, hx, hjn, hSt⟩ := hrel
      have hbel : Below w2.heap.size w2 wr := hg.symm ▸ hSt.bel
      have hbig := hSt.big
      rcases Nat.eq_zero_or_pos j with hj0 | hj0
      · subst hj0
        obtain rfl : x = -1 := by have := hx.out; omega
        have c0 : wr.cell? ⟨g + 1, 0, none⟩ = some (.int .i64 ((way ws 0 : Nat) : Int)) := hSt.way_ (i := 0) (Nat.zero_le _)
        have hSt0 := hSt.congr (f' := fun i => ((way ws i : Nat) : Int)) (fun i _ => if_pos (Nat.zero_le _))
        have hwr := way_rd ws ws.length 0 (by omega)
        have hnz : (0 : Int) < (n : Int) + 1 := by omega
        have hnz1 : (0 : Int) < (n1 : Int) := by have := hn1h.out; omega
        have hwb := hb.trans (hbel.mono hb.size)
        obtain ⟨y, hy⟩ : ∃ y, way ws 0 = y := ⟨_, rfl⟩
        rw [hy] at c0 hwr hk2
        have hwr := Lib.hid hwr
        clear hy hSt
        by_cases hbigy : 500 < y
        · have q1 : (500 : Int) < (y : Int) := by omega
          have q2 : decide ((500 : Int) < (y : Int)) = true := decide_eq_true q1
          have hk3 := Lib.hid (show rdgF s = ([], 5) by rw [hk2.out, if_pos hbigy])
          clear hbigy
          go_wp2
          go_ret2
          exact ⟨.slice none 0 0, by rw [hk3.out]; rfl, by rw [hk3.out]; exact World.ownsRow_nil _ _ _ _, hwb⟩
        · have q1 : ¬ (500 : Int) < (y : Int) := by omega
          have q2 : decide ((500 : Int) < (y : Int)) = false := decide_eq_false q1
          have hk3 := Lib.hid (show rdgF s = (readR ws, 0) by rw [hk2.out, if_neg hbigy])
          have hcl := Lib.hid (hcol.out w2 g wr (by omega) hSt0 (by have := hwr.out; omega))
          rw [hnn.out, show n + 1 = n1 from hn1h.out] at hcl
          clear hbigy hSt0
          go_wp2_with fail
          refine hcl.out.mono ?_
          rintro e9 x9 ⟨V, rfl, hO9, hb9⟩
          go_wp2
          go_ret2
          exact ⟨V, by rw [hk3.out]; rfl, by rw [hk3.out]; exact own_mono hO9 hwb.size, hwb.trans (hb9.mono hwb.size)⟩
      · obtain ⟨a, ha⟩ : ∃ a, j = a + 1 := ⟨j - 1, by omega⟩
        subst ha
        obtain rfl : x = (a : Int) := by have := hx.out; omega
        have han : a < n := by omega
        have hawl : a < ws.length := by rw [hnn.out]; exact han
        have a0 : (0 : Int) ≤ (a : Int) := by omega
        have a0d : decide ((0 : Int) ≤ (a : Int)) = true := decide_eq_true a0
        have a1 : (a : Int) < (n : Int) := by omega
        have a1n : (a : Int) < (n1 : Int) := by have := hn1h.out; omega
        have hSr := hS.below hbel
        obtain ⟨ad, hA, _⟩ := hSr.cell (by omega : 0 < n)
        subst hA
        have hadl : ad.block < wr.heap.size := Nat.lt_of_lt_of_le (hlt ad rfl) hbel.size
        have hsf := Lib.hid (stepsFrom_any ad n c ws a han wr hSr hadl (hT.below (hb.trans (hbel.mono hb.size))) hsh)
        go_wp2_with fail
        refine hsf.out.mono ?_
        rintro e9 x9 ⟨V, rfl, hO9, hx9⟩
        have hSt9 := hSt.below hx9
        obtain ⟨v0, hv0⟩ := hSt9.any hawl
        have hvz := hSt9.rowz a
        have hO9 := own_mono hO9 hbig
        have hSta := hSt9.setr hawl hO9
        obtain ⟨AV, cV, rfl, hSV⟩ := Src.of_own hO9 (by
          intro u hu
          unfold spv at hu
          rw [List.mem_flatMap] at hu
          obtain ⟨x, _, hx⟩ := hu
          simp only [List.mem_cons, List.not_mem_nil, or_false] at hx
          rcases hx with rfl | rfl <;> rfl)
        obtain ⟨L, hL⟩ : ∃ L, (stepsF ws a).length = L := ⟨_, rfl⟩
        have hL37 : L ≤ 37 := by rw [← hL]; exact stepsF_len ws a
        rw [hL] at hSta hO9 ⊢
        have hLL := Lib.hid hL
        clear hL hSV hSt hSt9 hsf
        have hrow : (x9.setCell ⟨g, a, none⟩ (.slice AV L cV)).cell? ⟨g, a, none⟩ = some (.slice AV L cV) := by
          obtain ⟨V2, h1, _⟩ := hSta.row (i := a) (Nat.le_refl _) hawl
          exact World.cell?_setCell_same _ _ _ hv0
        have hO8 := own_grown hO9 (grown_set x9 g a (.slice AV L cV)) (fun k e => by injection e with e; omega)
        go_wp2
        have hbig9 : g + 2 ≤ x9.heap.size := Nat.le_trans hbig hx9.size
        generalize x9.setCell ⟨g, a, none⟩ (.slice AV L cV) = y0 at *
        clear hv0 hvz hO9
        go_loopw [48] (fun iv wr' => ∃ (q : Nat) (wr : World), wr = wr' ∧ iv = .int .i64 (q : Int) ∧ q ≤ L ∧ St ws w2 g a (fun i => if i = a then ((accF ws a q : Nat) : Int) else if a + 1 ≤ i then ((way ws i : Nat) : Int) else 0) wr ∧ wr.cell? ⟨g, a, none⟩ = some (.slice AV L cV) ∧ wr.ownsRow (g + 2) 81 2 (.slice AV L cV) L (spv (stepsF ws a))) (fun iv _ => L - (intOf iv).toNat)
        case atStart =>
          refine ⟨0, _, rfl, rfl, Nat.zero_le _, hSta.congr (fun i hi => ?_), hrow, hO8⟩
          show (if a + 1 ≤ i then ((way ws i : Nat) : Int) else 0) = if i = a then ((accF ws a 0 : Nat) : Int) else if a + 1 ≤ i then ((way ws i : Nat) : Int) else 0
          by_cases e : i = a
          · rw [if_neg (by omega), if_pos e]; rfl
          · rw [if_neg e]
        case round =>
          obtain ⟨q, wr, rfl, rfl, hq, hSq, hcr, hro⟩ := hrel
          have hbq := hSq.big
          rcases Nat.lt_or_ge q L with hql | hqg
          · obtain ⟨s9, hs⟩ : ∃ s9, (stepsF ws a)[q]? = some s9 := ⟨_, List.getElem?_eq_getElem (by rw [hLL.out]; exact hql)⟩
            obtain ⟨x, nx⟩ := s9
            rcases hro.2 with ⟨h9, _⟩ | ⟨gr, cap, cur, h9, hgr, hgc, _⟩
            · injection h9 with _ h9 _
              omega
            · injection h9 with h9 h9b h9c
              subst h9
              subst h9c
              clear h9b
              have s0 := hro.cells (g := gr) rfl (2 * q) _ (spv_get0 hs)
              have s1 := hro.cells (g := gr) rfl (2 * q + 1) _ (spv_get1 hs)
              rw [add_new, Nat.mul_comm] at s0 s1
              have q1 : (q : Int) < (L : Int) := by omega
              have q0 : (0 : Int) ≤ (q : Int) := by omega
              have hin := stepsF_in hawl _ (List.mem_of_getElem? hs)
              simp only at hin
              have hA := (Below.refl wr.heap.size wr).alloc (Nat.le_refl _) (.cells #[.string ⟨x.toArray⟩, .int .i64 (nx : Int)] 81)
              have hBx := Blk.new wr 81 #[.string ⟨x.toArray⟩, .int .i64 (nx : Int)]
              have hSx := hSq.below hA
              have hax := own_below hro hA
              have a2 := hSx.way_ (i := nx) hin.2
              have a3 := hSx.way_ (i := a) (by omega)
              simp only [if_neg (by omega : ¬ nx = a), if_pos (by omega : a + 1 ≤ nx)] at a2
              simp only [if_pos rfl] at a3
              have a4 := hSx.wayz a
              have a5 : (wr.alloc (.cells #[.string ⟨x.toArray⟩, .int .i64 (nx : Int)] 81)).cell? ⟨wr.heap.size, 1, none⟩ = some (.int .i64 (nx : Int)) := hBx.cell 1
              have hcr2 : (wr.alloc (.cells #[.string ⟨x.toArray⟩, .int .i64 (nx : Int)] 81)).cell? ⟨g, a, none⟩ = some (.slice (some ⟨gr, 0, none⟩) L cV) := (hA.cell (p := ⟨g, a, none⟩) (by show g < _; omega)).trans hcr
              have hac := Lib.hid (accF_succ hs)
              simp only at hac
              have hal := accF_le ws a q
              have hwl := way_le ws nx
              obtain ⟨u, hu⟩ : ∃ u, accF ws a q = u := ⟨_, rfl⟩
              obtain ⟨y, hy⟩ : ∃ y, way ws nx = y := ⟨_, rfl⟩
              rw [hu] at a3 hal
              rw [hy] at a2 hwl
              have hac2 := Lib.hid (show accF ws a (q + 1) = min (u + y) 501 by rw [hac.out, hu, hy])
              have nx0 : (0 : Int) ≤ (nx : Int) := by omega
              have nx1 : (nx : Int) < (n1 : Int) := by have := hn1h.out; have := hnn.out; omega
              obtain ⟨m, hm⟩ : ∃ m, min (u + y) 501 = m := ⟨_, rfl⟩
              have hmin : min ((u : Int) + (y : Int)) 501 = (m : Int) := by omega
              rw [hm] at hac2
              have hna := Lib.hid (show ¬ nx = a by omega)
              have hul := Lib.hid hu
              clear hu hy hm hac hs hin hA hBx hSq hcr hro
              go_wp2
              generalize wr.alloc (.cells #[.string ⟨x.toArray⟩, .int .i64 (nx : Int)] 81) = y1 at *
              go_region
              have hSy := ((hSx.setw a (by omega) (m : Int)).congr (f' := fun i => if i = a then ((accF ws a (q + 1) : Nat) : Int) else if a + 1 ≤ i then ((way ws i : Nat) : Int) else 0) (fun i hi => by
                show (if i = a then (m : Int) else if i = a then ((accF ws a q : Nat) : Int) else if a + 1 ≤ i then ((way ws i : Nat) : Int) else 0) = if i = a then ((accF ws a (q + 1) : Nat) : Int) else if a + 1 ≤ i then ((way ws i : Nat) : Int) else 0
                by_cases e : i = a
                · rw [if_pos e, if_pos e, hac2.out]
                · rw [if_neg e, if_neg e, if_neg e])).drewN 1
              have hcy : (y1.setCell ⟨g + 1, a, none⟩ (.int .i64 (m : Int))).drew.cell? ⟨g, a, none⟩ = some (.slice (some ⟨gr, 0, none⟩) L cV) := (World.cell?_setCell_other y1 _ _ _ (fun e => by have h2 := congrArg Addr.block e; simp at h2)).trans hcr2
              have hoy := own_below (own_grown hax (grown_set y1 (g + 1) a (.int .i64 (m : Int))) (fun k e => by injection e with e; omega)) (bel_drewN (Below.refl _ _) 1)
              clear a2 a3 a4 a5 s0 s1
              go_wp2
              go_roundw
              case rel => exact ⟨q + 1, _, rfl, by go_num, hql, hSy, hcy, hoy⟩
              case measure => simp [intOf]; omega
          · obtain rfl : q = L := by omega
            have hend := hSq.congr (f' := fun i => if a ≤ i then ((way ws i : Nat) : Int) else 0) (fun i hi => by
              show (if i = a then ((accF ws a q : Nat) : Int) else if a + 1 ≤ i then ((way ws i : Nat) : Int) else 0) = if a ≤ i then ((way ws i : Nat) : Int) else 0
              by_cases e : i = a
              · subst e
                rw [if_pos rfl, if_pos (Nat.le_refl _), ← hLL.out, accF_all hawl]
              · rw [if_neg e]
                by_cases e2 : a ≤ i
                · rw [if_pos (by omega), if_pos e2]
                · rw [if_neg (by omega), if_neg e2])
            go_wp2
            go_roundg a
            case measure => have := hgj.out; omega
            case rel => exact ⟨a, (a : Int) - 1, _, rfl, rfl, by go_num, rfl, by omega, hend⟩
  · have hk2 := Lib.hid (show rdgF s = ([], code) by rw [hk.out, if_pos hc])
    have hc1 : (code == 0) = false := by rw [beq_eq_false_iff_ne]; exact hc
    go_enter Tryz.func42, Tryz.ntmps42
    go_wp2_with fail
    refine hwo.out.mono ?_
    rintro e w2 ⟨A, c, rfl, hS, hlt, hb⟩
    go_wp2
    go_ret2
    exact ⟨.slice none 0 0, by rw [hk2.out]; rfl, by rw [hk2.out]; exact World.ownsRow_nil _ _ _ _, hb⟩
end Go.Proofs.YtpdfjlbfhnapkaaGreatDoor
