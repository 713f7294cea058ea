/- A block that has just become complete. -/
import Derived.Test.YtobobbhifajhmaaL2
import Derived.Laws.ResultCell
import Derived.Deep.RegionHeld3
namespace Go.Proofs.Ytobobbhifajhmaa
open Go.RowKit

theorem Mk.part {w : World} {g : Nat} {t : TypeId} {k : IntKind} {rs : List Int} (h : Mk w g t k rs) {o n : Nat} (hn : o + n ≤ rs.length) (ht : n ≤ 140737488355328) : Sl k w (some ⟨g, o, none⟩) n n ((rs.drop o).take n) :=
  ⟨by simp; omega, Nat.le_refl _, by omega, fun _ => ⟨_, rfl, fun j x hx => by
    have hj : j < n := by have := lt_of_some hx; simp at this; omega
    rw [List.getElem?_take, if_pos hj, List.getElem?_drop] at hx
    have hc := h.cell (i := o + j) (by omega)
    rw [getD_in (by omega)] at hc
    rw [List.getElem?_eq_getElem (by omega)] at hx
    injection hx with hx
    subst hx
    have e : (⟨g, o, none⟩ : Addr).add j = ⟨g, o + j, none⟩ := by
      unfold Addr.add
      split
      · subst j; rfl
      · rfl
    rw [e]; exact hc⟩⟩
theorem Two.widen {g gr : Nat} {a b : World} (h : Two g g a b) : Two g gr a b := ⟨h.os, h.tape, h.output, h.size, fun k hk h1 _ => h.block k hk h1 h1⟩

theorem load_seg {g : Nat} {W : World} {a b : Value} (h : Blk W g 84 #[a, b]) : (loadVar 84 ⟨g, 0, none⟩).run Try.prog W = .ok (.agg #[a, b]) W := by
  have q0 : W.cell? ⟨g, 0, none⟩ = some a := h.cell 0
  have q1 : W.cell? ⟨g, 1, none⟩ = some b := h.cell 1
  simp [go_sem, q0, q1]
theorem ret_seg2 {fn : Func} {R : Ending → World → Prop} {act : Act} {W : World} {g p u : Nat} {a b : Value} (hr : fn.results = #[.cell p 84, .tmp u]) (hs : act.tmps.getD p undef = .pointer (some ⟨g, 0, none⟩))
    (hB : Blk W g 84 #[a, b]) (hd : act.defers = []) (hR : R (.returned (.tuple #[.agg #[a, b], act.tmps.getD u undef])) W) : bodyPost Try.prog fn R .ret act W :=
  bodyPost_ret (v := .tuple #[.agg #[a, b], act.tmps.getD u undef]) (by rw [results_cell_tmp hr, hs]; simp [asAddr, load_seg hB]) hd hR

/-- what hear returns -/
def heVal : List (Int × Int) → Value
  | [] => .tuple #[.agg #[.int .i64 0, .int .i64 0], .bool false]
  | p :: _ => .tuple #[.agg #[.int .i64 p.1, .int .i64 p.2], .bool true]
structure HeRel (G : Gt) (g gr : Nat) (b E : Int) (m : Ms) (ring : Value) (arr : Int) (rs : List Int) (w w' : World) : Prop where
  lb : LB w' g G (hearM G b E m).st ring arr (hearM G b E m).run (hearM G b E m).first (hearM G b E m).last
  ring : Mk w' gr 3 .i64 rs
  two : Two g gr w w'

theorem hear_wait {G : Gt} {b E : Int} {m : Ms} (hs : m.sp = false) : hearM G b E m = awt G b (decide (G.H * G.B ≤ E)) m ∧ hearS G b E m = [] := by
  unfold hearM hearS; rw [hs]; exact ⟨rfl, rfl⟩
theorem hear_on {G : Gt} {b E : Int} {m : Ms} (hs : m.sp = true) (h : foIs G b (decide (E < G.L * G.B)) m = false) :
    hearM G b E m = ⟨true, frun (decide (E < G.L * G.B)) m, m.first, m.last⟩ ∧ hearS G b E m = [] := by
  have h2 : fend G b (decide (E < G.L * G.B)) m = -1 := by unfold foIs at h; simpa using h
  unfold hearM hearS; rw [hs, h2]; exact ⟨rfl, rfl⟩
theorem hear_end {G : Gt} {b E : Int} {m : Ms} (hs : m.sp = true) (h : foIs G b (decide (E < G.L * G.B)) m = true) :
    hearM G b E m = ⟨false, 0, m.first, foEnd G b (decide (E < G.L * G.B)) m⟩ ∧ hearS G b E m = [(m.first * G.B, foEnd G b (decide (E < G.L * G.B)) m * G.B)] := by
  have h2 : ¬ fend G b (decide (E < G.L * G.B)) m = -1 := by unfold foIs at h; simpa using h
  have h3 : foEnd G b (decide (E < G.L * G.B)) m = fend G b (decide (E < G.L * G.B)) m := by unfold foEnd; rw [if_neg h2]
  unfold hearM hearS; rw [hs, h3, if_pos rfl, if_pos rfl, if_neg h2, if_neg h2]; exact ⟨rfl, rfl⟩

set_option maxHeartbeats 1600000 in
set_option maxRecDepth 100000 in
theorem hear_any (g gr b : Nat) (w : World) (G : Gt) (hG : G.Ok) (m : Ms) (arr : Int) (rs ys : List Int) (hm : m.Bd (b : Int)) (hb : b ≤ 4000000000)
    (h : LB w g G m.st (.slice (some ⟨gr, 0, none⟩) (2 * G.B) (2 * G.B)) arr m.run m.first m.last) (hR : Mk w gr 3 .i64 rs) (hne : gr ≠ g) (hrl : rs.length = 2 * G.B) (hy : (rs.drop (b % 2 * G.B)).take G.B = ys)
    (hyb : ∀ y ∈ ys, -32768 ≤ y ∧ y ≤ 32768) :
    Calls Try.prog 91 #[.pointer (some ⟨g, 0, none⟩), .int .i64 (b : Int)] w fun e w' => e = .returned (heVal (hearS G b (eng ys) m)) ∧ HeRel G g gr b (eng ys) m (.slice (some ⟨gr, 0, none⟩) (2 * G.B) (2 * G.B)) arr rs w w' := by
  have hglt := Blk.lt h
  have hrlt := hR.lt
  have hb1 := hG.b1
  have hb2 := hG.b2
  have hh1 := hG.h1
  have hh2 := hG.h2
  have hl1 := hG.l1
  have hl2 := hG.l2
  have hyl : ys.length = G.B := by
    rw [← hy, List.length_take, List.length_drop, hrl]
    rcases (show b % 2 = 0 ∨ b % 2 = 1 by omega) with e | e <;> rw [e] <;> omega
  have hE := eng_bd (m := 32768) ys hyb
  rw [hyl] at hE
  have hE1 := hE.1
  have hE2 : eng ys ≤ 4398046511104 := by have := hE.2; omega
  have hHB := mul_bd (a := (G.B : Int)) (b := G.H) (m := 4096) (q := 1073741824) (by omega) (by omega) (by omega) hh2 (by omega)
  have hLB := mul_bd (a := (G.B : Int)) (b := G.L) (m := 4096) (q := 1073741824) (by omega) (by omega) (by omega) (by omega) (by omega)
  rw [Int.mul_comm (G.B : Int) G.H] at hHB
  rw [Int.mul_comm (G.B : Int) G.L] at hLB
  have hHB1 := hHB.1
  have hHB2 := hHB.2
  have hLB1 := hLB.1
  have hLB2 := hLB.2
  clear hE hHB hLB
  have hL0 : LB (w.alloc (.cells #[.int .i64 0, .int .i64 0] 84)) g G m.st (.slice (some ⟨gr, 0, none⟩) (2 * G.B) (2 * G.B)) arr m.run m.first m.last := Blk.alloc h _
  have hR0 := hR.alloc (.cells #[.int .i64 0, .int .i64 0] 84)
  have hZ0 := Blk.new w 84 #[.int .i64 0, .int .i64 0]
  have hT0 := (Two.refl g gr w).alloc (.cells #[.int .i64 0, .int .i64 0] 84)
  have hsz0 : w.heap.size < (w.alloc (.cells #[.int .i64 0, .int .i64 0] 84)).heap.size := by simp
  have hS0 := hR0.part (o := b % 2 * G.B) (n := G.B) (by rw [hrl]; rcases (show b % 2 = 0 ∨ b % 2 = 1 by omega) with e | e <;> rw [e] <;> omega) (by omega)
  rw [hy] at hS0
  have hyb := Lib.hid hyb
  clear hyl hy
  have hrl := Lib.hid hrl
  go_enter Try.func91, Try.ntmps91
  go_wp2_with fail
  generalize w.alloc (.cells #[.int .i64 0, .int .i64 0] 84) = w1 at *
  refine (block_any _ _ _ _ _ hG _ _ _ _ _ hL0 hb).mono ?_
  rintro e w' ⟨rfl, rfl⟩
  go_wp2_with fail
  refine (energy_any _ _ _ _ _ hS0 (by omega) (fun x hx => by have := hyb.out x hx; omega)).mono ?_
  rintro e w' ⟨rfl, rfl⟩
  generalize hEE : eng ys = E at *
  have hEE := Lib.hid hEE
  cases hs : m.sp with
  | false =>
    have hst : m.st = 1 := by unfold Ms.st; rw [hs]; rfl
    have hw := hear_wait (G := G) (b := b) (E := E) hs
    have hw1 := Lib.hid hw.1
    have hw2 := Lib.hid hw.2
    clear hw
    rw [hst] at hL0 h
    clear hst
    have c7 := hL0.c7
    have c0 := hL0.c0
    have c1 := hL0.c1
    have hs := Lib.hid hs
    go_wp2
    have e1 : IntKind.i64.wrap (G.H * (G.B : Int)) = G.H * (G.B : Int) := IntWalk.i64_in _ (by omega)
    go_still_tail 15, (by kernel_rfl)
    change wpList _ _ _ _ _ (w1.drewN 1)
    clear e1 c7 c0 c1
    have hL1 := hL0.drewN 1
    have hR1 := hR0.drewN 1
    have hZ1 := hZ0.drewN 1
    have hT1 := hT0.drewN 1
    have hsz1 : w.heap.size < (w1.drewN 1).heap.size := hsz0
    generalize w1.drewN 1 = w2 at *
    go_wp2_with fail
    refine (await_any g g b _ _ G hG m _ _ hs.out hm (by omega) hL1).mono ?_
    rintro e w3 ⟨rfl, hA⟩
    have hZ3 := hA.two.blk hZ1 (by omega) (by omega)
    have hR3 := hA.two.mk_ hR1 hne hne
    have c0 := hZ3.cell 0
    have c1 := hZ3.cell 1
    have f0 := hZ3.frozen 0
    have f1 := hZ3.frozen 1
    go_wp2
    refine ret_seg2 rfl rfl ((hZ3.set_ 0 _).set_ 1 _) rfl ⟨by rw [hEE.out, hw2.out]; rfl, ⟨?_, ?_, ?_⟩⟩
    · rw [hEE.out, hw1.out]
      exact Blk.far (Blk.far hA.lb (by simp; omega) _) (by simp; omega) _
    · exact (hR3.far (by simp; omega) _).far (by simp; omega) _
    · exact ((hT1.trans hA.two.widen).setn (p := ⟨w.heap.size, 0, none⟩) (by simp) _).setn (p := ⟨w.heap.size, 1, none⟩) (by simp) _
  | true =>
    have hst : m.st = 2 := by unfold Ms.st; rw [hs]; rfl
    rw [hst] at hL0 h
    clear hst
    have c7 := hL0.c7
    have c0 := hL0.c0
    have c2 := hL0.c2
    have hs := Lib.hid hs
    have hfd := Lib.hid (fend_bd (q := decide (E < G.L * G.B)) hG hm)
    go_wp2
    have e1 : IntKind.i64.wrap (G.L * (G.B : Int)) = G.L * (G.B : Int) := IntWalk.i64_in _ (by omega)
    have hL1 : LB w1.drew g G 2 (.slice (some ⟨gr, 0, none⟩) (2 * G.B) (2 * G.B)) arr m.run m.first m.last := hL0
    have hR1 : Mk w1.drew gr 3 .i64 rs := hR0
    have hZ1 : Blk w1.drew w.heap.size 84 #[.int .i64 0, .int .i64 0] := hZ0
    have hT1 : Two g gr w w1.drew := hT0.drewN 1
    have hsz1 : w.heap.size < w1.drew.heap.size := hsz0
    go_region_held3 (fun wx => wx.cell? ⟨g, 0, none⟩ = some (.int .i64 (G.B : Int)) ∧ wx.cell? ⟨g, 2, none⟩ = some (.int .i64 G.L)) (first | exact ⟨c0, c2⟩ | exact ⟨i0, i2⟩ | go_keep)
      (first | (go_at_call 102; refine (follow_any g g b _ _ G hG m _ _ hm (by omega) hL1).mono ?_; rintro e w3 ⟨rfl, hA⟩; have i0 := hA.lb.c0; have i2 := hA.lb.c2))
    clear e1 c7 c0 c2
    have hZ3 := hA.two.blk hZ1 (by omega) (by omega)
    have hR3 := hA.two.mk_ hR1 hne hne
    have hL3 := hA.lb
    have hT3 := hT1.trans hA.two.widen
    have hsz3 := hA.two.size
    cases hfi : foIs G b (decide (E < G.L * G.B)) m with
    | false =>
      have hw := hear_on (G := G) (b := b) (E := E) hs.out hfi
      have hw1 := Lib.hid hw.1
      have hw2 := Lib.hid hw.2
      clear hw
      have c0 := hZ3.cell 0
      have c1 := hZ3.cell 1
      have f0 := hZ3.frozen 0
      have f1 := hZ3.frozen 1
      go_wp2
      refine ret_seg2 rfl rfl ((hZ3.set_ 0 _).set_ 1 _) rfl ⟨by rw [hEE.out, hw2.out]; rfl, ⟨?_, ?_, ?_⟩⟩
      · rw [hEE.out, hw1.out]
        exact Blk.far (Blk.far hL3 (by simp; omega) _) (by simp; omega) _
      · exact (hR3.far (by simp; omega) _).far (by simp; omega) _
      · exact (hT3.setn (p := ⟨w.heap.size, 0, none⟩) (by simp) _).setn (p := ⟨w.heap.size, 1, none⟩) (by simp) _
    | true =>
      have hw := hear_end (G := G) (b := b) (E := E) hs.out hfi
      have hw1 := Lib.hid hw.1
      have hw2 := Lib.hid hw.2
      clear hw
      have hfb : 0 ≤ foEnd G b (decide (E < G.L * G.B)) m ∧ foEnd G b (decide (E < G.L * G.B)) m ≤ b + 1 := by
        unfold foEnd
        have h9 : ¬ fend G b (decide (E < G.L * G.B)) m = -1 := by unfold foIs at hfi; simpa using hfi
        rw [if_neg h9]
        rcases hfd.out with h8 | h8
        · exact absurd h8 h9
        · exact h8
      generalize foEnd G b (decide (E < G.L * G.B)) m = fe at *
      have hfb1 := hfb.1
      have hfb2 := hfb.2
      clear hfb
      have c7 := hL3.c7
      have f7 := hL3.fz 7
      have c10 := hL3.c10
      have f10 := hL3.fz 10
      have c12 := hL3.c12
      have f12 := hL3.fz 12
      go_wp2
      have hL4 := ((hL3.s7 1).s10 0).s12 fe
      have hR4 := ((hR3.far (p := ⟨g, 7, none⟩) hne (.int .i64 1)).far (p := ⟨g, 10, none⟩) hne (.int .i64 0)).far (p := ⟨g, 12, none⟩) hne (.int .i64 fe)
      have hT4 := ((hT3.set_ 7 (.int .i64 1)).set_ 10 (.int .i64 0)).set_ 12 (.int .i64 fe)
      have hZ4 := ((hZ3.far (p := ⟨g, 7, none⟩) (by simp; omega) (.int .i64 1)).far (p := ⟨g, 10, none⟩) (by simp; omega) (.int .i64 0)).far (p := ⟨g, 12, none⟩) (by simp; omega) (.int .i64 fe)
      clear c7 f7 c10 f10 c12 f12 hfi
      generalize ((w3.setCell ⟨g, 7, none⟩ (.int .i64 1)).setCell ⟨g, 10, none⟩ (.int .i64 0)).setCell ⟨g, 12, none⟩ (.int .i64 fe) = w4 at *
      have c0 := hL4.c0
      have c11 := hL4.c11
      have hm3 := hm.f1
      have hm4 := hm.f2
      have q1 := mul_bd (a := (G.B : Int)) (b := m.first) (m := 4096) (q := 4000000001) (by omega) (by omega) (by omega) (by omega) (by omega)
      have q2 := mul_bd (a := (G.B : Int)) (b := fe) (m := 4096) (q := 4000000001) (by omega) (by omega) (by omega) (by omega) (by omega)
      rw [Int.mul_comm (G.B : Int) m.first] at q1
      rw [Int.mul_comm (G.B : Int) fe] at q2
      have e1 : IntKind.i64.wrap (m.first * (G.B : Int)) = m.first * (G.B : Int) := IntWalk.i64_in _ (by omega)
      have e2 : IntKind.i64.wrap (fe * (G.B : Int)) = fe * (G.B : Int) := IntWalk.i64_in _ (by omega)
      clear q1 q2
      go_still_tail 18, (by kernel_rfl)
      change wpList _ _ _ _ _ (w4.drewN 1)
      clear e1 e2 c0 c11
      have hL5 := hL4.drewN 1
      have hR5 := hR4.drewN 1
      have hZ5 := hZ4.drewN 1
      have hT5 := hT4.drewN 1
      generalize w4.drewN 1 = w5 at *
      have c0 := hZ5.cell 0
      have c1 := hZ5.cell 1
      have f0 := hZ5.frozen 0
      have f1 := hZ5.frozen 1
      go_wp2
      refine ret_seg2 rfl rfl ((hZ5.set_ 0 _).set_ 1 _) rfl ⟨by rw [hEE.out, hw2.out]; rfl, ⟨?_, ?_, ?_⟩⟩
      · rw [hEE.out, hw1.out]
        exact Blk.far (Blk.far hL5 (by simp; omega) _) (by simp; omega) _
      · exact (hR5.far (by simp; omega) _).far (by simp; omega) _
      · exact (hT5.setn (p := ⟨w.heap.size, 0, none⟩) (by simp) _).setn (p := ⟨w.heap.size, 1, none⟩) (by simp) _
end Go.Proofs.Ytobobbhifajhmaa
