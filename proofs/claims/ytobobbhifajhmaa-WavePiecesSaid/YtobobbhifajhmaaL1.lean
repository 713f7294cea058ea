/- The listener in memory: its cells, and the methods that touch nothing else. -/
import Derived.Test.YtobobbhifajhmaaV2
import Derived.Deep.QuietTactic
import Derived.BigQuiet
import Derived.BigRegion
import Derived.RegionTactic
import Derived.Deep.RegionWith
import Derived.IntWalk
import Derived.StillTailTactics
namespace Go.Proofs.Ytobobbhifajhmaa
open Go.RowKit

/-- only the blocks g and gr may have turned -/
structure Two (g gr : Nat) (w w' : World) : Prop where
  os : w'.os = w.os
  tape : w'.tape = w.tape
  output : w'.output = w.output
  size : w.heap.size ≤ w'.heap.size
  block : ∀ k, k < w.heap.size → k ≠ g → k ≠ gr → w'.heap[k]? = w.heap[k]?
section
variable {g gr : Nat} {a b c : World}
theorem Two.refl (g gr : Nat) (w : World) : Two g gr w w := ⟨rfl, rfl, rfl, Nat.le_refl _, fun _ _ _ _ => rfl⟩
theorem Two.trans (h : Two g gr a b) (k : Two g gr b c) : Two g gr a c :=
  ⟨k.os.trans h.os, k.tape.trans h.tape, k.output.trans h.output, Nat.le_trans h.size k.size, fun i hi h1 h2 => (k.block i (Nat.lt_of_lt_of_le hi h.size) h1 h2).trans (h.block i hi h1 h2)⟩
theorem Two.drewN (h : Two g gr a b) (n : Nat) : Two g gr a (b.drewN n) := ⟨h.os, h.tape, h.output, h.size, h.block⟩
theorem Two.alloc (h : Two g gr a b) (o : Obj) : Two g gr a (b.alloc o) :=
  ⟨h.os, h.tape, h.output, by have := h.size; simp; omega, fun k hk h1 h2 => (Below.heap_alloc b o k (Nat.lt_of_lt_of_le hk h.size)).trans (h.block k hk h1 h2)⟩
theorem Two.set_ (h : Two g gr a b) (i : Nat) (u : Value) : Two g gr a (b.setCell ⟨g, i, none⟩ u) :=
  ⟨h.os, h.tape, h.output, by simpa [World.setCell] using h.size, fun k hk h1 h2 => (Below.heap_setCell b _ u k (by intro e; simp at e; exact h1 e)).trans (h.block k hk h1 h2)⟩
theorem Two.setr (h : Two g gr a b) (i : Nat) (u : Value) : Two g gr a (b.setCell ⟨gr, i, none⟩ u) :=
  ⟨h.os, h.tape, h.output, by simpa [World.setCell] using h.size, fun k hk h1 h2 => (Below.heap_setCell b _ u k (by intro e; simp at e; exact h2 e)).trans (h.block k hk h1 h2)⟩
/-- a new block is written -/
theorem Two.setn (h : Two g gr a b) {p : Addr} (hp : a.heap.size ≤ p.block) (u : Value) : Two g gr a (b.setCell p u) :=
  ⟨h.os, h.tape, h.output, by simpa [World.setCell] using h.size, fun k hk h1 h2 => (Below.heap_setCell b _ u k (by omega)).trans (h.block k hk h1 h2)⟩
theorem Two.of_below (h : Below a.heap.size a b) : Two g gr a b := ⟨h.os, h.tape, h.output, h.size, fun k hk _ _ => h.block k hk⟩
theorem Two.below {B : Nat} (h : Two g gr a b) (hB : B ≤ g) (hr : B ≤ gr) (hs : B ≤ a.heap.size) : Below B a b :=
  ⟨h.os, h.tape, h.output, h.size, fun k hk => h.block k (by omega) (by omega) (by omega)⟩
theorem Two.blk {k : Nat} {t : TypeId} {cs : Array Value} (h : Two g gr a b) (hB : Blk a k t cs) (h1 : k ≠ g) (h2 : k ≠ gr) : Blk b k t cs := (h.block k hB.lt h1 h2).trans hB
theorem Two.mk_ {k : Nat} {t : TypeId} {kd : IntKind} {xs : List Int} (h : Two g gr a b) (hB : Mk a k t kd xs) (h1 : k ≠ g) (h2 : k ≠ gr) : Mk b k t kd xs := Two.blk h hB h1 h2
theorem Two.sl {k : IntKind} {A : Option Addr} {n c : Nat} {xs : List Int} (h : Two g gr a b) (hS : Sl k a A n c xs) (hne : 0 < n → ∀ ad, A = some ad → ad.block ≠ g ∧ ad.block ≠ gr) : Sl k b A n c xs :=
  ⟨hS.len, hS.cap, hS.top, fun hn => by
    obtain ⟨ad, e, hc⟩ := hS.cell hn
    refine ⟨ad, e, fun j x hx => ?_⟩
    have h1 := hc j x hx
    have h2 := World.block_lt_of_cell? _ _ h1
    rw [block_of_add] at h2
    have h3 : b.heap[(ad.add j).block]? = a.heap[(ad.add j).block]? := by
      rw [block_of_add]
      exact h.block _ h2 (hne hn ad e).1 (hne hn ad e).2
    exact (World.cell?_of_block h3).trans h1⟩
end

/-- the cells of a listener -/
def lcs (G : Gt) (st : Int) (ring : Value) (arr run first last : Int) : Array Value :=
  #[.int .i64 (G.B : Int), .int .i64 G.H, .int .i64 G.L, .int .i64 G.R, .int .i64 G.F, .int .i64 G.D, .int .i64 G.X, .int .i64 st, ring, .int .i64 arr, .int .i64 run, .int .i64 first, .int .i64 last]
/-- block g holds a listener -/
def LB (w : World) (g : Nat) (G : Gt) (st : Int) (ring : Value) (arr run first last : Int) : Prop := Blk w g 89 (lcs G st ring arr run first last)
section
variable {w : World} {g : Nat} {G : Gt} {st arr run first last : Int} {ring : Value}
theorem LB.c0 (h : LB w g G st ring arr run first last) : w.cell? ⟨g, 0, none⟩ = some (.int .i64 (G.B : Int)) := Blk.cell h 0
theorem LB.c1 (h : LB w g G st ring arr run first last) : w.cell? ⟨g, 1, none⟩ = some (.int .i64 G.H) := Blk.cell h 1
theorem LB.c2 (h : LB w g G st ring arr run first last) : w.cell? ⟨g, 2, none⟩ = some (.int .i64 G.L) := Blk.cell h 2
theorem LB.c3 (h : LB w g G st ring arr run first last) : w.cell? ⟨g, 3, none⟩ = some (.int .i64 G.R) := Blk.cell h 3
theorem LB.c4 (h : LB w g G st ring arr run first last) : w.cell? ⟨g, 4, none⟩ = some (.int .i64 G.F) := Blk.cell h 4
theorem LB.c5 (h : LB w g G st ring arr run first last) : w.cell? ⟨g, 5, none⟩ = some (.int .i64 G.D) := Blk.cell h 5
theorem LB.c6 (h : LB w g G st ring arr run first last) : w.cell? ⟨g, 6, none⟩ = some (.int .i64 G.X) := Blk.cell h 6
theorem LB.c7 (h : LB w g G st ring arr run first last) : w.cell? ⟨g, 7, none⟩ = some (.int .i64 st) := Blk.cell h 7
theorem LB.c8 (h : LB w g G st ring arr run first last) : w.cell? ⟨g, 8, none⟩ = some ring := Blk.cell h 8
theorem LB.c9 (h : LB w g G st ring arr run first last) : w.cell? ⟨g, 9, none⟩ = some (.int .i64 arr) := Blk.cell h 9
theorem LB.c10 (h : LB w g G st ring arr run first last) : w.cell? ⟨g, 10, none⟩ = some (.int .i64 run) := Blk.cell h 10
theorem LB.c11 (h : LB w g G st ring arr run first last) : w.cell? ⟨g, 11, none⟩ = some (.int .i64 first) := Blk.cell h 11
theorem LB.c12 (h : LB w g G st ring arr run first last) : w.cell? ⟨g, 12, none⟩ = some (.int .i64 last) := Blk.cell h 12
theorem LB.fz (h : LB w g G st ring arr run first last) (i : Nat) : w.frozen? ⟨g, i, none⟩ = false := Blk.frozen h i
theorem LB.drewN (h : LB w g G st ring arr run first last) (n : Nat) : LB (w.drewN n) g G st ring arr run first last := h
theorem LB.s7 (h : LB w g G st ring arr run first last) (v : Int) : LB (w.setCell ⟨g, 7, none⟩ (.int .i64 v)) g G v ring arr run first last := Blk.set_ h 7 _
theorem LB.s9 (h : LB w g G st ring arr run first last) (v : Int) : LB (w.setCell ⟨g, 9, none⟩ (.int .i64 v)) g G st ring v run first last := Blk.set_ h 9 _
theorem LB.s10 (h : LB w g G st ring arr run first last) (v : Int) : LB (w.setCell ⟨g, 10, none⟩ (.int .i64 v)) g G st ring arr v first last := Blk.set_ h 10 _
theorem LB.s11 (h : LB w g G st ring arr run first last) (v : Int) : LB (w.setCell ⟨g, 11, none⟩ (.int .i64 v)) g G st ring arr run v last := Blk.set_ h 11 _
theorem LB.s12 (h : LB w g G st ring arr run first last) (v : Int) : LB (w.setCell ⟨g, 12, none⟩ (.int .i64 v)) g G st ring arr run first v := Blk.set_ h 12 _
end

theorem ret_sl {g o o' n n' c c' : Nat} (h1 : o = o') (h2 : n = n') (h3 : c = c') : Ending.returned (.slice (some ⟨g, o, none⟩) n c) = .returned (.slice (some ⟨g, o', none⟩) n' c') := by rw [h1, h2, h3]

theorem isMissing_nil (w : World) : Calls Try.prog 88 #[.pointer none] w fun e w' => e = .returned (.bool true) ∧ w = w' := by
  go_enter Try.func88, Try.ntmps88
  go_wp2
  go_ret
  exact ⟨rfl, rfl⟩
theorem isMissing_any (g : Nat) (w : World) (G : Gt) (st : Int) (ring : Value) (arr run first last : Int) (h : LB w g G st ring arr run first last) :
    Calls Try.prog 88 #[.pointer (some ⟨g, 0, none⟩)] w fun e w' => e = .returned (.bool (decide (st = 0))) ∧ w = w' := by
  have c7 := h.c7
  by_cases h0 : st = 0
  · have hd := Lib.hid (decide_eq_true h0)
    have h1 : (st == 0) = true := by simpa using h0
    clear h0
    go_enter Try.func88, Try.ntmps88
    go_wp2
    go_ret
    exact ⟨ret_bool hd.out.symm, rfl⟩
  · have hd := Lib.hid (decide_eq_false h0)
    have h1 : (st == 0) = false := by simpa using h0
    clear h0
    go_enter Try.func88, Try.ntmps88
    go_wp2
    go_ret
    exact ⟨ret_bool hd.out.symm, rfl⟩

set_option maxHeartbeats 400000 in
theorem block_any (g gr b : Nat) (w : World) (G : Gt) (hG : G.Ok) (st : Int) (arr run first last : Int) (h : LB w g G st (.slice (some ⟨gr, 0, none⟩) (2 * G.B) (2 * G.B)) arr run first last) (hb : b ≤ 4000000000) :
    Calls Try.prog 100 #[.pointer (some ⟨g, 0, none⟩), .int .i64 (b : Int)] w fun e w' => e = .returned (.slice (some ⟨gr, b % 2 * G.B, none⟩) G.B G.B) ∧ w = w' := by
  have c0 := h.c0
  have c8 := h.c8
  have hb1 := hG.b1
  have hb2 := hG.b2
  have e1 : (b : Int) % 2 = ((b % 2 : Nat) : Int) := by omega
  rcases (show b % 2 = 0 ∨ b % 2 = 1 by omega) with hm | hm
  all_goals
    rw [hm] at e1 ⊢
    clear hm
    go_enter Try.func100, Try.ntmps100
    go_wp2
    go_ret
    exact ⟨ret_sl (by omega) (by omega) (by omega), rfl⟩

/-- what a block does while waiting -/
structure AwRel (G : Gt) (g gr : Nat) (b : Int) (loud : Bool) (m : Ms) (ring : Value) (arr : Int) (w w' : World) : Prop where
  lb : LB w' g G (awt G b loud m).st ring arr (awt G b loud m).run (awt G b loud m).first (awt G b loud m).last
  two : Two g gr w w'
theorem awt_no {G : Gt} {b : Int} {m : Ms} (hs : m.sp = false) : awt G b false m = ⟨false, 0, m.first, m.last⟩ := by unfold awt; rw [hs]; rfl
theorem awt_more {G : Gt} {b : Int} {m : Ms} (hs : m.sp = false) (h : m.run + 1 ≠ G.R) : awt G b true m = ⟨false, m.run + 1, m.first, m.last⟩ := by unfold awt; rw [if_neg h, hs]; rfl
theorem awt_yes {G : Gt} {b : Int} {m : Ms} (h : m.run + 1 = G.R) : awt G b true m = ⟨true, 0, max (b - G.R + 1 - G.D) m.last, m.last⟩ := by unfold awt; rw [if_pos h]; rfl

set_option maxHeartbeats 1600000 in
set_option maxRecDepth 100000 in
theorem await_any (g gr : Nat) (b : Int) (loud : Bool) (w : World) (G : Gt) (hG : G.Ok) (m : Ms) (ring : Value) (arr : Int) (hs : m.sp = false) (hm : m.Bd b) (hb : b ≤ 4000000000) (h : LB w g G 1 ring arr m.run m.first m.last) :
    Calls Try.prog 101 #[.pointer (some ⟨g, 0, none⟩), .int .i64 b, .bool loud] w fun e w' => e = .returned (.tuple #[]) ∧ AwRel G g gr b loud m ring arr w w' := by
  obtain ⟨hm1, hm2, hm3, hm4, hm5, hm6⟩ := hm
  cases loud with
  | false =>
    have ha := Lib.hid (awt_no (G := G) (b := b) hs)
    have f10 := h.fz 10
    have c10 := h.c10
    go_enter Try.func101, Try.ntmps101
    go_wp2
    refine bodyPost_ret (results_none rfl _ _ _) rfl ?_
    exact ⟨rfl, ⟨by rw [ha.out]; exact h.s10 0, (Two.refl _ _ _).set_ _ _⟩⟩
  | true =>
    have c3 := h.c3
    have c10 := h.c10
    have f10 := h.fz 10
    by_cases hr : m.run + 1 = G.R
    · have ha := Lib.hid (awt_yes (b := b) hr)
      have hG1 := hG.r1
      have hG2 := hG.r2
      have hG3 := hG.d1
      have hG4 := hG.d2
      have hr1 : ((m.run + 1) == G.R) = true := by rw [beq_iff_eq]; exact hr
      clear hr
      go_enter Try.func101, Try.ntmps101
      go_wp2
      go_quiet (fail)
      have hL1 := (h.s10 (m.run + 1)).drewN nq
      have hT1 := ((Two.refl g gr w).set_ 10 (.int .i64 (m.run + 1))).drewN nq
      generalize (w.setCell ⟨g, 10, none⟩ (.int .i64 (m.run + 1))).drewN nq = w1 at *
      have f7 := hL1.fz 7
      have c7 := hL1.c7
      have d10 := hL1.c10
      have g10 := hL1.fz 10
      go_wp2
      have hL2 := (hL1.s7 2).s10 0
      have hT2 := (hT1.set_ 7 (.int .i64 2)).set_ 10 (.int .i64 0)
      clear f7 c7 d10 g10 f10 c10 c3
      generalize ((w1.setCell ⟨g, 7, none⟩ (.int .i64 2)).setCell ⟨g, 10, none⟩ (.int .i64 0)) = w2 at *
      have c3 := hL2.c3
      have c5 := hL2.c5
      have c11 := hL2.c11
      have c12 := hL2.c12
      have f11 := hL2.fz 11
      have e1 : IntKind.i64.wrap (b - G.R) = b - G.R := IntWalk.i64_in _ (by omega)
      have e2 : IntKind.i64.wrap (b - G.R + 1) = b - G.R + 1 := IntWalk.i64_in _ (by omega)
      have e3 : IntKind.i64.wrap (b - G.R + 1 - G.D) = b - G.R + 1 - G.D := IntWalk.i64_in _ (by omega)
      rcases (show b - G.R + 1 - G.D ≤ m.last ∨ m.last < b - G.R + 1 - G.D by omega) with hmx | hmx
      all_goals
        go_still_tail 22, (by kernel_rfl)
        change wpList _ _ _ _ _ w2.drew
        clear e1 e2 e3
        have hL3 := hL2.drewN 1
        have hT3 := hT2.drewN 1
        have c11' := hL3.c11
        have f11' := hL3.fz 11
        change wpList _ _ _ _ _ (w2.drewN 1)
        generalize w2.drewN 1 = w3 at *
        go_wp2
        all_goals
          go_end0
          exact ⟨rfl, ⟨by rw [ha.out]; first | (rw [show max (b - G.R + 1 - G.D) m.last = m.last by omega]; exact hL3.s11 _) | (rw [show max (b - G.R + 1 - G.D) m.last = b - G.R + 1 - G.D by omega]; exact hL3.s11 _), hT3.set_ 11 _⟩⟩
    · have ha := Lib.hid (awt_more (b := b) hs hr)
      have hr1 : ((m.run + 1) == G.R) = false := by rw [beq_eq_false_iff_ne]; exact hr
      clear hr
      go_enter Try.func101, Try.ntmps101
      go_wp2
      go_quiet (fail)
      go_wp2
      go_end0
      exact ⟨rfl, ⟨by rw [ha.out]; exact (h.s10 _).drewN _, ((Two.refl _ _ _).set_ _ _).drewN _⟩⟩

/-- what a block does in speech: the run is stored, the rest stays -/
structure FoRel (G : Gt) (g gr : Nat) (m : Ms) (quiet : Bool) (ring : Value) (arr : Int) (w w' : World) : Prop where
  lb : LB w' g G 2 ring arr (frun quiet m) m.first m.last
  two : Two g gr w w'
/-- the end that follow returns -/
def foEnd (G : Gt) (b : Int) (quiet : Bool) (m : Ms) : Int := if fend G b quiet m = -1 then 0 else fend G b quiet m
def foIs (G : Gt) (b : Int) (quiet : Bool) (m : Ms) : Bool := !decide (fend G b quiet m = -1)
theorem fo_fall {G : Gt} {b : Int} {q : Bool} {m : Ms} (h : frun q m = G.F) (hb : b - G.F + 1 ≠ -1) : foEnd G b q m = b - G.F + 1 ∧ foIs G b q m = true := by
  have : fend G b q m = b - G.F + 1 := if_pos h
  unfold foEnd foIs
  rw [this, if_neg hb, decide_eq_false hb]
  exact ⟨rfl, rfl⟩
theorem fo_long {G : Gt} {b : Int} {q : Bool} {m : Ms} (h : frun q m ≠ G.F) (h2 : b + 1 - m.first = G.X) (hb : 0 ≤ b) : foEnd G b q m = b + 1 ∧ foIs G b q m = true := by
  have : fend G b q m = b + 1 := by unfold fend; rw [if_neg h, if_pos h2]
  unfold foEnd foIs
  rw [this, if_neg (by omega), decide_eq_false (by omega)]
  exact ⟨rfl, rfl⟩
theorem fo_none {G : Gt} {b : Int} {q : Bool} {m : Ms} (h : frun q m ≠ G.F) (h2 : b + 1 - m.first ≠ G.X) : foEnd G b q m = 0 ∧ foIs G b q m = false := by
  have : fend G b q m = -1 := by unfold fend; rw [if_neg h, if_neg h2]
  unfold foEnd foIs
  rw [this]
  exact ⟨rfl, rfl⟩

end Go.Proofs.Ytobobbhifajhmaa
