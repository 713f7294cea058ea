/- The listener in memory: its cells, and the methods that touch nothing else. -/
import Derived.Test.YtoljffghaklpdaaGreatDoorHM
import Derived.Test.YtoljffghaklpdaaGreatDoorJA
import Derived.Test.YtoljffghaklpdaaGreatDoorZP0
import Derived.Deep.QuietTactic
import Derived.BigQuiet
import Derived.BigRegion
import Derived.RegionTactic
import Derived.Deep.RegionWith
import Derived.IntWalk
import Derived.StillTailTactics
import Derived.Laws.ResultCell
import Derived.Deep.RegionHeld3
import Derived.Laws.CopyOwn
namespace Go.Proofs.YtoljffghaklpdaaGreatDoor
open Go.RowKit

/-- only the blocks g and gr may have turned -/
structure Two (g gr : Nat) (w w' : World) : Prop where
  os : w'.os = w.os
  tape : w'.tape = w.tape
  output : w'.output = w.output
  size : w.heap.size ≤ w'.heap.size
  block : ∀ k, k < w.heap.size → k ≠ g → k ≠ gr → w'.heap[k]? = w.heap[k]?
section
variable {g gr : Nat} {a b c : World}
theorem Two.refl (g gr : Nat) (w : World) : Two g gr w w := ⟨rfl, rfl, rfl, Nat.le_refl _, fun _ _ _ _ => rfl⟩
theorem Two.trans (h : Two g gr a b) (k : Two g gr b c) : Two g gr a c :=
  ⟨k.os.trans h.os, k.tape.trans h.tape, k.output.trans h.output, Nat.le_trans h.size k.size, fun i hi h1 h2 => (k.block i (Nat.lt_of_lt_of_le hi h.size) h1 h2).trans (h.block i hi h1 h2)⟩
theorem Two.drewN (h : Two g gr a b) (n : Nat) : Two g gr a (b.drewN n) := ⟨h.os, h.tape, h.output, h.size, h.block⟩
theorem Two.alloc (h : Two g gr a b) (o : Obj) : Two g gr a (b.alloc o) :=
  ⟨h.os, h.tape, h.output, by have := h.size; simp; omega, fun k hk h1 h2 => (Below.heap_alloc b o k (Nat.lt_of_lt_of_le hk h.size)).trans (h.block k hk h1 h2)⟩
theorem Two.set_ (h : Two g gr a b) (i : Nat) (u : Value) : Two g gr a (b.setCell ⟨g, i, none⟩ u) :=
  ⟨h.os, h.tape, h.output, by simpa [World.setCell] using h.size, fun k hk h1 h2 => (Below.heap_setCell b _ u k (by intro e; simp at e; exact h1 e)).trans (h.block k hk h1 h2)⟩
theorem Two.setr (h : Two g gr a b) (i : Nat) (u : Value) : Two g gr a (b.setCell ⟨gr, i, none⟩ u) :=
  ⟨h.os, h.tape, h.output, by simpa [World.setCell] using h.size, fun k hk h1 h2 => (Below.heap_setCell b _ u k (by intro e; simp at e; exact h2 e)).trans (h.block k hk h1 h2)⟩
/-- a new block is written -/
theorem Two.setn (h : Two g gr a b) {p : Addr} (hp : a.heap.size ≤ p.block) (u : Value) : Two g gr a (b.setCell p u) :=
  ⟨h.os, h.tape, h.output, by simpa [World.setCell] using h.size, fun k hk h1 h2 => (Below.heap_setCell b _ u k (by omega)).trans (h.block k hk h1 h2)⟩
theorem Two.of_below (h : Below a.heap.size a b) : Two g gr a b := ⟨h.os, h.tape, h.output, h.size, fun k hk _ _ => h.block k hk⟩
theorem Two.below {B : Nat} (h : Two g gr a b) (hB : B ≤ g) (hr : B ≤ gr) (hs : B ≤ a.heap.size) : Below B a b :=
  ⟨h.os, h.tape, h.output, h.size, fun k hk => h.block k (by omega) (by omega) (by omega)⟩
theorem Two.blk {k : Nat} {t : TypeId} {cs : Array Value} (h : Two g gr a b) (hB : Blk a k t cs) (h1 : k ≠ g) (h2 : k ≠ gr) : Blk b k t cs := (h.block k hB.lt h1 h2).trans hB
theorem Two.mk_ {k : Nat} {t : TypeId} {kd : IntKind} {xs : List Int} (h : Two g gr a b) (hB : Mk a k t kd xs) (h1 : k ≠ g) (h2 : k ≠ gr) : Mk b k t kd xs := Two.blk h hB h1 h2
theorem Two.sl {k : IntKind} {A : Option Addr} {n c : Nat} {xs : List Int} (h : Two g gr a b) (hS : Sl k a A n c xs) (hne : 0 < n → ∀ ad, A = some ad → ad.block ≠ g ∧ ad.block ≠ gr) : Sl k b A n c xs :=
  ⟨hS.len, hS.cap, hS.top, fun hn => by
    obtain ⟨ad, e, hc⟩ := hS.cell hn
    refine ⟨ad, e, fun j x hx => ?_⟩
    have h1 := hc j x hx
    have h2 := World.block_lt_of_cell? _ _ h1
    rw [block_of_add] at h2
    have h3 : b.heap[(ad.add j).block]? = a.heap[(ad.add j).block]? := by
      rw [block_of_add]
      exact h.block _ h2 (hne hn ad e).1 (hne hn ad e).2
    exact (World.cell?_of_block h3).trans h1⟩
end

/-- the cells of a listener -/
def lcs (G : Gt) (st : Int) (ring : Value) (arr run first last : Int) : Array Value :=
  #[.int .i64 (G.B : Int), .int .i64 G.H, .int .i64 G.L, .int .i64 G.R, .int .i64 G.F, .int .i64 G.D, .int .i64 G.X, .int .i64 st, ring, .int .i64 arr, .int .i64 run, .int .i64 first, .int .i64 last]
/-- block g holds a listener -/
def LB (w : World) (g : Nat) (G : Gt) (st : Int) (ring : Value) (arr run first last : Int) : Prop := Blk w g 164 (lcs G st ring arr run first last)
section
variable {w : World} {g : Nat} {G : Gt} {st arr run first last : Int} {ring : Value}
theorem LB.c0 (h : LB w g G st ring arr run first last) : w.cell? ⟨g, 0, none⟩ = some (.int .i64 (G.B : Int)) := Blk.cell h 0
theorem LB.c1 (h : LB w g G st ring arr run first last) : w.cell? ⟨g, 1, none⟩ = some (.int .i64 G.H) := Blk.cell h 1
theorem LB.c2 (h : LB w g G st ring arr run first last) : w.cell? ⟨g, 2, none⟩ = some (.int .i64 G.L) := Blk.cell h 2
theorem LB.c3 (h : LB w g G st ring arr run first last) : w.cell? ⟨g, 3, none⟩ = some (.int .i64 G.R) := Blk.cell h 3
theorem LB.c4 (h : LB w g G st ring arr run first last) : w.cell? ⟨g, 4, none⟩ = some (.int .i64 G.F) := Blk.cell h 4
theorem LB.c5 (h : LB w g G st ring arr run first last) : w.cell? ⟨g, 5, none⟩ = some (.int .i64 G.D) := Blk.cell h 5
theorem LB.c6 (h : LB w g G st ring arr run first last) : w.cell? ⟨g, 6, none⟩ = some (.int .i64 G.X) := Blk.cell h 6
theorem LB.c7 (h : LB w g G st ring arr run first last) : w.cell? ⟨g, 7, none⟩ = some (.int .i64 st) := Blk.cell h 7
theorem LB.c8 (h : LB w g G st ring arr run first last) : w.cell? ⟨g, 8, none⟩ = some ring := Blk.cell h 8
theorem LB.c9 (h : LB w g G st ring arr run first last) : w.cell? ⟨g, 9, none⟩ = some (.int .i64 arr) := Blk.cell h 9
theorem LB.c10 (h : LB w g G st ring arr run first last) : w.cell? ⟨g, 10, none⟩ = some (.int .i64 run) := Blk.cell h 10
theorem LB.c11 (h : LB w g G st ring arr run first last) : w.cell? ⟨g, 11, none⟩ = some (.int .i64 first) := Blk.cell h 11
theorem LB.c12 (h : LB w g G st ring arr run first last) : w.cell? ⟨g, 12, none⟩ = some (.int .i64 last) := Blk.cell h 12
theorem LB.fz (h : LB w g G st ring arr run first last) (i : Nat) : w.frozen? ⟨g, i, none⟩ = false := Blk.frozen h i
theorem LB.drewN (h : LB w g G st ring arr run first last) (n : Nat) : LB (w.drewN n) g G st ring arr run first last := h
theorem LB.s7 (h : LB w g G st ring arr run first last) (v : Int) : LB (w.setCell ⟨g, 7, none⟩ (.int .i64 v)) g G v ring arr run first last := Blk.set_ h 7 _
theorem LB.s9 (h : LB w g G st ring arr run first last) (v : Int) : LB (w.setCell ⟨g, 9, none⟩ (.int .i64 v)) g G st ring v run first last := Blk.set_ h 9 _
theorem LB.s10 (h : LB w g G st ring arr run first last) (v : Int) : LB (w.setCell ⟨g, 10, none⟩ (.int .i64 v)) g G st ring arr v first last := Blk.set_ h 10 _
theorem LB.s11 (h : LB w g G st ring arr run first last) (v : Int) : LB (w.setCell ⟨g, 11, none⟩ (.int .i64 v)) g G st ring arr run v last := Blk.set_ h 11 _
theorem LB.s12 (h : LB w g G st ring arr run first last) (v : Int) : LB (w.setCell ⟨g, 12, none⟩ (.int .i64 v)) g G st ring arr run first v := Blk.set_ h 12 _
end

theorem ret_sl {g o o' n n' c c' : Nat} (h1 : o = o') (h2 : n = n') (h3 : c = c') : Ending.returned (.slice (some ⟨g, o, none⟩) n c) = .returned (.slice (some ⟨g, o', none⟩) n' c') := by rw [h1, h2, h3]

theorem isMissing_nil (w : World) : Calls Tryz.prog 144 #[.pointer none] w fun e w' => e = .returned (.bool true) ∧ w = w' := by
  go_enter Tryz.func144, Tryz.ntmps144
  go_wp2
  go_ret
  exact ⟨rfl, rfl⟩
theorem isMissing_any (g : Nat) (w : World) (G : Gt) (st : Int) (ring : Value) (arr run first last : Int) (h : LB w g G st ring arr run first last) :
    Calls Tryz.prog 144 #[.pointer (some ⟨g, 0, none⟩)] w fun e w' => e = .returned (.bool (decide (st = 0))) ∧ w = w' := by
  have c7 := h.c7
  by_cases h0 : st = 0
  · have hd := Lib.hid (decide_eq_true h0)
    have h1 : (st == 0) = true := by simpa using h0
    clear h0
    go_enter Tryz.func144, Tryz.ntmps144
    go_wp2
    go_ret
    exact ⟨ret_bool hd.out.symm, rfl⟩
  · have hd := Lib.hid (decide_eq_false h0)
    have h1 : (st == 0) = false := by simpa using h0
    clear h0
    go_enter Tryz.func144, Tryz.ntmps144
    go_wp2
    go_ret
    exact ⟨ret_bool hd.out.symm, rfl⟩

set_option maxHeartbeats 400000 in
theorem block_any (g gr b : Nat) (w : World) (G : Gt) (hG : G.Ok) (st : Int) (arr run first last : Int) (h : LB w g G st (.slice (some ⟨gr, 0, none⟩) (2 * G.B) (2 * G.B)) arr run first last) (hb : b ≤ 4000000000) :
    Calls Tryz.prog 179 #[.pointer (some ⟨g, 0, none⟩), .int .i64 (b : Int)] w fun e w' => e = .returned (.slice (some ⟨gr, b % 2 * G.B, none⟩) G.B G.B) ∧ w = w' := by
  have c0 := h.c0
  have c8 := h.c8
  have hb1 := hG.b1
  have hb2 := hG.b2
  have e1 : (b : Int) % 2 = ((b % 2 : Nat) : Int) := by omega
  rcases (show b % 2 = 0 ∨ b % 2 = 1 by omega) with hm | hm
  all_goals
    rw [hm] at e1 ⊢
    clear hm
    go_enter Tryz.func179, Tryz.ntmps179
    go_wp2
    go_ret
    exact ⟨ret_sl (by omega) (by omega) (by omega), rfl⟩

/-- what a block does while waiting -/
structure AwRel (G : Gt) (g gr : Nat) (b : Int) (loud : Bool) (m : Ms) (ring : Value) (arr : Int) (w w' : World) : Prop where
  lb : LB w' g G (awt G b loud m).st ring arr (awt G b loud m).run (awt G b loud m).first (awt G b loud m).last
  two : Two g gr w w'
theorem awt_no {G : Gt} {b : Int} {m : Ms} (hs : m.sp = false) : awt G b false m = ⟨false, 0, m.first, m.last⟩ := by unfold awt; rw [hs]; rfl
theorem awt_more {G : Gt} {b : Int} {m : Ms} (hs : m.sp = false) (h : m.run + 1 ≠ G.R) : awt G b true m = ⟨false, m.run + 1, m.first, m.last⟩ := by unfold awt; rw [if_neg h, hs]; rfl
theorem awt_yes {G : Gt} {b : Int} {m : Ms} (h : m.run + 1 = G.R) : awt G b true m = ⟨true, 0, max (b - G.R + 1 - G.D) m.last, m.last⟩ := by unfold awt; rw [if_pos h]; rfl

set_option maxHeartbeats 1600000 in
set_option maxRecDepth 100000 in
theorem await_any (g gr : Nat) (b : Int) (loud : Bool) (w : World) (G : Gt) (hG : G.Ok) (m : Ms) (ring : Value) (arr : Int) (hs : m.sp = false) (hm : m.Bd b) (hb : b ≤ 4000000000) (h : LB w g G 1 ring arr m.run m.first m.last) :
    Calls Tryz.prog 181 #[.pointer (some ⟨g, 0, none⟩), .int .i64 b, .bool loud] w fun e w' => e = .returned (.tuple #[]) ∧ AwRel G g gr b loud m ring arr w w' := by
  obtain ⟨hm1, hm2, hm3, hm4, hm5, hm6⟩ := hm
  cases loud with
  | false =>
    have ha := Lib.hid (awt_no (G := G) (b := b) hs)
    have f10 := h.fz 10
    have c10 := h.c10
    go_enter Tryz.func181, Tryz.ntmps181
    go_wp2
    refine bodyPost_ret (results_none rfl _ _ _) rfl ?_
    exact ⟨rfl, ⟨by rw [ha.out]; exact h.s10 0, (Two.refl _ _ _).set_ _ _⟩⟩
  | true =>
    have c3 := h.c3
    have c10 := h.c10
    have f10 := h.fz 10
    by_cases hr : m.run + 1 = G.R
    · have ha := Lib.hid (awt_yes (b := b) hr)
      have hG1 := hG.r1
      have hG2 := hG.r2
      have hG3 := hG.d1
      have hG4 := hG.d2
      have hr1 : ((m.run + 1) == G.R) = true := by rw [beq_iff_eq]; exact hr
      clear hr
      go_enter Tryz.func181, Tryz.ntmps181
      go_wp2
      go_quiet (fail)
      have hL1 := (h.s10 (m.run + 1)).drewN nq
      have hT1 := ((Two.refl g gr w).set_ 10 (.int .i64 (m.run + 1))).drewN nq
      generalize (w.setCell ⟨g, 10, none⟩ (.int .i64 (m.run + 1))).drewN nq = w1 at *
      have f7 := hL1.fz 7
      have c7 := hL1.c7
      have d10 := hL1.c10
      have g10 := hL1.fz 10
      go_wp2
      have hL2 := (hL1.s7 2).s10 0
      have hT2 := (hT1.set_ 7 (.int .i64 2)).set_ 10 (.int .i64 0)
      clear f7 c7 d10 g10 f10 c10 c3
      generalize ((w1.setCell ⟨g, 7, none⟩ (.int .i64 2)).setCell ⟨g, 10, none⟩ (.int .i64 0)) = w2 at *
      have c3 := hL2.c3
      have c5 := hL2.c5
      have c11 := hL2.c11
      have c12 := hL2.c12
      have f11 := hL2.fz 11
      have e1 : IntKind.i64.wrap (b - G.R) = b - G.R := IntWalk.i64_in _ (by omega)
      have e2 : IntKind.i64.wrap (b - G.R + 1) = b - G.R + 1 := IntWalk.i64_in _ (by omega)
      have e3 : IntKind.i64.wrap (b - G.R + 1 - G.D) = b - G.R + 1 - G.D := IntWalk.i64_in _ (by omega)
      rcases (show b - G.R + 1 - G.D ≤ m.last ∨ m.last < b - G.R + 1 - G.D by omega) with hmx | hmx
      all_goals
        go_still_tail 22, (by kernel_rfl)
        change wpList _ _ _ _ _ w2.drew
        clear e1 e2 e3
        have hL3 := hL2.drewN 1
        have hT3 := hT2.drewN 1
        have c11' := hL3.c11
        have f11' := hL3.fz 11
        change wpList _ _ _ _ _ (w2.drewN 1)
        generalize w2.drewN 1 = w3 at *
        go_wp2
        all_goals
          go_end0
          exact ⟨rfl, ⟨by rw [ha.out]; first | (rw [show max (b - G.R + 1 - G.D) m.last = m.last by omega]; exact hL3.s11 _) | (rw [show max (b - G.R + 1 - G.D) m.last = b - G.R + 1 - G.D by omega]; exact hL3.s11 _), hT3.set_ 11 _⟩⟩
    · have ha := Lib.hid (awt_more (b := b) hs hr)
      have hr1 : ((m.run + 1) == G.R) = false := by rw [beq_eq_false_iff_ne]; exact hr
      clear hr
      go_enter Tryz.func181, Tryz.ntmps181
      go_wp2
      go_quiet (fail)
      go_wp2
      go_end0
      exact ⟨rfl, ⟨by rw [ha.out]; exact (h.s10 _).drewN _, ((Two.refl _ _ _).set_ _ _).drewN _⟩⟩

/-- what a block does in speech: the run is stored, the rest stays -/
structure FoRel (G : Gt) (g gr : Nat) (m : Ms) (quiet : Bool) (ring : Value) (arr : Int) (w w' : World) : Prop where
  lb : LB w' g G 2 ring arr (frun quiet m) m.first m.last
  two : Two g gr w w'
/-- the end that follow returns -/
def foEnd (G : Gt) (b : Int) (quiet : Bool) (m : Ms) : Int := if fend G b quiet m = -1 then 0 else fend G b quiet m
def foIs (G : Gt) (b : Int) (quiet : Bool) (m : Ms) : Bool := !decide (fend G b quiet m = -1)
theorem fo_fall {G : Gt} {b : Int} {q : Bool} {m : Ms} (h : frun q m = G.F) (hb : b - G.F + 1 ≠ -1) : foEnd G b q m = b - G.F + 1 ∧ foIs G b q m = true := by
  have : fend G b q m = b - G.F + 1 := if_pos h
  unfold foEnd foIs
  rw [this, if_neg hb, decide_eq_false hb]
  exact ⟨rfl, rfl⟩
theorem fo_long {G : Gt} {b : Int} {q : Bool} {m : Ms} (h : frun q m ≠ G.F) (h2 : b + 1 - m.first = G.X) (hb : 0 ≤ b) : foEnd G b q m = b + 1 ∧ foIs G b q m = true := by
  have : fend G b q m = b + 1 := by unfold fend; rw [if_neg h, if_pos h2]
  unfold foEnd foIs
  rw [this, if_neg (by omega), decide_eq_false (by omega)]
  exact ⟨rfl, rfl⟩
theorem fo_none {G : Gt} {b : Int} {q : Bool} {m : Ms} (h : frun q m ≠ G.F) (h2 : b + 1 - m.first ≠ G.X) : foEnd G b q m = 0 ∧ foIs G b q m = false := by
  have : fend G b q m = -1 := by unfold fend; rw [if_neg h, if_neg h2]
  unfold foEnd foIs
  rw [this]
  exact ⟨rfl, rfl⟩

end Go.Proofs.YtoljffghaklpdaaGreatDoor


/- The listener in speech. -/
namespace Go.Proofs.YtoljffghaklpdaaGreatDoor
open Go.RowKit

set_option maxHeartbeats 1600000 in
set_option maxRecDepth 100000 in
theorem follow_true_fall (g gr : Nat) (b : Int) (w : World) (G : Gt) (hG : G.Ok) (m : Ms) (ring : Value) (arr : Int) (hm : m.Bd b) (hb : b ≤ 4000000000) (h : LB w g G 2 ring arr m.run m.first m.last) (hF : frun true m = G.F) :
    Calls Tryz.prog 182 #[.pointer (some ⟨g, 0, none⟩), .int .i64 b, .bool true] w fun e w' => e = .returned (.tuple #[.int .i64 (foEnd G b true m), .bool (foIs G b true m)]) ∧ FoRel G g gr m true ring arr w w' := by
  have hfr := (frun_bd (q := true) hm).2
  obtain ⟨hm1, hm2, hm3, hm4, hm5, hm6⟩ := hm
  have hG1 := hG.f1
  have hG2 := hG.f2
  have c10 := h.c10
  have f10 := h.fz 10
  have hfo := fo_fall (b := b) hF (by omega)
  clear hfr
  have ho1 := Lib.hid hfo.1
  have ho2 := Lib.hid hfo.2
  clear hfo
  have hq := Lib.hid (show frun true m = m.run + 1 from rfl)
  rw [hq.out] at hF
  have hF1 : ((m.run + 1 : Int) == G.F) = true := beq_iff_eq.2 hF
  clear hF
  go_enter Tryz.func182, Tryz.ntmps182
  go_wp2
  have hL1 := h.s10 (m.run + 1)
  have hT1 := (Two.refl g gr w).set_ 10 (.int .i64 (m.run + 1))
  clear c10 f10
  generalize w.setCell ⟨g, 10, none⟩ (.int .i64 (m.run + 1)) = w1 at *
  have c10 := hL1.c10
  have c4 := hL1.c4
  go_quiet (fail)
  have hL2 := hL1.drewN nq
  have hT2 := hT1.drewN nq
  clear c10 c4
  generalize w1.drewN nq = w2 at *
  have c4 := hL2.c4
  go_wp2
  go_ret2
  exact ⟨by rw [ho1.out, ho2.out]; rfl, ⟨by rw [hq.out]; exact hL2, hT2⟩⟩

set_option maxHeartbeats 1600000 in
set_option maxRecDepth 100000 in
theorem follow_true_long (g gr : Nat) (b : Int) (w : World) (G : Gt) (hG : G.Ok) (m : Ms) (ring : Value) (arr : Int) (hm : m.Bd b) (hb : b ≤ 4000000000) (h : LB w g G 2 ring arr m.run m.first m.last) (hF : frun true m ≠ G.F) (hX : b + 1 - m.first = G.X) :
    Calls Tryz.prog 182 #[.pointer (some ⟨g, 0, none⟩), .int .i64 b, .bool true] w fun e w' => e = .returned (.tuple #[.int .i64 (foEnd G b true m), .bool (foIs G b true m)]) ∧ FoRel G g gr m true ring arr w w' := by
  obtain ⟨hm1, hm2, hm3, hm4, hm5, hm6⟩ := hm
  have hG1 := hG.f1
  have hG2 := hG.f2
  have c10 := h.c10
  have f10 := h.fz 10
  have hfo := fo_long hF hX (by omega)
  have ho1 := Lib.hid hfo.1
  have ho2 := Lib.hid hfo.2
  clear hfo
  have hq := Lib.hid (show frun true m = m.run + 1 from rfl)
  rw [hq.out] at hF
  have hF1 : ((m.run + 1 : Int) == G.F) = false := beq_eq_false_iff_ne.2 hF
  clear hF
  have hX1 : ((b + 1 - m.first) == G.X) = true := beq_iff_eq.2 hX
  clear hX
  go_enter Tryz.func182, Tryz.ntmps182
  go_wp2
  have hL1 := h.s10 (m.run + 1)
  have hT1 := (Two.refl g gr w).set_ 10 (.int .i64 (m.run + 1))
  clear c10 f10
  generalize w.setCell ⟨g, 10, none⟩ (.int .i64 (m.run + 1)) = w1 at *
  have c10 := hL1.c10
  have c4 := hL1.c4
  go_quiet (fail)
  have hL2 := hL1.drewN nq
  have hT2 := hT1.drewN nq
  clear c10 c4
  generalize w1.drewN nq = w2 at *
  have c4 := hL2.c4
  have c6 := hL2.c6
  have c11 := hL2.c11
  have e1 : IntKind.i64.wrap (b + 1) = b + 1 := IntWalk.i64_in _ (by omega)
  have e2 : IntKind.i64.wrap (b + 1 - m.first) = b + 1 - m.first := IntWalk.i64_in _ (by omega)
  go_wp2
  go_quiet (fail)
  clear e1 e2
  go_wp2
  go_ret2
  exact ⟨by rw [ho1.out, ho2.out]; rfl, ⟨by rw [hq.out]; exact hL2.drewN _, hT2.drewN _⟩⟩

set_option maxHeartbeats 1600000 in
set_option maxRecDepth 100000 in
theorem follow_true_none (g gr : Nat) (b : Int) (w : World) (G : Gt) (hG : G.Ok) (m : Ms) (ring : Value) (arr : Int) (hm : m.Bd b) (hb : b ≤ 4000000000) (h : LB w g G 2 ring arr m.run m.first m.last) (hF : frun true m ≠ G.F) (hX : b + 1 - m.first ≠ G.X) :
    Calls Tryz.prog 182 #[.pointer (some ⟨g, 0, none⟩), .int .i64 b, .bool true] w fun e w' => e = .returned (.tuple #[.int .i64 (foEnd G b true m), .bool (foIs G b true m)]) ∧ FoRel G g gr m true ring arr w w' := by
  obtain ⟨hm1, hm2, hm3, hm4, hm5, hm6⟩ := hm
  have hG1 := hG.f1
  have hG2 := hG.f2
  have c10 := h.c10
  have f10 := h.fz 10
  have hfo := fo_none hF hX
  have ho1 := Lib.hid hfo.1
  have ho2 := Lib.hid hfo.2
  clear hfo
  have hq := Lib.hid (show frun true m = m.run + 1 from rfl)
  rw [hq.out] at hF
  have hF1 : ((m.run + 1 : Int) == G.F) = false := beq_eq_false_iff_ne.2 hF
  clear hF
  have hX1 : ((b + 1 - m.first) == G.X) = false := beq_eq_false_iff_ne.2 hX
  clear hX
  go_enter Tryz.func182, Tryz.ntmps182
  go_wp2
  have hL1 := h.s10 (m.run + 1)
  have hT1 := (Two.refl g gr w).set_ 10 (.int .i64 (m.run + 1))
  clear c10 f10
  generalize w.setCell ⟨g, 10, none⟩ (.int .i64 (m.run + 1)) = w1 at *
  have c10 := hL1.c10
  have c4 := hL1.c4
  go_quiet (fail)
  have hL2 := hL1.drewN nq
  have hT2 := hT1.drewN nq
  clear c10 c4
  generalize w1.drewN nq = w2 at *
  have c4 := hL2.c4
  have c6 := hL2.c6
  have c11 := hL2.c11
  have e1 : IntKind.i64.wrap (b + 1) = b + 1 := IntWalk.i64_in _ (by omega)
  have e2 : IntKind.i64.wrap (b + 1 - m.first) = b + 1 - m.first := IntWalk.i64_in _ (by omega)
  go_wp2
  go_quiet (fail)
  clear e1 e2
  go_wp2
  go_ret2
  exact ⟨by rw [ho1.out, ho2.out]; rfl, ⟨by rw [hq.out]; exact hL2.drewN _, hT2.drewN _⟩⟩

set_option maxHeartbeats 1600000 in
set_option maxRecDepth 100000 in
theorem follow_false_fall (g gr : Nat) (b : Int) (w : World) (G : Gt) (hG : G.Ok) (m : Ms) (ring : Value) (arr : Int) (hm : m.Bd b) (hb : b ≤ 4000000000) (h : LB w g G 2 ring arr m.run m.first m.last) (hF : frun false m = G.F) :
    Calls Tryz.prog 182 #[.pointer (some ⟨g, 0, none⟩), .int .i64 b, .bool false] w fun e w' => e = .returned (.tuple #[.int .i64 (foEnd G b false m), .bool (foIs G b false m)]) ∧ FoRel G g gr m false ring arr w w' := by
  have hfr := (frun_bd (q := false) hm).2
  obtain ⟨hm1, hm2, hm3, hm4, hm5, hm6⟩ := hm
  have hG1 := hG.f1
  have hG2 := hG.f2
  have c10 := h.c10
  have f10 := h.fz 10
  have hfo := fo_fall (b := b) hF (by omega)
  clear hfr
  have ho1 := Lib.hid hfo.1
  have ho2 := Lib.hid hfo.2
  clear hfo
  have hq := Lib.hid (show frun false m = 0 from rfl)
  rw [hq.out] at hF
  have hF1 : ((0 : Int) == G.F) = true := beq_iff_eq.2 hF
  clear hF
  go_enter Tryz.func182, Tryz.ntmps182
  go_wp2
  have hL1 := h.s10 (0)
  have hT1 := (Two.refl g gr w).set_ 10 (.int .i64 (0))
  clear c10 f10
  generalize w.setCell ⟨g, 10, none⟩ (.int .i64 (0)) = w1 at *
  have c10 := hL1.c10
  have c4 := hL1.c4
  go_quiet (fail)
  have hL2 := hL1.drewN nq
  have hT2 := hT1.drewN nq
  clear c10 c4
  generalize w1.drewN nq = w2 at *
  have c4 := hL2.c4
  go_wp2
  go_ret2
  exact ⟨by rw [ho1.out, ho2.out]; rfl, ⟨by rw [hq.out]; exact hL2, hT2⟩⟩

set_option maxHeartbeats 1600000 in
set_option maxRecDepth 100000 in
theorem follow_false_long (g gr : Nat) (b : Int) (w : World) (G : Gt) (hG : G.Ok) (m : Ms) (ring : Value) (arr : Int) (hm : m.Bd b) (hb : b ≤ 4000000000) (h : LB w g G 2 ring arr m.run m.first m.last) (hF : frun false m ≠ G.F) (hX : b + 1 - m.first = G.X) :
    Calls Tryz.prog 182 #[.pointer (some ⟨g, 0, none⟩), .int .i64 b, .bool false] w fun e w' => e = .returned (.tuple #[.int .i64 (foEnd G b false m), .bool (foIs G b false m)]) ∧ FoRel G g gr m false ring arr w w' := by
  obtain ⟨hm1, hm2, hm3, hm4, hm5, hm6⟩ := hm
  have hG1 := hG.f1
  have hG2 := hG.f2
  have c10 := h.c10
  have f10 := h.fz 10
  have hfo := fo_long hF hX (by omega)
  have ho1 := Lib.hid hfo.1
  have ho2 := Lib.hid hfo.2
  clear hfo
  have hq := Lib.hid (show frun false m = 0 from rfl)
  rw [hq.out] at hF
  have hF1 : ((0 : Int) == G.F) = false := beq_eq_false_iff_ne.2 hF
  clear hF
  have hX1 : ((b + 1 - m.first) == G.X) = true := beq_iff_eq.2 hX
  clear hX
  go_enter Tryz.func182, Tryz.ntmps182
  go_wp2
  have hL1 := h.s10 (0)
  have hT1 := (Two.refl g gr w).set_ 10 (.int .i64 (0))
  clear c10 f10
  generalize w.setCell ⟨g, 10, none⟩ (.int .i64 (0)) = w1 at *
  have c10 := hL1.c10
  have c4 := hL1.c4
  go_quiet (fail)
  have hL2 := hL1.drewN nq
  have hT2 := hT1.drewN nq
  clear c10 c4
  generalize w1.drewN nq = w2 at *
  have c4 := hL2.c4
  have c6 := hL2.c6
  have c11 := hL2.c11
  have e1 : IntKind.i64.wrap (b + 1) = b + 1 := IntWalk.i64_in _ (by omega)
  have e2 : IntKind.i64.wrap (b + 1 - m.first) = b + 1 - m.first := IntWalk.i64_in _ (by omega)
  go_wp2
  go_quiet (fail)
  clear e1 e2
  go_wp2
  go_ret2
  exact ⟨by rw [ho1.out, ho2.out]; rfl, ⟨by rw [hq.out]; exact hL2.drewN _, hT2.drewN _⟩⟩

set_option maxHeartbeats 1600000 in
set_option maxRecDepth 100000 in
theorem follow_false_none (g gr : Nat) (b : Int) (w : World) (G : Gt) (hG : G.Ok) (m : Ms) (ring : Value) (arr : Int) (hm : m.Bd b) (hb : b ≤ 4000000000) (h : LB w g G 2 ring arr m.run m.first m.last) (hF : frun false m ≠ G.F) (hX : b + 1 - m.first ≠ G.X) :
    Calls Tryz.prog 182 #[.pointer (some ⟨g, 0, none⟩), .int .i64 b, .bool false] w fun e w' => e = .returned (.tuple #[.int .i64 (foEnd G b false m), .bool (foIs G b false m)]) ∧ FoRel G g gr m false ring arr w w' := by
  obtain ⟨hm1, hm2, hm3, hm4, hm5, hm6⟩ := hm
  have hG1 := hG.f1
  have hG2 := hG.f2
  have c10 := h.c10
  have f10 := h.fz 10
  have hfo := fo_none hF hX
  have ho1 := Lib.hid hfo.1
  have ho2 := Lib.hid hfo.2
  clear hfo
  have hq := Lib.hid (show frun false m = 0 from rfl)
  rw [hq.out] at hF
  have hF1 : ((0 : Int) == G.F) = false := beq_eq_false_iff_ne.2 hF
  clear hF
  have hX1 : ((b + 1 - m.first) == G.X) = false := beq_eq_false_iff_ne.2 hX
  clear hX
  go_enter Tryz.func182, Tryz.ntmps182
  go_wp2
  have hL1 := h.s10 (0)
  have hT1 := (Two.refl g gr w).set_ 10 (.int .i64 (0))
  clear c10 f10
  generalize w.setCell ⟨g, 10, none⟩ (.int .i64 (0)) = w1 at *
  have c10 := hL1.c10
  have c4 := hL1.c4
  go_quiet (fail)
  have hL2 := hL1.drewN nq
  have hT2 := hT1.drewN nq
  clear c10 c4
  generalize w1.drewN nq = w2 at *
  have c4 := hL2.c4
  have c6 := hL2.c6
  have c11 := hL2.c11
  have e1 : IntKind.i64.wrap (b + 1) = b + 1 := IntWalk.i64_in _ (by omega)
  have e2 : IntKind.i64.wrap (b + 1 - m.first) = b + 1 - m.first := IntWalk.i64_in _ (by omega)
  go_wp2
  go_quiet (fail)
  clear e1 e2
  go_wp2
  go_ret2
  exact ⟨by rw [ho1.out, ho2.out]; rfl, ⟨by rw [hq.out]; exact hL2.drewN _, hT2.drewN _⟩⟩

theorem follow_any (g gr : Nat) (b : Int) (quiet : Bool) (w : World) (G : Gt) (hG : G.Ok) (m : Ms) (ring : Value) (arr : Int) (hm : m.Bd b) (hb : b ≤ 4000000000) (h : LB w g G 2 ring arr m.run m.first m.last) :
    Calls Tryz.prog 182 #[.pointer (some ⟨g, 0, none⟩), .int .i64 b, .bool quiet] w fun e w' => e = .returned (.tuple #[.int .i64 (foEnd G b quiet m), .bool (foIs G b quiet m)]) ∧ FoRel G g gr m quiet ring arr w w' := by
  by_cases hF : frun quiet m = G.F
  · cases quiet with
    | true => exact follow_true_fall g gr b w G hG m ring arr hm hb h hF
    | false => exact follow_false_fall g gr b w G hG m ring arr hm hb h hF
  · by_cases hX : b + 1 - m.first = G.X
    · cases quiet with
      | true => exact follow_true_long g gr b w G hG m ring arr hm hb h hF hX
      | false => exact follow_false_long g gr b w G hG m ring arr hm hb h hF hX
    · cases quiet with
      | true => exact follow_true_none g gr b w G hG m ring arr hm hb h hF hX
      | false => exact follow_false_none g gr b w G hG m ring arr hm hb h hF hX
end Go.Proofs.YtoljffghaklpdaaGreatDoor


/- A block that has just become complete. -/
namespace Go.Proofs.YtoljffghaklpdaaGreatDoor
open Go.RowKit

theorem Mk.part {w : World} {g : Nat} {t : TypeId} {k : IntKind} {rs : List Int} (h : Mk w g t k rs) {o n : Nat} (hn : o + n ≤ rs.length) (ht : n ≤ 140737488355328) : Sl k w (some ⟨g, o, none⟩) n n ((rs.drop o).take n) :=
  ⟨by simp; omega, Nat.le_refl _, by omega, fun _ => ⟨_, rfl, fun j x hx => by
    have hj : j < n := by have := lt_of_some hx; simp at this; omega
    rw [List.getElem?_take, if_pos hj, List.getElem?_drop] at hx
    have hc := h.cell (i := o + j) (by omega)
    rw [getD_in (by omega)] at hc
    rw [List.getElem?_eq_getElem (by omega)] at hx
    injection hx with hx
    subst hx
    have e : (⟨g, o, none⟩ : Addr).add j = ⟨g, o + j, none⟩ := by
      unfold Addr.add
      split
      · subst j; rfl
      · rfl
    rw [e]; exact hc⟩⟩
theorem Two.widen {g gr : Nat} {a b : World} (h : Two g g a b) : Two g gr a b := ⟨h.os, h.tape, h.output, h.size, fun k hk h1 _ => h.block k hk h1 h1⟩

theorem load_seg {g : Nat} {W : World} {a b : Value} (h : Blk W g 61 #[a, b]) : (loadVar 61 ⟨g, 0, none⟩).run Tryz.prog W = .ok (.agg #[a, b]) W := by
  have q0 : W.cell? ⟨g, 0, none⟩ = some a := h.cell 0
  have q1 : W.cell? ⟨g, 1, none⟩ = some b := h.cell 1
  simp [go_sem, q0, q1]
theorem ret_seg2 {fn : Func} {R : Ending → World → Prop} {act : Act} {W : World} {g p u : Nat} {a b : Value} (hr : fn.results = #[.cell p 61, .tmp u]) (hs : act.tmps.getD p undef = .pointer (some ⟨g, 0, none⟩))
    (hB : Blk W g 61 #[a, b]) (hd : act.defers = []) (hR : R (.returned (.tuple #[.agg #[a, b], act.tmps.getD u undef])) W) : bodyPost Tryz.prog fn R .ret act W :=
  bodyPost_ret (v := .tuple #[.agg #[a, b], act.tmps.getD u undef]) (by rw [results_cell_tmp hr, hs]; simp [asAddr, load_seg hB]) hd hR

/-- what hear returns -/
def heVal : List (Int × Int) → Value
  | [] => .tuple #[.agg #[.int .i64 0, .int .i64 0], .bool false]
  | p :: _ => .tuple #[.agg #[.int .i64 p.1, .int .i64 p.2], .bool true]
structure HeRel (G : Gt) (g gr : Nat) (b E : Int) (m : Ms) (ring : Value) (arr : Int) (rs : List Int) (w w' : World) : Prop where
  lb : LB w' g G (hearM G b E m).st ring arr (hearM G b E m).run (hearM G b E m).first (hearM G b E m).last
  ring : Mk w' gr 3 .i64 rs
  two : Two g gr w w'

theorem hear_wait {G : Gt} {b E : Int} {m : Ms} (hs : m.sp = false) : hearM G b E m = awt G b (decide (G.H * G.B ≤ E)) m ∧ hearS G b E m = [] := by
  unfold hearM hearS; rw [hs]; exact ⟨rfl, rfl⟩
theorem hear_on {G : Gt} {b E : Int} {m : Ms} (hs : m.sp = true) (h : foIs G b (decide (E < G.L * G.B)) m = false) :
    hearM G b E m = ⟨true, frun (decide (E < G.L * G.B)) m, m.first, m.last⟩ ∧ hearS G b E m = [] := by
  have h2 : fend G b (decide (E < G.L * G.B)) m = -1 := by unfold foIs at h; simpa using h
  unfold hearM hearS; rw [hs, h2]; exact ⟨rfl, rfl⟩
theorem hear_end {G : Gt} {b E : Int} {m : Ms} (hs : m.sp = true) (h : foIs G b (decide (E < G.L * G.B)) m = true) :
    hearM G b E m = ⟨false, 0, m.first, foEnd G b (decide (E < G.L * G.B)) m⟩ ∧ hearS G b E m = [(m.first * G.B, foEnd G b (decide (E < G.L * G.B)) m * G.B)] := by
  have h2 : ¬ fend G b (decide (E < G.L * G.B)) m = -1 := by unfold foIs at h; simpa using h
  have h3 : foEnd G b (decide (E < G.L * G.B)) m = fend G b (decide (E < G.L * G.B)) m := by unfold foEnd; rw [if_neg h2]
  unfold hearM hearS; rw [hs, h3, if_pos rfl, if_pos rfl, if_neg h2, if_neg h2]; exact ⟨rfl, rfl⟩

set_option maxHeartbeats 1600000 in
set_option maxRecDepth 100000 in
theorem hear_any (g gr b : Nat) (w : World) (G : Gt) (hG : G.Ok) (m : Ms) (arr : Int) (rs ys : List Int) (hm : m.Bd (b : Int)) (hb : b ≤ 4000000000)
    (h : LB w g G m.st (.slice (some ⟨gr, 0, none⟩) (2 * G.B) (2 * G.B)) arr m.run m.first m.last) (hR : Mk w gr 3 .i64 rs) (hne : gr ≠ g) (hrl : rs.length = 2 * G.B) (hy : (rs.drop (b % 2 * G.B)).take G.B = ys)
    (hyb : ∀ y ∈ ys, -32768 ≤ y ∧ y ≤ 32768) :
    Calls Tryz.prog 146 #[.pointer (some ⟨g, 0, none⟩), .int .i64 (b : Int)] w fun e w' => e = .returned (heVal (hearS G b (eng ys) m)) ∧ HeRel G g gr b (eng ys) m (.slice (some ⟨gr, 0, none⟩) (2 * G.B) (2 * G.B)) arr rs w w' := by
  have hglt := Blk.lt h
  have hrlt := hR.lt
  have hb1 := hG.b1
  have hb2 := hG.b2
  have hh1 := hG.h1
  have hh2 := hG.h2
  have hl1 := hG.l1
  have hl2 := hG.l2
  have hyl : ys.length = G.B := by
    rw [← hy, List.length_take, List.length_drop, hrl]
    rcases (show b % 2 = 0 ∨ b % 2 = 1 by omega) with e | e <;> rw [e] <;> omega
  have hE := eng_bd (m := 32768) ys hyb
  rw [hyl] at hE
  have hE1 := hE.1
  have hE2 : eng ys ≤ 4398046511104 := by have := hE.2; omega
  have hHB := mul_bd (a := (G.B : Int)) (b := G.H) (m := 4096) (q := 1073741824) (by omega) (by omega) (by omega) hh2 (by omega)
  have hLB := mul_bd (a := (G.B : Int)) (b := G.L) (m := 4096) (q := 1073741824) (by omega) (by omega) (by omega) (by omega) (by omega)
  rw [Int.mul_comm (G.B : Int) G.H] at hHB
  rw [Int.mul_comm (G.B : Int) G.L] at hLB
  have hHB1 := hHB.1
  have hHB2 := hHB.2
  have hLB1 := hLB.1
  have hLB2 := hLB.2
  clear hE hHB hLB
  have hL0 : LB (w.alloc (.cells #[.int .i64 0, .int .i64 0] 61)) g G m.st (.slice (some ⟨gr, 0, none⟩) (2 * G.B) (2 * G.B)) arr m.run m.first m.last := Blk.alloc h _
  have hR0 := hR.alloc (.cells #[.int .i64 0, .int .i64 0] 61)
  have hZ0 := Blk.new w 61 #[.int .i64 0, .int .i64 0]
  have hT0 := (Two.refl g gr w).alloc (.cells #[.int .i64 0, .int .i64 0] 61)
  have hsz0 : w.heap.size < (w.alloc (.cells #[.int .i64 0, .int .i64 0] 61)).heap.size := by simp
  have hS0 := hR0.part (o := b % 2 * G.B) (n := G.B) (by rw [hrl]; rcases (show b % 2 = 0 ∨ b % 2 = 1 by omega) with e | e <;> rw [e] <;> omega) (by omega)
  rw [hy] at hS0
  have hyb := Lib.hid hyb
  clear hyl hy
  have hrl := Lib.hid hrl
  go_enter Tryz.func146, Tryz.ntmps146
  go_wp2_with fail
  generalize w.alloc (.cells #[.int .i64 0, .int .i64 0] 61) = w1 at *
  refine (block_any _ _ _ _ _ hG _ _ _ _ _ hL0 hb).mono ?_
  rintro e w' ⟨rfl, rfl⟩
  go_wp2_with fail
  refine (energy_any _ _ _ _ _ hS0 (by omega) (fun x hx => by have := hyb.out x hx; omega)).mono ?_
  rintro e w' ⟨rfl, rfl⟩
  generalize hEE : eng ys = E at *
  have hEE := Lib.hid hEE
  cases hs : m.sp with
  | false =>
    have hst : m.st = 1 := by unfold Ms.st; rw [hs]; rfl
    have hw := hear_wait (G := G) (b := b) (E := E) hs
    have hw1 := Lib.hid hw.1
    have hw2 := Lib.hid hw.2
    clear hw
    rw [hst] at hL0 h
    clear hst
    have c7 := hL0.c7
    have c0 := hL0.c0
    have c1 := hL0.c1
    have hs := Lib.hid hs
    go_wp2
    have e1 : IntKind.i64.wrap (G.H * (G.B : Int)) = G.H * (G.B : Int) := IntWalk.i64_in _ (by omega)
    go_still_tail 15, (by kernel_rfl)
    change wpList _ _ _ _ _ (w1.drewN 1)
    clear e1 c7 c0 c1
    have hL1 := hL0.drewN 1
    have hR1 := hR0.drewN 1
    have hZ1 := hZ0.drewN 1
    have hT1 := hT0.drewN 1
    have hsz1 : w.heap.size < (w1.drewN 1).heap.size := hsz0
    generalize w1.drewN 1 = w2 at *
    go_wp2_with fail
    refine (await_any g g b _ _ G hG m _ _ hs.out hm (by omega) hL1).mono ?_
    rintro e w3 ⟨rfl, hA⟩
    have hZ3 := hA.two.blk hZ1 (by omega) (by omega)
    have hR3 := hA.two.mk_ hR1 hne hne
    have c0 := hZ3.cell 0
    have c1 := hZ3.cell 1
    have f0 := hZ3.frozen 0
    have f1 := hZ3.frozen 1
    go_wp2
    refine ret_seg2 rfl rfl ((hZ3.set_ 0 _).set_ 1 _) rfl ⟨by rw [hEE.out, hw2.out]; rfl, ⟨?_, ?_, ?_⟩⟩
    · rw [hEE.out, hw1.out]
      exact Blk.far (Blk.far hA.lb (by simp; omega) _) (by simp; omega) _
    · exact (hR3.far (by simp; omega) _).far (by simp; omega) _
    · exact ((hT1.trans hA.two.widen).setn (p := ⟨w.heap.size, 0, none⟩) (by simp) _).setn (p := ⟨w.heap.size, 1, none⟩) (by simp) _
  | true =>
    have hst : m.st = 2 := by unfold Ms.st; rw [hs]; rfl
    rw [hst] at hL0 h
    clear hst
    have c7 := hL0.c7
    have c0 := hL0.c0
    have c2 := hL0.c2
    have hs := Lib.hid hs
    have hfd := Lib.hid (fend_bd (q := decide (E < G.L * G.B)) hG hm)
    go_wp2
    have e1 : IntKind.i64.wrap (G.L * (G.B : Int)) = G.L * (G.B : Int) := IntWalk.i64_in _ (by omega)
    have hL1 : LB w1.drew g G 2 (.slice (some ⟨gr, 0, none⟩) (2 * G.B) (2 * G.B)) arr m.run m.first m.last := hL0
    have hR1 : Mk w1.drew gr 3 .i64 rs := hR0
    have hZ1 : Blk w1.drew w.heap.size 61 #[.int .i64 0, .int .i64 0] := hZ0
    have hT1 : Two g gr w w1.drew := hT0.drewN 1
    have hsz1 : w.heap.size < w1.drew.heap.size := hsz0
    go_region_held3 (fun wx => wx.cell? ⟨g, 0, none⟩ = some (.int .i64 (G.B : Int)) ∧ wx.cell? ⟨g, 2, none⟩ = some (.int .i64 G.L)) (first | exact ⟨c0, c2⟩ | exact ⟨i0, i2⟩ | go_keep)
      (first | (go_at_call 182; refine (follow_any g g b _ _ G hG m _ _ hm (by omega) hL1).mono ?_; rintro e w3 ⟨rfl, hA⟩; have i0 := hA.lb.c0; have i2 := hA.lb.c2))
    clear e1 c7 c0 c2
    have hZ3 := hA.two.blk hZ1 (by omega) (by omega)
    have hR3 := hA.two.mk_ hR1 hne hne
    have hL3 := hA.lb
    have hT3 := hT1.trans hA.two.widen
    have hsz3 := hA.two.size
    cases hfi : foIs G b (decide (E < G.L * G.B)) m with
    | false =>
      have hw := hear_on (G := G) (b := b) (E := E) hs.out hfi
      have hw1 := Lib.hid hw.1
      have hw2 := Lib.hid hw.2
      clear hw
      have c0 := hZ3.cell 0
      have c1 := hZ3.cell 1
      have f0 := hZ3.frozen 0
      have f1 := hZ3.frozen 1
      go_wp2
      refine ret_seg2 rfl rfl ((hZ3.set_ 0 _).set_ 1 _) rfl ⟨by rw [hEE.out, hw2.out]; rfl, ⟨?_, ?_, ?_⟩⟩
      · rw [hEE.out, hw1.out]
        exact Blk.far (Blk.far hL3 (by simp; omega) _) (by simp; omega) _
      · exact (hR3.far (by simp; omega) _).far (by simp; omega) _
      · exact (hT3.setn (p := ⟨w.heap.size, 0, none⟩) (by simp) _).setn (p := ⟨w.heap.size, 1, none⟩) (by simp) _
    | true =>
      have hw := hear_end (G := G) (b := b) (E := E) hs.out hfi
      have hw1 := Lib.hid hw.1
      have hw2 := Lib.hid hw.2
      clear hw
      have hfb : 0 ≤ foEnd G b (decide (E < G.L * G.B)) m ∧ foEnd G b (decide (E < G.L * G.B)) m ≤ b + 1 := by
        unfold foEnd
        have h9 : ¬ fend G b (decide (E < G.L * G.B)) m = -1 := by unfold foIs at hfi; simpa using hfi
        rw [if_neg h9]
        rcases hfd.out with h8 | h8
        · exact absurd h8 h9
        · exact h8
      generalize foEnd G b (decide (E < G.L * G.B)) m = fe at *
      have hfb1 := hfb.1
      have hfb2 := hfb.2
      clear hfb
      have c7 := hL3.c7
      have f7 := hL3.fz 7
      have c10 := hL3.c10
      have f10 := hL3.fz 10
      have c12 := hL3.c12
      have f12 := hL3.fz 12
      go_wp2
      have hL4 := ((hL3.s7 1).s10 0).s12 fe
      have hR4 := ((hR3.far (p := ⟨g, 7, none⟩) hne (.int .i64 1)).far (p := ⟨g, 10, none⟩) hne (.int .i64 0)).far (p := ⟨g, 12, none⟩) hne (.int .i64 fe)
      have hT4 := ((hT3.set_ 7 (.int .i64 1)).set_ 10 (.int .i64 0)).set_ 12 (.int .i64 fe)
      have hZ4 := ((hZ3.far (p := ⟨g, 7, none⟩) (by simp; omega) (.int .i64 1)).far (p := ⟨g, 10, none⟩) (by simp; omega) (.int .i64 0)).far (p := ⟨g, 12, none⟩) (by simp; omega) (.int .i64 fe)
      clear c7 f7 c10 f10 c12 f12 hfi
      generalize ((w3.setCell ⟨g, 7, none⟩ (.int .i64 1)).setCell ⟨g, 10, none⟩ (.int .i64 0)).setCell ⟨g, 12, none⟩ (.int .i64 fe) = w4 at *
      have c0 := hL4.c0
      have c11 := hL4.c11
      have hm3 := hm.f1
      have hm4 := hm.f2
      have q1 := mul_bd (a := (G.B : Int)) (b := m.first) (m := 4096) (q := 4000000001) (by omega) (by omega) (by omega) (by omega) (by omega)
      have q2 := mul_bd (a := (G.B : Int)) (b := fe) (m := 4096) (q := 4000000001) (by omega) (by omega) (by omega) (by omega) (by omega)
      rw [Int.mul_comm (G.B : Int) m.first] at q1
      rw [Int.mul_comm (G.B : Int) fe] at q2
      have e1 : IntKind.i64.wrap (m.first * (G.B : Int)) = m.first * (G.B : Int) := IntWalk.i64_in _ (by omega)
      have e2 : IntKind.i64.wrap (fe * (G.B : Int)) = fe * (G.B : Int) := IntWalk.i64_in _ (by omega)
      clear q1 q2
      go_still_tail 18, (by kernel_rfl)
      change wpList _ _ _ _ _ (w4.drewN 1)
      clear e1 e2 c0 c11
      have hL5 := hL4.drewN 1
      have hR5 := hR4.drewN 1
      have hZ5 := hZ4.drewN 1
      have hT5 := hT4.drewN 1
      generalize w4.drewN 1 = w5 at *
      have c0 := hZ5.cell 0
      have c1 := hZ5.cell 1
      have f0 := hZ5.frozen 0
      have f1 := hZ5.frozen 1
      go_wp2
      refine ret_seg2 rfl rfl ((hZ5.set_ 0 _).set_ 1 _) rfl ⟨by rw [hEE.out, hw2.out]; rfl, ⟨?_, ?_, ?_⟩⟩
      · rw [hEE.out, hw1.out]
        exact Blk.far (Blk.far hL5 (by simp; omega) _) (by simp; omega) _
      · exact (hR5.far (by simp; omega) _).far (by simp; omega) _
      · exact (hT5.setn (p := ⟨w.heap.size, 0, none⟩) (by simp) _).setn (p := ⟨w.heap.size, 1, none⟩) (by simp) _
end Go.Proofs.YtoljffghaklpdaaGreatDoor


/- Samples are put into the ring. -/
namespace Go.Proofs.YtoljffghaklpdaaGreatDoor
open Go.RowKit

theorem ivs_spl (k : IntKind) (rs ys : List Int) (o : Nat) : (ivs k rs).take o ++ (ivs k ys ++ (ivs k rs).drop (o + (ivs k ys).length)) = ivs k (spl rs o ys) := by
  unfold spl
  rw [ivs_app, ivs_app, ivs_len, List.append_assoc]
  simp [ivs, List.map_take, List.map_drop]
theorem Two.setRow {g gr : Nat} {a b : World} (h : Two g gr a b) (cs : Array Value) : Two g gr a (b.setRow gr cs) :=
  h.trans ⟨rfl, rfl, rfl, by simp [World.setRow], fun k _ _ h2 => setRow_other b gr k cs h2⟩

structure FiRel (G : Gt) (g gr : Nat) (st : Int) (a t : Nat) (run first last : Int) (rs ys : List Int) (w w' : World) : Prop where
  lb : LB w' g G st (.slice (some ⟨gr, 0, none⟩) (2 * G.B) (2 * G.B)) ((a + t : Nat) : Int) run first last
  ring : Mk w' gr 3 .i64 (spl rs (a / G.B % 2 * G.B + a % G.B) (ys.take t))
  two : Two g gr w w'
set_option maxHeartbeats 1600000 in
set_option maxRecDepth 100000 in
theorem fill_any (g gr a : Nat) (A : Option Addr) (n c : Nat) (xs : List Int) (w : World) (G : Gt) (hG : G.Ok) (st run first last : Int) (rs : List Int) (ha : a ≤ 2147483648)
    (h : LB w g G st (.slice (some ⟨gr, 0, none⟩) (2 * G.B) (2 * G.B)) (a : Int) run first last) (hR : Mk w gr 3 .i64 rs) (hne : gr ≠ g) (hrl : rs.length = 2 * G.B)
    (hS : Sl .i64 w A n c xs) (hn : 0 < n) (hn2 : n ≤ 2147483648) :
    Calls Tryz.prog 145 #[.pointer (some ⟨g, 0, none⟩), .slice A n c] w fun e w' => e = .returned (.int .i64 ((min n (G.B - a % G.B) : Nat) : Int)) ∧ FiRel G g gr st a (min n (G.B - a % G.B)) run first last rs xs w w' := by
  have hb1 := hG.b1
  have hb2 := hG.b2
  have hxl := Lib.hid hS.len
  have hcap := hS.cap
  have htop := hS.top
  obtain ⟨ad, rfl, _⟩ := hS.cell hn
  have hp := Nat.mod_lt a (show 0 < G.B by omega)
  have hbb : a / G.B ≤ a := Nat.div_le_self _ _
  have eb : (a : Int) / (G.B : Int) = ((a / G.B : Nat) : Int) := by rw [Int.natCast_ediv]
  have ep : (a : Int) % (G.B : Int) = ((a % G.B : Nat) : Int) := by rw [Int.natCast_emod]
  have hfin : ∀ (w' : World) (t : Nat), LB w' g G st (.slice (some ⟨gr, 0, none⟩) (2 * G.B) (2 * G.B)) ((a : Int) + (t : Int)) run first last → Mk w' gr 3 .i64 (spl rs (a / G.B % 2 * G.B + a % G.B) (xs.take t)) → Two g gr w w' → FiRel G g gr st a t run first last rs xs w w' :=
    fun w' t h1 h2 h3 => ⟨by rw [Int.natCast_add]; exact h1, h2, h3⟩
  have hfin := Lib.hid hfin
  have hoff : a / G.B % 2 * G.B + G.B ≤ rs.length := by rw [hrl]; rcases (show a / G.B % 2 = 0 ∨ a / G.B % 2 = 1 by omega) with e | e <;> rw [e] <;> omega
  have hrl := Lib.hid hrl
  generalize a / G.B = b at *
  generalize a % G.B = p at *
  obtain ⟨t, ht⟩ : ∃ t, t = min n (G.B - p) := ⟨_, rfl⟩
  rw [← ht]
  have htn : t ≤ n := by omega
  have htp : p + t ≤ G.B := by omega
  have ht1 : 0 < t := by omega
  have ht' := Lib.hid ht
  clear ht
  have c0 := h.c0
  have c9 := h.c9
  have hB0 : ¬ G.B = 0 := by omega
  have hblk := Lib.hid (fun w (h : LB w g G st (.slice (some ⟨gr, 0, none⟩) (2 * G.B) (2 * G.B)) (a : Int) run first last) => (block_any g gr b w G hG _ _ _ _ _ h (by omega)).mono fun e w' h => (⟨h.1, h.2.symm⟩ : e = .returned (.slice (some ⟨gr, b % 2 * G.B, none⟩) G.B G.B) ∧ w' = w))
  generalize hob : b % 2 * G.B = ob at *
  have hob' := Lib.hid hob
  clear hob
  go_enter Tryz.func145, Tryz.ntmps145
  go_wp2
  have wb : IntKind.i64.wrap (b : Int) = (b : Int) := IntWalk.i64_in _ (by omega)
  go_still_tail 12, (by kernel_rfl)
  still_call (hblk.out _ (h.drewN 1))
  repeat still_step
  refine wpStill_nil ?_
  change wpList _ _ _ _ _ (w.drewN 1)
  have hL1 := h.drewN 1
  have hR1 := hR.drewN 1
  have hS1 := hS.drewN 1
  have hT1 := (Two.refl g gr w).drewN 1
  clear c0 c9 wb
  generalize w.drewN 1 = w1 at *
  have c0 := hL1.c0
  have c9 := hL1.c9
  have hpi : (p : Int) ≤ (G.B : Int) := by omega
  have hpk : ¬ G.B = p := by omega
  go_wp2
  have em : (a : Int).tmod (G.B : Int) = (p : Int) := by rw [Int.tmod_eq_emod_of_nonneg (by omega)]; exact ep
  have wp : IntKind.i64.wrap (p : Int) = (p : Int) := IntWalk.i64_in _ (by omega)
  go_still_tail 13, (by kernel_rfl)
  change wpList _ _ _ _ _ (w1.drewN 1)
  have hL2 := hL1.drewN 1
  have hR2 := hR1.drewN 1
  have hS2 := hS1.drewN 1
  have hT2 := hT1.drewN 1
  clear c0 c9 wp em ep eb
  generalize w1.drewN 1 = w2 at *
  have hcl := Lib.hid (show (ivs .i64 (xs.take t)).length = t by rw [ivs_len, List.length_take, hxl.out]; omega)
  refine wpList_copy_own rfl (.tmp 30) (.tmp 31) 28 28 rfl 3 Tryz.underlying28 info_int1 gr (ob + p) (G.B - p) (G.B - p) ad n c rfl rfl (ivs .i64 rs).toArray 3 hR2 (ivs .i64 (xs.take t)) ?c1 ?c2 ?c3 (oneCell_ivs _ _) ?_
  case c1 => rw [hcl.out]; exact ht'.out
  case c2 => exact (hS2.take htn).news
  case c3 => rw [hcl.out]; simp [ivs_len]; omega
  rw [hcl.out]
  have hsp := ivs_spl .i64 rs (xs.take t) (ob + p)
  rw [hcl.out] at hsp
  rw [show List.take (ob + p) (ivs .i64 rs).toArray.toList ++ (ivs .i64 (List.take t xs) ++ List.drop (ob + p + t) (ivs .i64 rs).toArray.toList) = ivs .i64 (spl rs (ob + p) (xs.take t)) from hsp]
  have hR3 : Mk (w2.setRow gr (ivs .i64 (spl rs (ob + p) (xs.take t))).toArray) gr 3 .i64 (spl rs (ob + p) (xs.take t)) := setRow_heap w2 gr _ _ 3 (0, 0) hR2
  have hL3 : LB (w2.setRow gr (ivs .i64 (spl rs (ob + p) (xs.take t))).toArray) g G st (.slice (some ⟨gr, 0, none⟩) (2 * G.B) (2 * G.B)) a run first last := (setRow_other w2 gr g _ (fun e => hne e.symm)).trans hL2
  have hT3 := hT2.setRow (ivs .i64 (spl rs (ob + p) (xs.take t))).toArray
  clear hsp
  generalize w2.setRow gr (ivs .i64 (spl rs (ob + p) (xs.take t))).toArray = w3 at *
  have c9 := hL3.c9
  have f9 := hL3.fz 9
  go_wp2
  go_ret
  exact ⟨ret_int rfl, hfin.out _ t (hL3.s9 _) (hR3.far hne _) (hT3.set_ 9 _)⟩
end Go.Proofs.YtoljffghaklpdaaGreatDoor
