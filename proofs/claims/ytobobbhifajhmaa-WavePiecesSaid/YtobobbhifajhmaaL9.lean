/- A listener is closed in speech; what it refuses. -/
import Derived.Test.YtobobbhifajhmaaL8
namespace Go.Proofs.Ytobobbhifajhmaa
open Go.RowKit

set_option maxHeartbeats 1600000 in
set_option maxRecDepth 100000 in
theorem Close_speech (g gr : Nat) (all : List Int) (w : World) (G : Gt) (hG : G.Ok) (h : Lis w g gr G all) (hs : (endM G all).sp = true) :
    Calls Try.prog 58 #[.pointer (some ⟨g, 0, none⟩)] w fun e w' => ∃ gl, e = .returned (.tuple #[.slice (some ⟨gl, 0, none⟩) 1 1, .int .i64 0]) ∧ Blk w' gl 84 #[.int .i64 ((endM G all).first * G.B), .int .i64 (all.length : Int)] ∧ w.heap.size ≤ gl ∧ Closed w' g all.length ∧ Two g gr w w' := by
  have hst : (endM G all).st = 2 := by unfold Ms.st; rw [hs]; rfl
  have hlb := h.lb
  have htop := h.top
  have hgl := Blk.lt hlb
  have hbd := runM_bd hG all (all.length / G.B)
  have hf1 : 0 ≤ (endM G all).first := hbd.f1
  have hdv : all.length / G.B ≤ all.length := Nat.div_le_self _ _
  have hf2 : (endM G all).first ≤ 2147483648 := by have : (endM G all).first ≤ ((all.length / G.B : Nat) : Int) := hbd.f2; omega
  have hb2 := hG.b2
  have hq := mul_bd (a := (G.B : Int)) (b := (endM G all).first) (m := 4096) (q := 2147483648) (by omega) (by omega) (by omega) hf2 (by omega)
  rw [Int.mul_comm (G.B : Int)] at hq
  rw [hst] at hlb
  clear hst hs hbd hdv
  generalize endM G all = m at *
  have c0 := hlb.c0
  have c1 := hlb.c1
  have c2 := hlb.c2
  have c3 := hlb.c3
  have c4 := hlb.c4
  have c5 := hlb.c5
  have c6 := hlb.c6
  have c7 := hlb.c7
  have c8 := hlb.c8
  have c9 := hlb.c9
  have c10 := hlb.c10
  have c11 := hlb.c11
  have c12 := hlb.c12
  have e1 : IntKind.i64.wrap (m.first * (G.B : Int)) = m.first * (G.B : Int) := IntWalk.i64_in _ (by omega)
  clear hq
  go_enter Try.func58, Try.ntmps58
  go_wp2_with (go_at_call 88; refine (isMissing_any _ _ _ _ _ _ _ _ _ hlb).mono ?_; rintro e w' ⟨rfl, rfl⟩)
  go_still_tail 15, (by kernel_rfl)
  change wpList _ _ _ _ _ (w.drewN 1)
  have hlb1 : LB (w.drewN 1) g G 2 (.slice (some ⟨gr, 0, none⟩) (2 * G.B) (2 * G.B)) (all.length : Int) m.run m.first m.last := hlb
  have hT1 := (Two.refl g gr w).drewN 1
  have hsz1 : (w.drewN 1).heap.size = w.heap.size := rfl
  clear c0 c1 c2 c3 c4 c5 c6 c7 c8 c9 c10 c11 c12 e1
  generalize w.drewN 1 = w1 at *
  have hB2 := Blk.new w1 84 #[.int .i64 (m.first * (G.B : Int)), .int .i64 (all.length : Int)]
  have hlb2 : LB (w1.alloc (.cells #[.int .i64 (m.first * (G.B : Int)), .int .i64 (all.length : Int)] 84)) g G 2 (.slice (some ⟨gr, 0, none⟩) (2 * G.B) (2 * G.B)) (all.length : Int) m.run m.first m.last := Blk.alloc hlb1 _
  have hT2 := hT1.alloc (.cells #[.int .i64 (m.first * (G.B : Int)), .int .i64 (all.length : Int)] 84)
  have c0 := hlb2.c0
  have c1 := hlb2.c1
  have c2 := hlb2.c2
  have c3 := hlb2.c3
  have c4 := hlb2.c4
  have c5 := hlb2.c5
  have c6 := hlb2.c6
  have c7 := hlb2.c7
  have c8 := hlb2.c8
  have c9 := hlb2.c9
  have c10 := hlb2.c10
  have c11 := hlb2.c11
  have c12 := hlb2.c12
  have f := fun i => hlb2.fz i
  have hne : w1.heap.size ≠ g := by omega
  have hge : w.heap.size ≤ w1.heap.size := by omega
  have hsz1' := Lib.hid hsz1
  clear hsz1
  go_wp2
  go_ret2
  exact ⟨w1.heap.size, rfl, ((((((((((((hB2.far hne _).far hne _).far hne _).far hne _).far hne _).far hne _).far hne _).far hne _).far hne _).far hne _).far hne _).far hne _).far hne _, hge, hlb2.all13 _, ((((((((((((hT2.set_ 0 _).set_ 1 _).set_ 2 _).set_ 3 _).set_ 4 _).set_ 5 _).set_ 6 _).set_ 7 _).set_ 8 _).set_ 9 _).set_ 10 _).set_ 11 _).set_ 12 _⟩

/-- a listener that refuses samples -/
theorem Feed_bad (g gr : Nat) (A : Option Addr) (n c : Nat) (xs all : List Int) (w : World) (G : Gt) (h : Lis w g gr G all) (hS : Sl .i64 w A n c xs) (code : Int) (hc : chk (-32768) 32767 xs = code) (hc0 : (code == 0) = false) :
    Calls Try.prog 56 #[.pointer (some ⟨g, 0, none⟩), .slice A n c] w fun e w' => e = .returned (.tuple #[.slice none 0 0, .int .i64 code]) ∧ w = w' := by
  have hlb := h.lb
  have hst := @Mid.stA (endM G all)
  have hs0 : decide ((endM G all).st = 0) = false := by rcases hst with e | e <;> rw [e] <;> rfl
  have hc := Lib.hid hc
  go_enter Try.func56, Try.ntmps56
  go_wp2_with fail
  refine (isMissing_any _ _ _ _ _ _ _ _ _ hlb).mono ?_
  rintro e w' ⟨rfl, rfl⟩
  go_wp2_with (go_at_call 89; refine (checkSamples_any _ _ _ _ _ hS).mono ?_; rintro e w' ⟨rfl, rfl⟩; rw [hc.out])
  go_ret2
  exact ⟨rfl, rfl⟩
theorem Feed_nil (A : Option Addr) (n c : Nat) (w : World) : Calls Try.prog 56 #[.pointer none, .slice A n c] w fun e w' => e = .returned (.tuple #[.slice none 0 0, .int .i64 1]) ∧ w = w' := by
  go_enter Try.func56, Try.ntmps56
  go_wp2_with (go_at_call 88; refine (isMissing_nil _).mono ?_; rintro e w' ⟨rfl, rfl⟩)
  go_ret2
  exact ⟨rfl, rfl⟩
theorem Feed_zero (g : Nat) (A : Option Addr) (n c : Nat) (w : World) (G : Gt) (ring : Value) (arr run first last : Int) (h : LB w g G 0 ring arr run first last) :
    Calls Try.prog 56 #[.pointer (some ⟨g, 0, none⟩), .slice A n c] w fun e w' => e = .returned (.tuple #[.slice none 0 0, .int .i64 1]) ∧ w = w' := by
  go_enter Try.func56, Try.ntmps56
  go_wp2_with (go_at_call 88; refine (isMissing_any _ _ _ _ _ _ _ _ _ h).mono ?_; rintro e w' ⟨rfl, rfl⟩)
  go_ret2
  exact ⟨rfl, rfl⟩
theorem At_nil (w : World) : Calls Try.prog 57 #[.pointer none] w fun e w' => e = .returned (.tuple #[.int .i64 0, .bool false]) ∧ w = w' := by
  go_enter Try.func57, Try.ntmps57
  go_wp2_with (go_at_call 88; refine (isMissing_nil _).mono ?_; rintro e w' ⟨rfl, rfl⟩)
  go_ret2
  exact ⟨rfl, rfl⟩
theorem At_zero (g : Nat) (w : World) (G : Gt) (ring : Value) (arr run first last : Int) (h : LB w g G 0 ring arr run first last) :
    Calls Try.prog 57 #[.pointer (some ⟨g, 0, none⟩)] w fun e w' => e = .returned (.tuple #[.int .i64 0, .bool false]) ∧ w = w' := by
  go_enter Try.func57, Try.ntmps57
  go_wp2_with (go_at_call 88; refine (isMissing_any _ _ _ _ _ _ _ _ _ h).mono ?_; rintro e w' ⟨rfl, rfl⟩)
  go_ret2
  exact ⟨rfl, rfl⟩
end Go.Proofs.Ytobobbhifajhmaa
