/- The listener in speech. -/
import Derived.Test.YtobobbhifajhmaaL1
namespace Go.Proofs.Ytobobbhifajhmaa
open Go.RowKit

set_option maxHeartbeats 1600000 in
set_option maxRecDepth 100000 in
theorem follow_true_fall (g gr : Nat) (b : Int) (w : World) (G : Gt) (hG : G.Ok) (m : Ms) (ring : Value) (arr : Int) (hm : m.Bd b) (hb : b ≤ 4000000000) (h : LB w g G 2 ring arr m.run m.first m.last) (hF : frun true m = G.F) :
    Calls Try.prog 102 #[.pointer (some ⟨g, 0, none⟩), .int .i64 b, .bool true] w fun e w' => e = .returned (.tuple #[.int .i64 (foEnd G b true m), .bool (foIs G b true m)]) ∧ FoRel G g gr m true ring arr w w' := by
  have hfr := (frun_bd (q := true) hm).2
  obtain ⟨hm1, hm2, hm3, hm4, hm5, hm6⟩ := hm
  have hG1 := hG.f1
  have hG2 := hG.f2
  have c10 := h.c10
  have f10 := h.fz 10
  have hfo := fo_fall (b := b) hF (by omega)
  clear hfr
  have ho1 := Lib.hid hfo.1
  have ho2 := Lib.hid hfo.2
  clear hfo
  have hq := Lib.hid (show frun true m = m.run + 1 from rfl)
  rw [hq.out] at hF
  have hF1 : ((m.run + 1 : Int) == G.F) = true := beq_iff_eq.2 hF
  clear hF
  go_enter Try.func102, Try.ntmps102
  go_wp2
  have hL1 := h.s10 (m.run + 1)
  have hT1 := (Two.refl g gr w).set_ 10 (.int .i64 (m.run + 1))
  clear c10 f10
  generalize w.setCell ⟨g, 10, none⟩ (.int .i64 (m.run + 1)) = w1 at *
  have c10 := hL1.c10
  have c4 := hL1.c4
  go_quiet (fail)
  have hL2 := hL1.drewN nq
  have hT2 := hT1.drewN nq
  clear c10 c4
  generalize w1.drewN nq = w2 at *
  have c4 := hL2.c4
  go_wp2
  go_ret2
  exact ⟨by rw [ho1.out, ho2.out]; rfl, ⟨by rw [hq.out]; exact hL2, hT2⟩⟩

set_option maxHeartbeats 1600000 in
set_option maxRecDepth 100000 in
theorem follow_true_long (g gr : Nat) (b : Int) (w : World) (G : Gt) (hG : G.Ok) (m : Ms) (ring : Value) (arr : Int) (hm : m.Bd b) (hb : b ≤ 4000000000) (h : LB w g G 2 ring arr m.run m.first m.last) (hF : frun true m ≠ G.F) (hX : b + 1 - m.first = G.X) :
    Calls Try.prog 102 #[.pointer (some ⟨g, 0, none⟩), .int .i64 b, .bool true] w fun e w' => e = .returned (.tuple #[.int .i64 (foEnd G b true m), .bool (foIs G b true m)]) ∧ FoRel G g gr m true ring arr w w' := by
  obtain ⟨hm1, hm2, hm3, hm4, hm5, hm6⟩ := hm
  have hG1 := hG.f1
  have hG2 := hG.f2
  have c10 := h.c10
  have f10 := h.fz 10
  have hfo := fo_long hF hX (by omega)
  have ho1 := Lib.hid hfo.1
  have ho2 := Lib.hid hfo.2
  clear hfo
  have hq := Lib.hid (show frun true m = m.run + 1 from rfl)
  rw [hq.out] at hF
  have hF1 : ((m.run + 1 : Int) == G.F) = false := beq_eq_false_iff_ne.2 hF
  clear hF
  have hX1 : ((b + 1 - m.first) == G.X) = true := beq_iff_eq.2 hX
  clear hX
  go_enter Try.func102, Try.ntmps102
  go_wp2
  have hL1 := h.s10 (m.run + 1)
  have hT1 := (Two.refl g gr w).set_ 10 (.int .i64 (m.run + 1))
  clear c10 f10
  generalize w.setCell ⟨g, 10, none⟩ (.int .i64 (m.run + 1)) = w1 at *
  have c10 := hL1.c10
  have c4 := hL1.c4
  go_quiet (fail)
  have hL2 := hL1.drewN nq
  have hT2 := hT1.drewN nq
  clear c10 c4
  generalize w1.drewN nq = w2 at *
  have c4 := hL2.c4
  have c6 := hL2.c6
  have c11 := hL2.c11
  have e1 : IntKind.i64.wrap (b + 1) = b + 1 := IntWalk.i64_in _ (by omega)
  have e2 : IntKind.i64.wrap (b + 1 - m.first) = b + 1 - m.first := IntWalk.i64_in _ (by omega)
  go_wp2
  go_quiet (fail)
  clear e1 e2
  go_wp2
  go_ret2
  exact ⟨by rw [ho1.out, ho2.out]; rfl, ⟨by rw [hq.out]; exact hL2.drewN _, hT2.drewN _⟩⟩

set_option maxHeartbeats 1600000 in
set_option maxRecDepth 100000 in
theorem follow_true_none (g gr : Nat) (b : Int) (w : World) (G : Gt) (hG : G.Ok) (m : Ms) (ring : Value) (arr : Int) (hm : m.Bd b) (hb : b ≤ 4000000000) (h : LB w g G 2 ring arr m.run m.first m.last) (hF : frun true m ≠ G.F) (hX : b + 1 - m.first ≠ G.X) :
    Calls Try.prog 102 #[.pointer (some ⟨g, 0, none⟩), .int .i64 b, .bool true] w fun e w' => e = .returned (.tuple #[.int .i64 (foEnd G b true m), .bool (foIs G b true m)]) ∧ FoRel G g gr m true ring arr w w' := by
  obtain ⟨hm1, hm2, hm3, hm4, hm5, hm6⟩ := hm
  have hG1 := hG.f1
  have hG2 := hG.f2
  have c10 := h.c10
  have f10 := h.fz 10
  have hfo := fo_none hF hX
  have ho1 := Lib.hid hfo.1
  have ho2 := Lib.hid hfo.2
  clear hfo
  have hq := Lib.hid (show frun true m = m.run + 1 from rfl)
  rw [hq.out] at hF
  have hF1 : ((m.run + 1 : Int) == G.F) = false := beq_eq_false_iff_ne.2 hF
  clear hF
  have hX1 : ((b + 1 - m.first) == G.X) = false := beq_eq_false_iff_ne.2 hX
  clear hX
  go_enter Try.func102, Try.ntmps102
  go_wp2
  have hL1 := h.s10 (m.run + 1)
  have hT1 := (Two.refl g gr w).set_ 10 (.int .i64 (m.run + 1))
  clear c10 f10
  generalize w.setCell ⟨g, 10, none⟩ (.int .i64 (m.run + 1)) = w1 at *
  have c10 := hL1.c10
  have c4 := hL1.c4
  go_quiet (fail)
  have hL2 := hL1.drewN nq
  have hT2 := hT1.drewN nq
  clear c10 c4
  generalize w1.drewN nq = w2 at *
  have c4 := hL2.c4
  have c6 := hL2.c6
  have c11 := hL2.c11
  have e1 : IntKind.i64.wrap (b + 1) = b + 1 := IntWalk.i64_in _ (by omega)
  have e2 : IntKind.i64.wrap (b + 1 - m.first) = b + 1 - m.first := IntWalk.i64_in _ (by omega)
  go_wp2
  go_quiet (fail)
  clear e1 e2
  go_wp2
  go_ret2
  exact ⟨by rw [ho1.out, ho2.out]; rfl, ⟨by rw [hq.out]; exact hL2.drewN _, hT2.drewN _⟩⟩

set_option maxHeartbeats 1600000 in
set_option maxRecDepth 100000 in
theorem follow_false_fall (g gr : Nat) (b : Int) (w : World) (G : Gt) (hG : G.Ok) (m : Ms) (ring : Value) (arr : Int) (hm : m.Bd b) (hb : b ≤ 4000000000) (h : LB w g G 2 ring arr m.run m.first m.last) (hF : frun false m = G.F) :
    Calls Try.prog 102 #[.pointer (some ⟨g, 0, none⟩), .int .i64 b, .bool false] w fun e w' => e = .returned (.tuple #[.int .i64 (foEnd G b false m), .bool (foIs G b false m)]) ∧ FoRel G g gr m false ring arr w w' := by
  have hfr := (frun_bd (q := false) hm).2
  obtain ⟨hm1, hm2, hm3, hm4, hm5, hm6⟩ := hm
  have hG1 := hG.f1
  have hG2 := hG.f2
  have c10 := h.c10
  have f10 := h.fz 10
  have hfo := fo_fall (b := b) hF (by omega)
  clear hfr
  have ho1 := Lib.hid hfo.1
  have ho2 := Lib.hid hfo.2
  clear hfo
  have hq := Lib.hid (show frun false m = 0 from rfl)
  rw [hq.out] at hF
  have hF1 : ((0 : Int) == G.F) = true := beq_iff_eq.2 hF
  clear hF
  go_enter Try.func102, Try.ntmps102
  go_wp2
  have hL1 := h.s10 (0)
  have hT1 := (Two.refl g gr w).set_ 10 (.int .i64 (0))
  clear c10 f10
  generalize w.setCell ⟨g, 10, none⟩ (.int .i64 (0)) = w1 at *
  have c10 := hL1.c10
  have c4 := hL1.c4
  go_quiet (fail)
  have hL2 := hL1.drewN nq
  have hT2 := hT1.drewN nq
  clear c10 c4
  generalize w1.drewN nq = w2 at *
  have c4 := hL2.c4
  go_wp2
  go_ret2
  exact ⟨by rw [ho1.out, ho2.out]; rfl, ⟨by rw [hq.out]; exact hL2, hT2⟩⟩

set_option maxHeartbeats 1600000 in
set_option maxRecDepth 100000 in
theorem follow_false_long (g gr : Nat) (b : Int) (w : World) (G : Gt) (hG : G.Ok) (m : Ms) (ring : Value) (arr : Int) (hm : m.Bd b) (hb : b ≤ 4000000000) (h : LB w g G 2 ring arr m.run m.first m.last) (hF : frun false m ≠ G.F) (hX : b + 1 - m.first = G.X) :
    Calls Try.prog 102 #[.pointer (some ⟨g, 0, none⟩), .int .i64 b, .bool false] w fun e w' => e = .returned (.tuple #[.int .i64 (foEnd G b false m), .bool (foIs G b false m)]) ∧ FoRel G g gr m false ring arr w w' := by
  obtain ⟨hm1, hm2, hm3, hm4, hm5, hm6⟩ := hm
  have hG1 := hG.f1
  have hG2 := hG.f2
  have c10 := h.c10
  have f10 := h.fz 10
  have hfo := fo_long hF hX (by omega)
  have ho1 := Lib.hid hfo.1
  have ho2 := Lib.hid hfo.2
  clear hfo
  have hq := Lib.hid (show frun false m = 0 from rfl)
  rw [hq.out] at hF
  have hF1 : ((0 : Int) == G.F) = false := beq_eq_false_iff_ne.2 hF
  clear hF
  have hX1 : ((b + 1 - m.first) == G.X) = true := beq_iff_eq.2 hX
  clear hX
  go_enter Try.func102, Try.ntmps102
  go_wp2
  have hL1 := h.s10 (0)
  have hT1 := (Two.refl g gr w).set_ 10 (.int .i64 (0))
  clear c10 f10
  generalize w.setCell ⟨g, 10, none⟩ (.int .i64 (0)) = w1 at *
  have c10 := hL1.c10
  have c4 := hL1.c4
  go_quiet (fail)
  have hL2 := hL1.drewN nq
  have hT2 := hT1.drewN nq
  clear c10 c4
  generalize w1.drewN nq = w2 at *
  have c4 := hL2.c4
  have c6 := hL2.c6
  have c11 := hL2.c11
  have e1 : IntKind.i64.wrap (b + 1) = b + 1 := IntWalk.i64_in _ (by omega)
  have e2 : IntKind.i64.wrap (b + 1 - m.first) = b + 1 - m.first := IntWalk.i64_in _ (by omega)
  go_wp2
  go_quiet (fail)
  clear e1 e2
  go_wp2
  go_ret2
  exact ⟨by rw [ho1.out, ho2.out]; rfl, ⟨by rw [hq.out]; exact hL2.drewN _, hT2.drewN _⟩⟩

set_option maxHeartbeats 1600000 in
set_option maxRecDepth 100000 in
theorem follow_false_none (g gr : Nat) (b : Int) (w : World) (G : Gt) (hG : G.Ok) (m : Ms) (ring : Value) (arr : Int) (hm : m.Bd b) (hb : b ≤ 4000000000) (h : LB w g G 2 ring arr m.run m.first m.last) (hF : frun false m ≠ G.F) (hX : b + 1 - m.first ≠ G.X) :
    Calls Try.prog 102 #[.pointer (some ⟨g, 0, none⟩), .int .i64 b, .bool false] w fun e w' => e = .returned (.tuple #[.int .i64 (foEnd G b false m), .bool (foIs G b false m)]) ∧ FoRel G g gr m false ring arr w w' := by
  obtain ⟨hm1, hm2, hm3, hm4, hm5, hm6⟩ := hm
  have hG1 := hG.f1
  have hG2 := hG.f2
  have c10 := h.c10
  have f10 := h.fz 10
  have hfo := fo_none hF hX
  have ho1 := Lib.hid hfo.1
  have ho2 := Lib.hid hfo.2
  clear hfo
  have hq := Lib.hid (show frun false m = 0 from rfl)
  rw [hq.out] at hF
  have hF1 : ((0 : Int) == G.F) = false := beq_eq_false_iff_ne.2 hF
  clear hF
  have hX1 : ((b + 1 - m.first) == G.X) = false := beq_eq_false_iff_ne.2 hX
  clear hX
  go_enter Try.func102, Try.ntmps102
  go_wp2
  have hL1 := h.s10 (0)
  have hT1 := (Two.refl g gr w).set_ 10 (.int .i64 (0))
  clear c10 f10
  generalize w.setCell ⟨g, 10, none⟩ (.int .i64 (0)) = w1 at *
  have c10 := hL1.c10
  have c4 := hL1.c4
  go_quiet (fail)
  have hL2 := hL1.drewN nq
  have hT2 := hT1.drewN nq
  clear c10 c4
  generalize w1.drewN nq = w2 at *
  have c4 := hL2.c4
  have c6 := hL2.c6
  have c11 := hL2.c11
  have e1 : IntKind.i64.wrap (b + 1) = b + 1 := IntWalk.i64_in _ (by omega)
  have e2 : IntKind.i64.wrap (b + 1 - m.first) = b + 1 - m.first := IntWalk.i64_in _ (by omega)
  go_wp2
  go_quiet (fail)
  clear e1 e2
  go_wp2
  go_ret2
  exact ⟨by rw [ho1.out, ho2.out]; rfl, ⟨by rw [hq.out]; exact hL2.drewN _, hT2.drewN _⟩⟩

theorem follow_any (g gr : Nat) (b : Int) (quiet : Bool) (w : World) (G : Gt) (hG : G.Ok) (m : Ms) (ring : Value) (arr : Int) (hm : m.Bd b) (hb : b ≤ 4000000000) (h : LB w g G 2 ring arr m.run m.first m.last) :
    Calls Try.prog 102 #[.pointer (some ⟨g, 0, none⟩), .int .i64 b, .bool quiet] w fun e w' => e = .returned (.tuple #[.int .i64 (foEnd G b quiet m), .bool (foIs G b quiet m)]) ∧ FoRel G g gr m quiet ring arr w w' := by
  by_cases hF : frun quiet m = G.F
  · cases quiet with
    | true => exact follow_true_fall g gr b w G hG m ring arr hm hb h hF
    | false => exact follow_false_fall g gr b w G hG m ring arr hm hb h hF
  · by_cases hX : b + 1 - m.first = G.X
    · cases quiet with
      | true => exact follow_true_long g gr b w G hG m ring arr hm hb h hF hX
      | false => exact follow_false_long g gr b w G hG m ring arr hm hb h hF hX
    · cases quiet with
      | true => exact follow_true_none g gr b w G hG m ring arr hm hb h hF hX
      | false => exact follow_false_none g gr b w G hG m ring arr hm hb h hF hX
end Go.Proofs.Ytobobbhifajhmaa
