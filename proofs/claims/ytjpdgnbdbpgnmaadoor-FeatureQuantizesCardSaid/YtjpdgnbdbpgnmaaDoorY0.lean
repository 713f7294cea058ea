/- General lemmas: returns, indices, makes, structs as results. -/
import Derived.WalkKit
import Derived.Outline
import Derived.WalkLawsBesides
import Derived.WalkSpells
import Derived.Handy
import Derived.Deep.QuietTactic
import Derived.BigQuiet
import Derived.Laws.ResultCell
import Derived.Deep.Cut
import Derived.Deep.LoopGhost
import Derived.Maps.AppendAt
import Derived.Test.YtjpdgnbdbpgnmaaDoorProg
import Derived.Test.YtjpdgnbdbpgnmaaDoorMem
namespace Go.Proofs.YtjpdgnbdbpgnmaaDoor.Fr
open Go.RowKit Num

theorem ret_sl {A : Option Addr} {a b c : Nat} (h : a = b) : Ending.returned (.slice A a c) = .returned (.slice A b c) := by rw [h]

theorem ret_i64 {a b : Int} (h : a = b) : Ending.returned (.int .i64 a) = .returned (.int .i64 b) := by rw [h]

/-- what holds at the head of the loop of 'order': the places from i + 1 on have the same digits -/
def OrdRel (xs ys : List Nat) (i : Value) : Prop := (∃ k : Nat, i = .int .i64 k ∧ k < xs.length ∧ xs.drop (k + 1) = ys.drop (k + 1)) ∨ (i = .int .i64 (-1) ∧ xs = ys)
theorem ordRel_start {xs ys : List Nat} (n : Nat) (h1 : xs.length = n) (h2 : ys.length = n) : OrdRel xs ys (.int .i64 ((n : Int) - 1)) := by
  cases n with
  | zero => exact .inr ⟨by simp, by rw [List.eq_nil_of_length_eq_zero h1, List.eq_nil_of_length_eq_zero h2]⟩
  | succ n => exact .inl ⟨n, by congr 1; omega, by omega, by rw [List.drop_eq_nil_of_le (by omega), List.drop_eq_nil_of_le (by omega)]⟩
theorem ordRel_next {xs ys : List Nat} {k : Nat} (h : xs.drop k = ys.drop k) (hk : k < xs.length) : OrdRel xs ys (.int .i64 ((k : Int) - 1)) := by
  cases k with
  | zero => exact .inr ⟨by simp, by simpa using h⟩
  | succ n => exact .inl ⟨n, by congr 1; omega, by omega, h⟩

theorem ret_bool {a b : Bool} (h : a = b) : Ending.returned (.bool a) = .returned (.bool b) := by rw [h]

theorem info_u32 : (Tryd.prog.info? 110).map (fun i => (i.zero, i.size, i.bytes)) = some (some (.int .u32 0), 1, 4) := by kernel_rfl
theorem make_u32 (n : Nat) (hn : n ≤ 1000000) (w : World) :
    (Instr.makeSlice 73 (.int .i64 (n : Int)) (.int .i64 (n : Int))).run Tryd.prog w = .ok (.slice (some ⟨w.heap.size, 0, none⟩) n n) (w.alloc (.cells (dcs .u32 (zs n)).toArray 110)) := by
  obtain ⟨i0, hi, hz0, hz1, hz2⟩ := info_parts info_u32
  have := run_make (P := Tryd.prog) w 73 110 i0 (.int .u32 0) Tryd.underlying73 hi hz0 .i64 .i64 n n (by omega) (by omega) (by rw [hz2]; omega) (by omega)
  rw [this, hz1]
  have e : Value.cells (Value.int .u32 0) = #[Value.int .u32 0] := rfl
  rw [e, made_zs]
  simp

/-- a counter that goes down to -1: k rounds are left -/
theorem idx_cases {i : Value} {k : Nat} (h : i = .int .i64 ((k : Int) - 1)) : (k = 0 ∧ i = .int .i64 (-1)) ∨ (∃ j : Nat, k = j + 1 ∧ i = .int .i64 (j : Int)) := by
  cases k with
  | zero => exact .inl ⟨rfl, by rw [h]; rfl⟩
  | succ j => exact .inr ⟨j, rfl, by rw [h]; congr 1; omega⟩

theorem u64_negneg (n : Int) (h : -9223372036854775808 ≤ n ∧ n < 0) : IntKind.u64.wrap (-IntKind.u64.wrap n) = (n.natAbs : Int) := by
  have e : ∀ m : Int, IntKind.u64.wrap m = m % 18446744073709551616 := fun m => by simp [IntKind.wrap, IntKind.bits, IntKind.signed]
  rw [e, e]; omega
theorem load_frac {g : Nat} {W : World} {a b c : Value} (h : Blk W g 75 #[a, b, c]) : (loadVar 75 ⟨g, 0, none⟩).run Tryd.prog W = .ok (.agg #[a, b, c]) W := by
  have q0 : W.cell? ⟨g, 0, none⟩ = some a := h.cell 0
  have q1 : W.cell? ⟨g, 1, none⟩ = some b := h.cell 1
  have q2 : W.cell? ⟨g, 2, none⟩ = some c := h.cell 2
  simp [go_sem, q0, q1, q2]

theorem results_cell {fn : Func} {p : Tmp} {ty : TypeId} (h : fn.results = #[.cell p ty]) (tmps : Array Value) (P : Program) (w : World) :
    (results fn tmps).run P w = ((asAddr (tmps.getD p undef)).run P w).andThen fun a w₁ => (loadVar ty a).run P w₁ := by
  simp only [results, h]
  simp [Sem.run_bind, Result.andThen]
/-- a return of a number -/
theorem ret_frac {fn : Func} {R : Ending → World → Prop} {act : Act} {W : World} {g p : Nat} {a b c : Value} (hr : fn.results = #[.cell p 75]) (hs : act.tmps.getD p undef = .pointer (some ⟨g, 0, none⟩))
    (hB : Blk W g 75 #[a, b, c]) (hd : act.defers = []) (hR : R (.returned (.agg #[a, b, c])) W) : bodyPost Tryd.prog fn R .ret act W :=
  bodyPost_ret (v := .agg #[a, b, c]) (by rw [results_cell hr, hs]; simp [asAddr, load_frac hB]) hd hR
end Go.Proofs.YtjpdgnbdbpgnmaaDoor.Fr
