/- The steps of a recipe, as function values. -/
import Derived.Test.YtoljffghaklpdaaGreatDoorEA
import Derived.Deep.RegionHeld3
import Derived.Deep.RegionWith
namespace Go.Proofs.YtoljffghaklpdaaGreatDoor
open Go.RowKit

theorem cell_bel {w1 w2 : World} {p : Addr} {v : Value} (h : w1.cell? p = some v) (hb : Below w1.heap.size w1 w2) : w2.cell? p = some v := (hb.cell (World.block_lt_of_cell? _ _ h)).trans h

/-- the steps lie at gs: whether each is wanted, and its function -/
structure StB (w' : World) (gs g1 g3 g4 g5 g6 : Nat) (RC : Value) (cb diff ctr : Bool) : Prop where
  blk : Blk w' gs 93 #[.bool true, .func (.func 166) #[] #[.pointer (some ⟨g1, 0, none⟩)], .bool true, .func (.func 122) #[RC] #[], .bool true, .func (.func 166) #[] #[.pointer (some ⟨g3, 0, none⟩)], .bool true, .func (.func 166) #[] #[.pointer (some ⟨g4, 0, none⟩)], .bool true, .func (.func 166) #[] #[.pointer (some ⟨g5, 0, none⟩)], .bool cb, .func (.func 166) #[] #[.pointer (some ⟨g6, 0, none⟩)], .bool diff, .func (.func 45) #[] #[], .bool ctr, .func (.func 127) #[] #[]]
  k1 : w'.cell? ⟨g1, 0, none⟩ = some (.func (.func 121) #[RC] #[])
  k3 : w'.cell? ⟨g3, 0, none⟩ = some (.func (.func 123) #[RC] #[])
  k4 : w'.cell? ⟨g4, 0, none⟩ = some (.func (.func 124) #[RC] #[])
  k5 : w'.cell? ⟨g5, 0, none⟩ = some (.func (.func 125) #[RC] #[])
  k6 : w'.cell? ⟨g6, 0, none⟩ = some (.func (.func 126) #[RC] #[])

def StP (RC : Value) (cb diff ctr : Bool) (w : World) (e : Ending) (w' : World) : Prop := ∃ gs g1 g3 g4 g5 g6, e = .returned (.slice (some ⟨gs, 0, none⟩) 8 8) ∧ StB w' gs g1 g3 g4 g5 g6 RC cb diff ctr ∧ Below w.heap.size w w'

/-- a closure that is made, or not yet -/
def CloAt (w : World) (o : Option Nat) (v : Value) : Prop := ∀ g, o = some g → w.cell? ⟨g, 0, none⟩ = some v
theorem CloAt.bel {w w' : World} {o : Option Nat} {v : Value} (h : CloAt w o v) (hb : Below w.heap.size w w') : CloAt w' o v := fun g e => cell_bel (h g e) hb
def cvO (o : Option Nat) : Value := match o with | none => undef | some g => .func (.func 166) #[] #[.pointer (some ⟨g, 0, none⟩)]
def cbO (b : Bool) (o : Option Nat) : Value := match o with | none => undef | some g => .agg #[.bool b, .func (.func 166) #[] #[.pointer (some ⟨g, 0, none⟩)]]
def cn (o : Option Nat) : Nat := match o with | none => 2 | some _ => 0

set_option linter.unusedSimpArgs false
set_option maxHeartbeats 20000000 in
set_option maxRecDepth 100000 in
theorem steps_any (num den size step kind points cep : Int) (A : Option Addr) (n c : Nat) (diff ctr cb : Bool) (hcb : (cep != 0) = cb) (w : World) :
    Calls Tryz.prog 50 #[rcV num den size step kind points (.slice A n c) cep diff ctr] w (StP (rcV num den size step kind points (.slice A n c) cep diff ctr) cb diff ctr w) := by
  have hmf : ∀ (fn : Fn) (first cap : Array Value) (w : World), (Instr.makeFunc fn first cap).run Tryz.prog w = .ok (.func fn first cap) w := fun _ _ _ _ => rfl
  have hb0 := (Below.refl w.heap.size w).alloc (Nat.le_refl _) (.cells #[.int .i64 num, .int .i64 den, .int .i64 size, .int .i64 step, .int .i64 kind, .int .i64 points, .slice A n c, .int .i64 cep, .bool diff, .bool ctr] 90)
  have hsz : (w.alloc (.cells #[.int .i64 num, .int .i64 den, .int .i64 size, .int .i64 step, .int .i64 kind, .int .i64 points, .slice A n c, .int .i64 cep, .bool diff, .bool ctr] 90)).heap.size = w.heap.size + 1 := by simp
  have f0 : (w.alloc (.cells #[.int .i64 num, .int .i64 den, .int .i64 size, .int .i64 step, .int .i64 kind, .int .i64 points, .slice A n c, .int .i64 cep, .bool diff, .bool ctr] 90)).cell? ⟨w.heap.size, 0, none⟩ = some (.int .i64 num) := by simp
  have f1 : (w.alloc (.cells #[.int .i64 num, .int .i64 den, .int .i64 size, .int .i64 step, .int .i64 kind, .int .i64 points, .slice A n c, .int .i64 cep, .bool diff, .bool ctr] 90)).cell? ⟨w.heap.size, 1, none⟩ = some (.int .i64 den) := by simp
  have f2 : (w.alloc (.cells #[.int .i64 num, .int .i64 den, .int .i64 size, .int .i64 step, .int .i64 kind, .int .i64 points, .slice A n c, .int .i64 cep, .bool diff, .bool ctr] 90)).cell? ⟨w.heap.size, 2, none⟩ = some (.int .i64 size) := by simp
  have f3 : (w.alloc (.cells #[.int .i64 num, .int .i64 den, .int .i64 size, .int .i64 step, .int .i64 kind, .int .i64 points, .slice A n c, .int .i64 cep, .bool diff, .bool ctr] 90)).cell? ⟨w.heap.size, 3, none⟩ = some (.int .i64 step) := by simp
  have f4 : (w.alloc (.cells #[.int .i64 num, .int .i64 den, .int .i64 size, .int .i64 step, .int .i64 kind, .int .i64 points, .slice A n c, .int .i64 cep, .bool diff, .bool ctr] 90)).cell? ⟨w.heap.size, 4, none⟩ = some (.int .i64 kind) := by simp
  have f5 : (w.alloc (.cells #[.int .i64 num, .int .i64 den, .int .i64 size, .int .i64 step, .int .i64 kind, .int .i64 points, .slice A n c, .int .i64 cep, .bool diff, .bool ctr] 90)).cell? ⟨w.heap.size, 5, none⟩ = some (.int .i64 points) := by simp
  have f6 : (w.alloc (.cells #[.int .i64 num, .int .i64 den, .int .i64 size, .int .i64 step, .int .i64 kind, .int .i64 points, .slice A n c, .int .i64 cep, .bool diff, .bool ctr] 90)).cell? ⟨w.heap.size, 6, none⟩ = some (.slice A n c) := by simp
  have f7 : (w.alloc (.cells #[.int .i64 num, .int .i64 den, .int .i64 size, .int .i64 step, .int .i64 kind, .int .i64 points, .slice A n c, .int .i64 cep, .bool diff, .bool ctr] 90)).cell? ⟨w.heap.size, 7, none⟩ = some (.int .i64 cep) := by simp
  have f8 : (w.alloc (.cells #[.int .i64 num, .int .i64 den, .int .i64 size, .int .i64 step, .int .i64 kind, .int .i64 points, .slice A n c, .int .i64 cep, .bool diff, .bool ctr] 90)).cell? ⟨w.heap.size, 8, none⟩ = some (.bool diff) := by simp
  have f9 : (w.alloc (.cells #[.int .i64 num, .int .i64 den, .int .i64 size, .int .i64 step, .int .i64 kind, .int .i64 points, .slice A n c, .int .i64 cep, .bool diff, .bool ctr] 90)).cell? ⟨w.heap.size, 9, none⟩ = some (.bool ctr) := by simp
  unfold rcV
  go_enter Tryz.func50, Tryz.ntmps50
  go_wp2
  generalize (w.alloc (.cells #[.int .i64 num, .int .i64 den, .int .i64 size, .int .i64 step, .int .i64 kind, .int .i64 points, .slice A n c, .int .i64 cep, .bool diff, .bool ctr] 90)) = w1 at *
  have hKeep := Lib.hid (fun (wx : World) (hb : Below w1.heap.size w1 wx) => (⟨(hb.cell (World.block_lt_of_cell? _ _ f0)).trans f0, (hb.cell (World.block_lt_of_cell? _ _ f1)).trans f1, (hb.cell (World.block_lt_of_cell? _ _ f2)).trans f2, (hb.cell (World.block_lt_of_cell? _ _ f3)).trans f3, (hb.cell (World.block_lt_of_cell? _ _ f4)).trans f4, (hb.cell (World.block_lt_of_cell? _ _ f5)).trans f5, (hb.cell (World.block_lt_of_cell? _ _ f6)).trans f6, (hb.cell (World.block_lt_of_cell? _ _ f7)).trans f7, (hb.cell (World.block_lt_of_cell? _ _ f8)).trans f8, (hb.cell (World.block_lt_of_cell? _ _ f9)).trans f9⟩ : wx.cell? ⟨w.heap.size, 0, none⟩ = some (.int .i64 num) ∧ wx.cell? ⟨w.heap.size, 1, none⟩ = some (.int .i64 den) ∧ wx.cell? ⟨w.heap.size, 2, none⟩ = some (.int .i64 size) ∧ wx.cell? ⟨w.heap.size, 3, none⟩ = some (.int .i64 step) ∧ wx.cell? ⟨w.heap.size, 4, none⟩ = some (.int .i64 kind) ∧ wx.cell? ⟨w.heap.size, 5, none⟩ = some (.int .i64 points) ∧ wx.cell? ⟨w.heap.size, 6, none⟩ = some (.slice A n c) ∧ wx.cell? ⟨w.heap.size, 7, none⟩ = some (.int .i64 cep) ∧ wx.cell? ⟨w.heap.size, 8, none⟩ = some (.bool diff) ∧ wx.cell? ⟨w.heap.size, 9, none⟩ = some (.bool ctr)))
  clear f0 f1 f2 f3 f4 f5 f6 f7 f8 f9
  have hB := bel_drewN (Below.refl w1.heap.size w1) 1
  have hsz := Lib.hid hsz
  refine wp_region_held_drew (S := (fun wx => wx.cell? ⟨w.heap.size, 0, none⟩ = some (.int .i64 num) ∧ wx.cell? ⟨w.heap.size, 1, none⟩ = some (.int .i64 den) ∧ wx.cell? ⟨w.heap.size, 2, none⟩ = some (.int .i64 size) ∧ wx.cell? ⟨w.heap.size, 3, none⟩ = some (.int .i64 step) ∧ wx.cell? ⟨w.heap.size, 4, none⟩ = some (.int .i64 kind) ∧ wx.cell? ⟨w.heap.size, 5, none⟩ = some (.int .i64 points) ∧ wx.cell? ⟨w.heap.size, 6, none⟩ = some (.slice A n c) ∧ wx.cell? ⟨w.heap.size, 7, none⟩ = some (.int .i64 cep) ∧ wx.cell? ⟨w.heap.size, 8, none⟩ = some (.bool diff) ∧ wx.cell? ⟨w.heap.size, 9, none⟩ = some (.bool ctr))) (by kernel_rfl) (hKeep.out _ hB) (fun hHeld => ?_)
  refine wpAnyH_take (i := 0) (v := (.agg #[.int .i64 num, .int .i64 den, .int .i64 size, .int .i64 step, .int .i64 kind, .int .i64 points, .slice A n c, .int .i64 cep, .bool diff, .bool ctr])) rfl (by kernel_rfl) (by kernel_rfl) (by kernel_rfl) (fun _ _ _ h => h) (Or.inl ⟨by kernel_rfl, by (intro w hSw; (try dsimp only at hSw); go_simp)⟩) hHeld ?_
  simp only [Act.put, List.getElem_toArray, List.getElem_cons_succ, List.getElem_cons_zero, List.setIfInBounds_toArray, List.set_cons_zero, List.set_cons_succ]
  refine wpAnyH_take (i := 1) (v := .func (.func 121) #[(.agg #[.int .i64 num, .int .i64 den, .int .i64 size, .int .i64 step, .int .i64 kind, .int .i64 points, .slice A n c, .int .i64 cep, .bool diff, .bool ctr])] #[]) rfl (by kernel_rfl) (by kernel_rfl) (by kernel_rfl) (fun _ _ _ h => h) (Or.inl ⟨by kernel_rfl, by (intro w hSw; (try dsimp only at hSw); go_simp)⟩) hHeld ?_
  simp only [Act.put, List.getElem_toArray, List.getElem_cons_succ, List.getElem_cons_zero, List.setIfInBounds_toArray, List.set_cons_zero, List.set_cons_succ]
  refine wpAnyH_take (i := 4) (v := (.agg #[.int .i64 num, .int .i64 den, .int .i64 size, .int .i64 step, .int .i64 kind, .int .i64 points, .slice A n c, .int .i64 cep, .bool diff, .bool ctr])) rfl (by kernel_rfl) (by kernel_rfl) (by kernel_rfl) (fun _ _ _ h => h) (Or.inl ⟨by kernel_rfl, by (intro w hSw; (try dsimp only at hSw); go_simp)⟩) hHeld ?_
  simp only [Act.put, List.getElem_toArray, List.getElem_cons_succ, List.getElem_cons_zero, List.setIfInBounds_toArray, List.set_cons_zero, List.set_cons_succ]
  refine wpAnyH_take (i := 5) (v := .func (.func 122) #[(.agg #[.int .i64 num, .int .i64 den, .int .i64 size, .int .i64 step, .int .i64 kind, .int .i64 points, .slice A n c, .int .i64 cep, .bool diff, .bool ctr])] #[]) rfl (by kernel_rfl) (by kernel_rfl) (by kernel_rfl) (fun _ _ _ h => h) (Or.inl ⟨by kernel_rfl, by (intro w hSw; (try dsimp only at hSw); go_simp)⟩) hHeld ?_
  simp only [Act.put, List.getElem_toArray, List.getElem_cons_succ, List.getElem_cons_zero, List.setIfInBounds_toArray, List.set_cons_zero, List.set_cons_succ]
  refine wpAnyH_take (i := 6) (v := .agg #[.bool true, .func (.func 122) #[(.agg #[.int .i64 num, .int .i64 den, .int .i64 size, .int .i64 step, .int .i64 kind, .int .i64 points, .slice A n c, .int .i64 cep, .bool diff, .bool ctr])] #[]]) rfl (by kernel_rfl) (by kernel_rfl) (by kernel_rfl) (fun _ _ _ h => h) (Or.inl ⟨by kernel_rfl, by (intro w hSw; (try dsimp only at hSw); go_simp)⟩) hHeld ?_
  simp only [Act.put, List.getElem_toArray, List.getElem_cons_succ, List.getElem_cons_zero, List.setIfInBounds_toArray, List.set_cons_zero, List.set_cons_succ]
  refine wpAnyH_take (i := 7) (v := (.agg #[.int .i64 num, .int .i64 den, .int .i64 size, .int .i64 step, .int .i64 kind, .int .i64 points, .slice A n c, .int .i64 cep, .bool diff, .bool ctr])) rfl (by kernel_rfl) (by kernel_rfl) (by kernel_rfl) (fun _ _ _ h => h) (Or.inl ⟨by kernel_rfl, by (intro w hSw; (try dsimp only at hSw); go_simp)⟩) hHeld ?_
  simp only [Act.put, List.getElem_toArray, List.getElem_cons_succ, List.getElem_cons_zero, List.setIfInBounds_toArray, List.set_cons_zero, List.set_cons_succ]
  refine wpAnyH_take (i := 8) (v := .func (.func 123) #[(.agg #[.int .i64 num, .int .i64 den, .int .i64 size, .int .i64 step, .int .i64 kind, .int .i64 points, .slice A n c, .int .i64 cep, .bool diff, .bool ctr])] #[]) rfl (by kernel_rfl) (by kernel_rfl) (by kernel_rfl) (fun _ _ _ h => h) (Or.inl ⟨by kernel_rfl, by (intro w hSw; (try dsimp only at hSw); go_simp)⟩) hHeld ?_
  simp only [Act.put, List.getElem_toArray, List.getElem_cons_succ, List.getElem_cons_zero, List.setIfInBounds_toArray, List.set_cons_zero, List.set_cons_succ]
  refine wpAnyH_take (i := 11) (v := (.agg #[.int .i64 num, .int .i64 den, .int .i64 size, .int .i64 step, .int .i64 kind, .int .i64 points, .slice A n c, .int .i64 cep, .bool diff, .bool ctr])) rfl (by kernel_rfl) (by kernel_rfl) (by kernel_rfl) (fun _ _ _ h => h) (Or.inl ⟨by kernel_rfl, by (intro w hSw; (try dsimp only at hSw); go_simp)⟩) hHeld ?_
  simp only [Act.put, List.getElem_toArray, List.getElem_cons_succ, List.getElem_cons_zero, List.setIfInBounds_toArray, List.set_cons_zero, List.set_cons_succ]
  refine wpAnyH_take (i := 12) (v := .func (.func 124) #[(.agg #[.int .i64 num, .int .i64 den, .int .i64 size, .int .i64 step, .int .i64 kind, .int .i64 points, .slice A n c, .int .i64 cep, .bool diff, .bool ctr])] #[]) rfl (by kernel_rfl) (by kernel_rfl) (by kernel_rfl) (fun _ _ _ h => h) (Or.inl ⟨by kernel_rfl, by (intro w hSw; (try dsimp only at hSw); go_simp)⟩) hHeld ?_
  simp only [Act.put, List.getElem_toArray, List.getElem_cons_succ, List.getElem_cons_zero, List.setIfInBounds_toArray, List.set_cons_zero, List.set_cons_succ]
  refine wpAnyH_take (i := 15) (v := (.agg #[.int .i64 num, .int .i64 den, .int .i64 size, .int .i64 step, .int .i64 kind, .int .i64 points, .slice A n c, .int .i64 cep, .bool diff, .bool ctr])) rfl (by kernel_rfl) (by kernel_rfl) (by kernel_rfl) (fun _ _ _ h => h) (Or.inl ⟨by kernel_rfl, by (intro w hSw; (try dsimp only at hSw); go_simp)⟩) hHeld ?_
  simp only [Act.put, List.getElem_toArray, List.getElem_cons_succ, List.getElem_cons_zero, List.setIfInBounds_toArray, List.set_cons_zero, List.set_cons_succ]
  refine wpAnyH_take (i := 16) (v := .func (.func 125) #[(.agg #[.int .i64 num, .int .i64 den, .int .i64 size, .int .i64 step, .int .i64 kind, .int .i64 points, .slice A n c, .int .i64 cep, .bool diff, .bool ctr])] #[]) rfl (by kernel_rfl) (by kernel_rfl) (by kernel_rfl) (fun _ _ _ h => h) (Or.inl ⟨by kernel_rfl, by (intro w hSw; (try dsimp only at hSw); go_simp)⟩) hHeld ?_
  simp only [Act.put, List.getElem_toArray, List.getElem_cons_succ, List.getElem_cons_zero, List.setIfInBounds_toArray, List.set_cons_zero, List.set_cons_succ]
  refine wpAnyH_take (i := 19) (v := .pointer (some ⟨w.heap.size, 0, none⟩)) rfl (by kernel_rfl) (by kernel_rfl) (by kernel_rfl) (fun _ _ _ h => h) (Or.inl ⟨by kernel_rfl, by (intro w hSw; (try dsimp only at hSw); go_simp)⟩) hHeld ?_
  simp only [Act.put, List.getElem_toArray, List.getElem_cons_succ, List.getElem_cons_zero, List.setIfInBounds_toArray, List.set_cons_zero, List.set_cons_succ]
  refine wpAnyH_take (i := 20) (v := .pointer (some ⟨w.heap.size, 7, none⟩)) rfl (by kernel_rfl) (by kernel_rfl) (by kernel_rfl) (fun _ _ _ h => h) (Or.inl ⟨by kernel_rfl, by (intro w hSw; (try dsimp only at hSw); go_simp)⟩) hHeld ?_
  simp only [Act.put, List.getElem_toArray, List.getElem_cons_succ, List.getElem_cons_zero, List.setIfInBounds_toArray, List.set_cons_zero, List.set_cons_succ]
  refine wpAnyH_take (i := 21) (v := .int .i64 cep) rfl (by kernel_rfl) (by kernel_rfl) (by kernel_rfl) (fun _ _ _ h => h) (Or.inl ⟨by kernel_rfl, by (intro w hSw; (try dsimp only at hSw); go_simp)⟩) hHeld ?_
  simp only [Act.put, List.getElem_toArray, List.getElem_cons_succ, List.getElem_cons_zero, List.setIfInBounds_toArray, List.set_cons_zero, List.set_cons_succ]
  refine wpAnyH_take (i := 22) (v := .bool cb) rfl (by kernel_rfl) (by kernel_rfl) (by kernel_rfl) (fun _ _ _ h => h) (Or.inl ⟨by kernel_rfl, by (intro w hSw; (try dsimp only at hSw); go_simp)⟩) hHeld ?_
  simp only [Act.put, List.getElem_toArray, List.getElem_cons_succ, List.getElem_cons_zero, List.setIfInBounds_toArray, List.set_cons_zero, List.set_cons_succ]
  refine wpAnyH_take (i := 23) (v := (.agg #[.int .i64 num, .int .i64 den, .int .i64 size, .int .i64 step, .int .i64 kind, .int .i64 points, .slice A n c, .int .i64 cep, .bool diff, .bool ctr])) rfl (by kernel_rfl) (by kernel_rfl) (by kernel_rfl) (fun _ _ _ h => h) (Or.inl ⟨by kernel_rfl, by (intro w hSw; (try dsimp only at hSw); go_simp)⟩) hHeld ?_
  simp only [Act.put, List.getElem_toArray, List.getElem_cons_succ, List.getElem_cons_zero, List.setIfInBounds_toArray, List.set_cons_zero, List.set_cons_succ]
  refine wpAnyH_take (i := 24) (v := .func (.func 126) #[(.agg #[.int .i64 num, .int .i64 den, .int .i64 size, .int .i64 step, .int .i64 kind, .int .i64 points, .slice A n c, .int .i64 cep, .bool diff, .bool ctr])] #[]) rfl (by kernel_rfl) (by kernel_rfl) (by kernel_rfl) (fun _ _ _ h => h) (Or.inl ⟨by kernel_rfl, by (intro w hSw; (try dsimp only at hSw); go_simp)⟩) hHeld ?_
  simp only [Act.put, List.getElem_toArray, List.getElem_cons_succ, List.getElem_cons_zero, List.setIfInBounds_toArray, List.set_cons_zero, List.set_cons_succ]
  refine wpAnyH_take (i := 27) (v := .pointer (some ⟨w.heap.size, 0, none⟩)) rfl (by kernel_rfl) (by kernel_rfl) (by kernel_rfl) (fun _ _ _ h => h) (Or.inl ⟨by kernel_rfl, by (intro w hSw; (try dsimp only at hSw); go_simp)⟩) hHeld ?_
  simp only [Act.put, List.getElem_toArray, List.getElem_cons_succ, List.getElem_cons_zero, List.setIfInBounds_toArray, List.set_cons_zero, List.set_cons_succ]
  refine wpAnyH_take (i := 28) (v := .pointer (some ⟨w.heap.size, 8, none⟩)) rfl (by kernel_rfl) (by kernel_rfl) (by kernel_rfl) (fun _ _ _ h => h) (Or.inl ⟨by kernel_rfl, by (intro w hSw; (try dsimp only at hSw); go_simp)⟩) hHeld ?_
  simp only [Act.put, List.getElem_toArray, List.getElem_cons_succ, List.getElem_cons_zero, List.setIfInBounds_toArray, List.set_cons_zero, List.set_cons_succ]
  refine wpAnyH_take (i := 29) (v := .bool diff) rfl (by kernel_rfl) (by kernel_rfl) (by kernel_rfl) (fun _ _ _ h => h) (Or.inl ⟨by kernel_rfl, by (intro w hSw; (try dsimp only at hSw); go_simp)⟩) hHeld ?_
  simp only [Act.put, List.getElem_toArray, List.getElem_cons_succ, List.getElem_cons_zero, List.setIfInBounds_toArray, List.set_cons_zero, List.set_cons_succ]
  refine wpAnyH_take (i := 30) (v := .agg #[.bool diff, .func (.func 45) #[] #[]]) rfl (by kernel_rfl) (by kernel_rfl) (by kernel_rfl) (fun _ _ _ h => h) (Or.inl ⟨by kernel_rfl, by (intro w hSw; (try dsimp only at hSw); go_simp)⟩) hHeld ?_
  simp only [Act.put, List.getElem_toArray, List.getElem_cons_succ, List.getElem_cons_zero, List.setIfInBounds_toArray, List.set_cons_zero, List.set_cons_succ]
  refine wpAnyH_take (i := 31) (v := .pointer (some ⟨w.heap.size, 0, none⟩)) rfl (by kernel_rfl) (by kernel_rfl) (by kernel_rfl) (fun _ _ _ h => h) (Or.inl ⟨by kernel_rfl, by (intro w hSw; (try dsimp only at hSw); go_simp)⟩) hHeld ?_
  simp only [Act.put, List.getElem_toArray, List.getElem_cons_succ, List.getElem_cons_zero, List.setIfInBounds_toArray, List.set_cons_zero, List.set_cons_succ]
  refine wpAnyH_take (i := 32) (v := .pointer (some ⟨w.heap.size, 9, none⟩)) rfl (by kernel_rfl) (by kernel_rfl) (by kernel_rfl) (fun _ _ _ h => h) (Or.inl ⟨by kernel_rfl, by (intro w hSw; (try dsimp only at hSw); go_simp)⟩) hHeld ?_
  simp only [Act.put, List.getElem_toArray, List.getElem_cons_succ, List.getElem_cons_zero, List.setIfInBounds_toArray, List.set_cons_zero, List.set_cons_succ]
  refine wpAnyH_take (i := 33) (v := .bool ctr) rfl (by kernel_rfl) (by kernel_rfl) (by kernel_rfl) (fun _ _ _ h => h) (Or.inl ⟨by kernel_rfl, by (intro w hSw; (try dsimp only at hSw); go_simp)⟩) hHeld ?_
  simp only [Act.put, List.getElem_toArray, List.getElem_cons_succ, List.getElem_cons_zero, List.setIfInBounds_toArray, List.set_cons_zero, List.set_cons_succ]
  refine wpAnyH_take (i := 34) (v := .agg #[.bool ctr, .func (.func 127) #[] #[]]) rfl (by kernel_rfl) (by kernel_rfl) (by kernel_rfl) (fun _ _ _ h => h) (Or.inl ⟨by kernel_rfl, by (intro w hSw; (try dsimp only at hSw); go_simp)⟩) hHeld ?_
  simp only [Act.put, List.getElem_toArray, List.getElem_cons_succ, List.getElem_cons_zero, List.setIfInBounds_toArray, List.set_cons_zero, List.set_cons_succ]
  generalize hRC : Value.agg #[.int .i64 num, .int .i64 den, .int .i64 size, .int .i64 step, .int .i64 kind, .int .i64 points, .slice A n c, .int .i64 cep, .bool diff, .bool ctr] = RC
  have hRC := Lib.hid hRC
  refine wpAnyH_ready (rs := [2]) (by kernel_rfl) (by simp) ?_
  refine AllReadyH.cons rfl (fun K hK => ?_) AllReadyH.nil
  go_simp
  refine (each_any 121 _ _).mono ?_
  rintro e w5 ⟨g1, rfl, k1, hb5⟩
  replace hB := hB.trans (hb5.mono hB.size)
  clear hb5
  go_wp2_with fail
  refine hK.out _ _ ?_ (fun hHeld => ?_)
  · exact hKeep.out _ hB
  clear hK K
  try simp only [Act.put, List.getElem_toArray, List.getElem_cons_succ, List.getElem_cons_zero, List.setIfInBounds_toArray, List.set_cons_zero, List.set_cons_succ]
  refine wpAnyH_take (i := 3) (v := .agg #[.bool true, .func (.func 166) #[] #[.pointer (some ⟨g1, 0, none⟩)]]) rfl (by kernel_rfl) (by kernel_rfl) (by kernel_rfl) (fun _ _ _ h => h) (Or.inl ⟨by kernel_rfl, by (intro w hSw; (try dsimp only at hSw); go_simp)⟩) hHeld ?_
  simp only [Act.put, List.getElem_toArray, List.getElem_cons_succ, List.getElem_cons_zero, List.setIfInBounds_toArray, List.set_cons_zero, List.set_cons_succ]
  refine wpAnyH_ready (rs := [9]) (by kernel_rfl) (by simp) ?_
  refine AllReadyH.cons rfl (fun K hK => ?_) AllReadyH.nil
  go_simp
  refine (each_any 123 _ _).mono ?_
  rintro e w5 ⟨g3, rfl, k3, hb5⟩
  replace hB := hB.trans (hb5.mono hB.size)
  replace k1 := cell_bel k1 hb5
  clear hb5
  go_wp2_with fail
  refine hK.out _ _ ?_ (fun hHeld => ?_)
  · exact hKeep.out _ hB
  clear hK K
  try simp only [Act.put, List.getElem_toArray, List.getElem_cons_succ, List.getElem_cons_zero, List.setIfInBounds_toArray, List.set_cons_zero, List.set_cons_succ]
  refine wpAnyH_take (i := 10) (v := .agg #[.bool true, .func (.func 166) #[] #[.pointer (some ⟨g3, 0, none⟩)]]) rfl (by kernel_rfl) (by kernel_rfl) (by kernel_rfl) (fun _ _ _ h => h) (Or.inl ⟨by kernel_rfl, by (intro w hSw; (try dsimp only at hSw); go_simp)⟩) hHeld ?_
  simp only [Act.put, List.getElem_toArray, List.getElem_cons_succ, List.getElem_cons_zero, List.setIfInBounds_toArray, List.set_cons_zero, List.set_cons_succ]
  refine wpAnyH_ready (rs := [13]) (by kernel_rfl) (by simp) ?_
  refine AllReadyH.cons rfl (fun K hK => ?_) AllReadyH.nil
  go_simp
  refine (each_any 124 _ _).mono ?_
  rintro e w5 ⟨g4, rfl, k4, hb5⟩
  replace hB := hB.trans (hb5.mono hB.size)
  replace k1 := cell_bel k1 hb5
  replace k3 := cell_bel k3 hb5
  clear hb5
  go_wp2_with fail
  refine hK.out _ _ ?_ (fun hHeld => ?_)
  · exact hKeep.out _ hB
  clear hK K
  try simp only [Act.put, List.getElem_toArray, List.getElem_cons_succ, List.getElem_cons_zero, List.setIfInBounds_toArray, List.set_cons_zero, List.set_cons_succ]
  refine wpAnyH_take (i := 14) (v := .agg #[.bool true, .func (.func 166) #[] #[.pointer (some ⟨g4, 0, none⟩)]]) rfl (by kernel_rfl) (by kernel_rfl) (by kernel_rfl) (fun _ _ _ h => h) (Or.inl ⟨by kernel_rfl, by (intro w hSw; (try dsimp only at hSw); go_simp)⟩) hHeld ?_
  simp only [Act.put, List.getElem_toArray, List.getElem_cons_succ, List.getElem_cons_zero, List.setIfInBounds_toArray, List.set_cons_zero, List.set_cons_succ]
  refine wpAnyH_ready (rs := [17]) (by kernel_rfl) (by simp) ?_
  refine AllReadyH.cons rfl (fun K hK => ?_) AllReadyH.nil
  go_simp
  refine (each_any 125 _ _).mono ?_
  rintro e w5 ⟨g5, rfl, k5, hb5⟩
  replace hB := hB.trans (hb5.mono hB.size)
  replace k1 := cell_bel k1 hb5
  replace k3 := cell_bel k3 hb5
  replace k4 := cell_bel k4 hb5
  clear hb5
  go_wp2_with fail
  refine hK.out _ _ ?_ (fun hHeld => ?_)
  · exact hKeep.out _ hB
  clear hK K
  try simp only [Act.put, List.getElem_toArray, List.getElem_cons_succ, List.getElem_cons_zero, List.setIfInBounds_toArray, List.set_cons_zero, List.set_cons_succ]
  refine wpAnyH_take (i := 18) (v := .agg #[.bool true, .func (.func 166) #[] #[.pointer (some ⟨g5, 0, none⟩)]]) rfl (by kernel_rfl) (by kernel_rfl) (by kernel_rfl) (fun _ _ _ h => h) (Or.inl ⟨by kernel_rfl, by (intro w hSw; (try dsimp only at hSw); go_simp)⟩) hHeld ?_
  simp only [Act.put, List.getElem_toArray, List.getElem_cons_succ, List.getElem_cons_zero, List.setIfInBounds_toArray, List.set_cons_zero, List.set_cons_succ]
  refine wpAnyH_ready (rs := [25]) (by kernel_rfl) (by simp) ?_
  refine AllReadyH.cons rfl (fun K hK => ?_) AllReadyH.nil
  go_simp
  refine (each_any 126 _ _).mono ?_
  rintro e w5 ⟨g6, rfl, k6, hb5⟩
  replace hB := hB.trans (hb5.mono hB.size)
  replace k1 := cell_bel k1 hb5
  replace k3 := cell_bel k3 hb5
  replace k4 := cell_bel k4 hb5
  replace k5 := cell_bel k5 hb5
  clear hb5
  go_wp2_with fail
  refine hK.out _ _ ?_ (fun hHeld => ?_)
  · exact hKeep.out _ hB
  clear hK K
  try simp only [Act.put, List.getElem_toArray, List.getElem_cons_succ, List.getElem_cons_zero, List.setIfInBounds_toArray, List.set_cons_zero, List.set_cons_succ]
  refine wpAnyH_take (i := 26) (v := .agg #[.bool cb, .func (.func 166) #[] #[.pointer (some ⟨g6, 0, none⟩)]]) rfl (by kernel_rfl) (by kernel_rfl) (by kernel_rfl) (fun _ _ _ h => h) (Or.inl ⟨by kernel_rfl, by (intro w hSw; (try dsimp only at hSw); go_simp)⟩) hHeld ?_
  simp only [Act.put, List.getElem_toArray, List.getElem_cons_succ, List.getElem_cons_zero, List.setIfInBounds_toArray, List.set_cons_zero, List.set_cons_succ]
  refine wpAnyH_ready (rs := [35]) (by kernel_rfl) (by simp) ?_
  refine AllReadyH.cons rfl (fun K hK => ?_) AllReadyH.nil
  have hba := (Below.refl w5.heap.size w5).alloc (Nat.le_refl _) (.cells #[.bool true, .func (.func 166) #[] #[.pointer (some ⟨g1, 0, none⟩)], .bool true, .func (.func 122) #[RC] #[], .bool true, .func (.func 166) #[] #[.pointer (some ⟨g3, 0, none⟩)], .bool true, .func (.func 166) #[] #[.pointer (some ⟨g4, 0, none⟩)], .bool true, .func (.func 166) #[] #[.pointer (some ⟨g5, 0, none⟩)], .bool cb, .func (.func 166) #[] #[.pointer (some ⟨g6, 0, none⟩)], .bool diff, .func (.func 45) #[] #[], .bool ctr, .func (.func 127) #[] #[]] 93)
  have hBa := hB.trans (hba.mono hB.size)
  have hZ : StB (w5.alloc (.cells #[.bool true, .func (.func 166) #[] #[.pointer (some ⟨g1, 0, none⟩)], .bool true, .func (.func 122) #[RC] #[], .bool true, .func (.func 166) #[] #[.pointer (some ⟨g3, 0, none⟩)], .bool true, .func (.func 166) #[] #[.pointer (some ⟨g4, 0, none⟩)], .bool true, .func (.func 166) #[] #[.pointer (some ⟨g5, 0, none⟩)], .bool cb, .func (.func 166) #[] #[.pointer (some ⟨g6, 0, none⟩)], .bool diff, .func (.func 45) #[] #[], .bool ctr, .func (.func 127) #[] #[]] 93)) w5.heap.size g1 g3 g4 g5 g6 RC cb diff ctr := ⟨Blk.new _ _ _, cell_bel k1 hba, cell_bel k3 hba, cell_bel k4 hba, cell_bel k5 hba, cell_bel k6 hba⟩
  go_simp
  refine hK.out _ _ ?_ (fun hHeld => ?_)
  · exact hKeep.out _ hBa
  clear hK K
  try simp only [Act.put, List.getElem_toArray, List.getElem_cons_succ, List.getElem_cons_zero, List.setIfInBounds_toArray, List.set_cons_zero, List.set_cons_succ]
  refine wpAnyH_take (i := 36) (v := .slice (some ⟨w5.heap.size, 0, none⟩) 8 8) rfl (by kernel_rfl) (by kernel_rfl) (by kernel_rfl) (fun _ _ _ h => h) (Or.inl ⟨by kernel_rfl, by (intro w hSw; (try dsimp only at hSw); go_simp)⟩) hHeld ?_
  simp only [Act.put, List.getElem_toArray, List.getElem_cons_succ, List.getElem_cons_zero, List.setIfInBounds_toArray, List.set_cons_zero, List.set_cons_succ]
  refine wpAnyH_done (by kernel_rfl) ?_ _
  have hBz := hb0.trans (hBa.mono (by rw [hsz.out]; omega))
  clear hBa hba hB hHeld hKeep k1 k3 k4 k5 k6
  go_wp2
  go_ret
  exact ⟨w5.heap.size, g1, g3, g4, g5, g6, rfl, (by rw [hRC.out]; exact hZ), hBz⟩
end Go.Proofs.YtoljffghaklpdaaGreatDoor
