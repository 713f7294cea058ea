/- Ordinal words, and which cardinal words they belong to. -/
import Derived.Test.YtpdfjlbfhnapkaaGreatDoorSG
namespace Go.Proofs.YtpdfjlbfhnapkaaGreatDoor
open Go.RowKit
set_option linter.unusedSimpArgs false

def findL : List (Str × Str) → Str → Option Str
  | [], _ => none
  | p :: ps, x => if p.1 = x then some p.2 else findL ps x
theorem findL_hit {a b : Str} {ps : List (Str × Str)} {x : Str} (h : a = x) : findL ((a, b) :: ps) x = some b := if_pos h
theorem findL_miss {a b : Str} {ps : List (Str × Str)} {x : Str} (h : ¬ a = x) : findL ((a, b) :: ps) x = findL ps x := if_neg h
theorem cutSuf_any (x p : Str) (hx : x.length ≤ 1000000) (w : World) :
    Calls Tryz.prog 151 #[.string ⟨x.toArray⟩, .string ⟨p.toArray⟩] w fun e w' => e = .returned (.tuple #[.string ⟨(Lib.trimSuffix x p).toArray⟩, .bool (Lib.hasSuffix x p)]) ∧ w = w' :=
  (Tryz.strings_CutSuffix ⟨x.toArray⟩ ⟨p.toArray⟩ w (by show x.toArray.size ≤ _; simp; omega)).mono fun _ _ ⟨h1, h2⟩ => ⟨h1, h2.symm⟩
/-- the ordinal word of a cardinal word -/
def ordW (x : Str) : Str := match findL irrL x with
  | some y => y
  | none => if Lib.hasSuffix x [121] then Lib.trimSuffix x [121] ++ [105, 101, 116, 104] else x ++ [116, 104]
theorem ordW_some {x y : Str} (h : findL irrL x = some y) : ordW x = y := by unfold ordW; rw [h]
theorem ordW_none {x : Str} (h : findL irrL x = none) : ordW x = if Lib.hasSuffix x [121] then Lib.trimSuffix x [121] ++ [105, 101, 116, 104] else x ++ [116, 104] := by unfold ordW; rw [h]
theorem trim_len (x p : Str) : (Lib.trimSuffix x p).length ≤ x.length := by
  unfold Lib.trimSuffix
  split
  · rw [List.length_take]; omega
  · exact Nat.le_refl _

set_option maxRecDepth 100000 in
set_option maxHeartbeats 4000000 in
theorem ordinalWord_any (x : Str) (hxl : x.length ≤ 100000) (w : World) (hT : WT w) :
    Calls Tryz.prog 152 #[.string ⟨x.toArray⟩] w fun e w' => e = .returned (.string ⟨(ordW x).toArray⟩) ∧ Below w.heap.size w w' := by
  have c0 : w.cell? ⟨4, 0, none⟩ = some (.string ⟨#[111, 110, 101]⟩) := hT.irr1 0 (by decide)
  have c1 : w.cell? ⟨4, 1, none⟩ = some (.string ⟨#[102, 105, 114, 115, 116]⟩) := hT.irr2 0 (by decide)
  have c2 : w.cell? ⟨4, 2, none⟩ = some (.string ⟨#[116, 119, 111]⟩) := hT.irr1 1 (by decide)
  have c3 : w.cell? ⟨4, 3, none⟩ = some (.string ⟨#[115, 101, 99, 111, 110, 100]⟩) := hT.irr2 1 (by decide)
  have c4 : w.cell? ⟨4, 4, none⟩ = some (.string ⟨#[116, 104, 114, 101, 101]⟩) := hT.irr1 2 (by decide)
  have c5 : w.cell? ⟨4, 5, none⟩ = some (.string ⟨#[116, 104, 105, 114, 100]⟩) := hT.irr2 2 (by decide)
  have c6 : w.cell? ⟨4, 6, none⟩ = some (.string ⟨#[102, 105, 118, 101]⟩) := hT.irr1 3 (by decide)
  have c7 : w.cell? ⟨4, 7, none⟩ = some (.string ⟨#[102, 105, 102, 116, 104]⟩) := hT.irr2 3 (by decide)
  have c8 : w.cell? ⟨4, 8, none⟩ = some (.string ⟨#[101, 105, 103, 104, 116]⟩) := hT.irr1 4 (by decide)
  have c9 : w.cell? ⟨4, 9, none⟩ = some (.string ⟨#[101, 105, 103, 104, 116, 104]⟩) := hT.irr2 4 (by decide)
  have c10 : w.cell? ⟨4, 10, none⟩ = some (.string ⟨#[110, 105, 110, 101]⟩) := hT.irr1 5 (by decide)
  have c11 : w.cell? ⟨4, 11, none⟩ = some (.string ⟨#[110, 105, 110, 116, 104]⟩) := hT.irr2 5 (by decide)
  have c12 : w.cell? ⟨4, 12, none⟩ = some (.string ⟨#[116, 119, 101, 108, 118, 101]⟩) := hT.irr1 6 (by decide)
  have c13 : w.cell? ⟨4, 13, none⟩ = some (.string ⟨#[116, 119, 101, 108, 102, 116, 104]⟩) := hT.irr2 6 (by decide)
  have htl := trim_len x [121]
  have hcs := Lib.hid (fun w9 => cutSuf_any x [121] (by omega) w9)
  go_enter Tryz.func152, Tryz.ntmps152
  go_wp2
  clear c0 c1 c2 c3 c4 c5 c6 c7 c8 c9 c10 c11 c12 c13
  go_loopw [8] (fun iv wr' => ∃ (j : Nat) (wr : World), wr = wr' ∧ iv = .int .i64 (j : Int) ∧ j ≤ 7 ∧ Hid (findL irrL x = findL (irrL.drop j) x) ∧ Below w.heap.size w wr) (fun iv _ => 7 - (intOf iv).toNat)
  case atStart => exact ⟨0, _, rfl, rfl, by decide, rfl, Below.refl _ _⟩
  case round =>
    obtain ⟨j, wr, rfl, rfl, hj, hq, hbel⟩ := hrel
    have hbs := hbel.size
    rcases (show j = 0 ∨ j = 1 ∨ j = 2 ∨ j = 3 ∨ j = 4 ∨ j = 5 ∨ j = 6 ∨ j = 7 by omega) with rfl | rfl | rfl | rfl | rfl | rfl | rfl | rfl
    · have hix : ∀ w9 : World, (Instr.index 156 (.agg #[.string ⟨#[111, 110, 101]⟩, .string ⟨#[102, 105, 114, 115, 116]⟩, .string ⟨#[116, 119, 111]⟩, .string ⟨#[115, 101, 99, 111, 110, 100]⟩, .string ⟨#[116, 104, 114, 101, 101]⟩, .string ⟨#[116, 104, 105, 114, 100]⟩, .string ⟨#[102, 105, 118, 101]⟩, .string ⟨#[102, 105, 102, 116, 104]⟩, .string ⟨#[101, 105, 103, 104, 116]⟩, .string ⟨#[101, 105, 103, 104, 116, 104]⟩, .string ⟨#[110, 105, 110, 101]⟩, .string ⟨#[110, 105, 110, 116, 104]⟩, .string ⟨#[116, 119, 101, 108, 118, 101]⟩, .string ⟨#[116, 119, 101, 108, 102, 116, 104]⟩]) (.int .i64 0)).run Tryz.prog w9 = .ok (.agg #[.string ⟨#[111, 110, 101]⟩, .string ⟨#[102, 105, 114, 115, 116]⟩]) w9 := fun _ => by kernel_rfl
      have hba := hbel.alloc hbs (.cells #[.string ⟨#[111, 110, 101]⟩, .string ⟨#[102, 105, 114, 115, 116]⟩] 155)
      by_cases hx : ([111, 110, 101] : Str) = x
      · have hbx : (([111, 110, 101] : Str) == x) = true := by rw [hx]; simp
        have hw := Lib.hid (ordW_some (show findL irrL x = some [102, 105, 114, 115, 116] from hq.out.trans (findL_hit hx)))
        clear hx
        go_wp2
        go_ret
        exact ⟨by rw [hw.out]; rfl, hba⟩
      · have hbx : (([111, 110, 101] : Str) == x) = false := by rw [beq_eq_false_iff_ne]; exact hx
        have hq2 := Lib.hid (show findL irrL x = findL (irrL.drop (0 + 1)) x from hq.out.trans (findL_miss hx))
        clear hx
        go_wp2
        exact ⟨⟨0 + 1, _, rfl, rfl, by decide, hq2.out, hba⟩, by simp [intOf]⟩
    · have hix : ∀ w9 : World, (Instr.index 156 (.agg #[.string ⟨#[111, 110, 101]⟩, .string ⟨#[102, 105, 114, 115, 116]⟩, .string ⟨#[116, 119, 111]⟩, .string ⟨#[115, 101, 99, 111, 110, 100]⟩, .string ⟨#[116, 104, 114, 101, 101]⟩, .string ⟨#[116, 104, 105, 114, 100]⟩, .string ⟨#[102, 105, 118, 101]⟩, .string ⟨#[102, 105, 102, 116, 104]⟩, .string ⟨#[101, 105, 103, 104, 116]⟩, .string ⟨#[101, 105, 103, 104, 116, 104]⟩, .string ⟨#[110, 105, 110, 101]⟩, .string ⟨#[110, 105, 110, 116, 104]⟩, .string ⟨#[116, 119, 101, 108, 118, 101]⟩, .string ⟨#[116, 119, 101, 108, 102, 116, 104]⟩]) (.int .i64 1)).run Tryz.prog w9 = .ok (.agg #[.string ⟨#[116, 119, 111]⟩, .string ⟨#[115, 101, 99, 111, 110, 100]⟩]) w9 := fun _ => by kernel_rfl
      have hba := hbel.alloc hbs (.cells #[.string ⟨#[116, 119, 111]⟩, .string ⟨#[115, 101, 99, 111, 110, 100]⟩] 155)
      by_cases hx : ([116, 119, 111] : Str) = x
      · have hbx : (([116, 119, 111] : Str) == x) = true := by rw [hx]; simp
        have hw := Lib.hid (ordW_some (show findL irrL x = some [115, 101, 99, 111, 110, 100] from hq.out.trans (findL_hit hx)))
        clear hx
        go_wp2
        go_ret
        exact ⟨by rw [hw.out]; rfl, hba⟩
      · have hbx : (([116, 119, 111] : Str) == x) = false := by rw [beq_eq_false_iff_ne]; exact hx
        have hq2 := Lib.hid (show findL irrL x = findL (irrL.drop (1 + 1)) x from hq.out.trans (findL_miss hx))
        clear hx
        go_wp2
        exact ⟨⟨1 + 1, _, rfl, rfl, by decide, hq2.out, hba⟩, by simp [intOf]⟩
    · have hix : ∀ w9 : World, (Instr.index 156 (.agg #[.string ⟨#[111, 110, 101]⟩, .string ⟨#[102, 105, 114, 115, 116]⟩, .string ⟨#[116, 119, 111]⟩, .string ⟨#[115, 101, 99, 111, 110, 100]⟩, .string ⟨#[116, 104, 114, 101, 101]⟩, .string ⟨#[116, 104, 105, 114, 100]⟩, .string ⟨#[102, 105, 118, 101]⟩, .string ⟨#[102, 105, 102, 116, 104]⟩, .string ⟨#[101, 105, 103, 104, 116]⟩, .string ⟨#[101, 105, 103, 104, 116, 104]⟩, .string ⟨#[110, 105, 110, 101]⟩, .string ⟨#[110, 105, 110, 116, 104]⟩, .string ⟨#[116, 119, 101, 108, 118, 101]⟩, .string ⟨#[116, 119, 101, 108, 102, 116, 104]⟩]) (.int .i64 2)).run Tryz.prog w9 = .ok (.agg #[.string ⟨#[116, 104, 114, 101, 101]⟩, .string ⟨#[116, 104, 105, 114, 100]⟩]) w9 := fun _ => by kernel_rfl
      have hba := hbel.alloc hbs (.cells #[.string ⟨#[116, 104, 114, 101, 101]⟩, .string ⟨#[116, 104, 105, 114, 100]⟩] 155)
      by_cases hx : ([116, 104, 114, 101, 101] : Str) = x
      · have hbx : (([116, 104, 114, 101, 101] : Str) == x) = true := by rw [hx]; simp
        have hw := Lib.hid (ordW_some (show findL irrL x = some [116, 104, 105, 114, 100] from hq.out.trans (findL_hit hx)))
        clear hx
        go_wp2
        go_ret
        exact ⟨by rw [hw.out]; rfl, hba⟩
      · have hbx : (([116, 104, 114, 101, 101] : Str) == x) = false := by rw [beq_eq_false_iff_ne]; exact hx
        have hq2 := Lib.hid (show findL irrL x = findL (irrL.drop (2 + 1)) x from hq.out.trans (findL_miss hx))
        clear hx
        go_wp2
        exact ⟨⟨2 + 1, _, rfl, rfl, by decide, hq2.out, hba⟩, by simp [intOf]⟩
    · have hix : ∀ w9 : World, (Instr.index 156 (.agg #[.string ⟨#[111, 110, 101]⟩, .string ⟨#[102, 105, 114, 115, 116]⟩, .string ⟨#[116, 119, 111]⟩, .string ⟨#[115, 101, 99, 111, 110, 100]⟩, .string ⟨#[116, 104, 114, 101, 101]⟩, .string ⟨#[116, 104, 105, 114, 100]⟩, .string ⟨#[102, 105, 118, 101]⟩, .string ⟨#[102, 105, 102, 116, 104]⟩, .string ⟨#[101, 105, 103, 104, 116]⟩, .string ⟨#[101, 105, 103, 104, 116, 104]⟩, .string ⟨#[110, 105, 110, 101]⟩, .string ⟨#[110, 105, 110, 116, 104]⟩, .string ⟨#[116, 119, 101, 108, 118, 101]⟩, .string ⟨#[116, 119, 101, 108, 102, 116, 104]⟩]) (.int .i64 3)).run Tryz.prog w9 = .ok (.agg #[.string ⟨#[102, 105, 118, 101]⟩, .string ⟨#[102, 105, 102, 116, 104]⟩]) w9 := fun _ => by kernel_rfl
      have hba := hbel.alloc hbs (.cells #[.string ⟨#[102, 105, 118, 101]⟩, .string ⟨#[102, 105, 102, 116, 104]⟩] 155)
      by_cases hx : ([102, 105, 118, 101] : Str) = x
      · have hbx : (([102, 105, 118, 101] : Str) == x) = true := by rw [hx]; simp
        have hw := Lib.hid (ordW_some (show findL irrL x = some [102, 105, 102, 116, 104] from hq.out.trans (findL_hit hx)))
        clear hx
        go_wp2
        go_ret
        exact ⟨by rw [hw.out]; rfl, hba⟩
      · have hbx : (([102, 105, 118, 101] : Str) == x) = false := by rw [beq_eq_false_iff_ne]; exact hx
        have hq2 := Lib.hid (show findL irrL x = findL (irrL.drop (3 + 1)) x from hq.out.trans (findL_miss hx))
        clear hx
        go_wp2
        exact ⟨⟨3 + 1, _, rfl, rfl, by decide, hq2.out, hba⟩, by simp [intOf]⟩
    · have hix : ∀ w9 : World, (Instr.index 156 (.agg #[.string ⟨#[111, 110, 101]⟩, .string ⟨#[102, 105, 114, 115, 116]⟩, .string ⟨#[116, 119, 111]⟩, .string ⟨#[115, 101, 99, 111, 110, 100]⟩, .string ⟨#[116, 104, 114, 101, 101]⟩, .string ⟨#[116, 104, 105, 114, 100]⟩, .string ⟨#[102, 105, 118, 101]⟩, .string ⟨#[102, 105, 102, 116, 104]⟩, .string ⟨#[101, 105, 103, 104, 116]⟩, .string ⟨#[101, 105, 103, 104, 116, 104]⟩, .string ⟨#[110, 105, 110, 101]⟩, .string ⟨#[110, 105, 110, 116, 104]⟩, .string ⟨#[116, 119, 101, 108, 118, 101]⟩, .string ⟨#[116, 119, 101, 108, 102, 116, 104]⟩]) (.int .i64 4)).run Tryz.prog w9 = .ok (.agg #[.string ⟨#[101, 105, 103, 104, 116]⟩, .string ⟨#[101, 105, 103, 104, 116, 104]⟩]) w9 := fun _ => by kernel_rfl
      have hba := hbel.alloc hbs (.cells #[.string ⟨#[101, 105, 103, 104, 116]⟩, .string ⟨#[101, 105, 103, 104, 116, 104]⟩] 155)
      by_cases hx : ([101, 105, 103, 104, 116] : Str) = x
      · have hbx : (([101, 105, 103, 104, 116] : Str) == x) = true := by rw [hx]; simp
        have hw := Lib.hid (ordW_some (show findL irrL x = some [101, 105, 103, 104, 116, 104] from hq.out.trans (findL_hit hx)))
        clear hx
        go_wp2
        go_ret
        exact ⟨by rw [hw.out]; rfl, hba⟩
      · have hbx : (([101, 105, 103, 104, 116] : Str) == x) = false := by rw [beq_eq_false_iff_ne]; exact hx
        have hq2 := Lib.hid (show findL irrL x = findL (irrL.drop (4 + 1)) x from hq.out.trans (findL_miss hx))
        clear hx
        go_wp2
        exact ⟨⟨4 + 1, _, rfl, rfl, by decide, hq2.out, hba⟩, by simp [intOf]⟩
    · have hix : ∀ w9 : World, (Instr.index 156 (.agg #[.string ⟨#[111, 110, 101]⟩, .string ⟨#[102, 105, 114, 115, 116]⟩, .string ⟨#[116, 119, 111]⟩, .string ⟨#[115, 101, 99, 111, 110, 100]⟩, .string ⟨#[116, 104, 114, 101, 101]⟩, .string ⟨#[116, 104, 105, 114, 100]⟩, .string ⟨#[102, 105, 118, 101]⟩, .string ⟨#[102, 105, 102, 116, 104]⟩, .string ⟨#[101, 105, 103, 104, 116]⟩, .string ⟨#[101, 105, 103, 104, 116, 104]⟩, .string ⟨#[110, 105, 110, 101]⟩, .string ⟨#[110, 105, 110, 116, 104]⟩, .string ⟨#[116, 119, 101, 108, 118, 101]⟩, .string ⟨#[116, 119, 101, 108, 102, 116, 104]⟩]) (.int .i64 5)).run Tryz.prog w9 = .ok (.agg #[.string ⟨#[110, 105, 110, 101]⟩, .string ⟨#[110, 105, 110, 116, 104]⟩]) w9 := fun _ => by kernel_rfl
      have hba := hbel.alloc hbs (.cells #[.string ⟨#[110, 105, 110, 101]⟩, .string ⟨#[110, 105, 110, 116, 104]⟩] 155)
      by_cases hx : ([110, 105, 110, 101] : Str) = x
      · have hbx : (([110, 105, 110, 101] : Str) == x) = true := by rw [hx]; simp
        have hw := Lib.hid (ordW_some (show findL irrL x = some [110, 105, 110, 116, 104] from hq.out.trans (findL_hit hx)))
        clear hx
        go_wp2
        go_ret
        exact ⟨by rw [hw.out]; rfl, hba⟩
      · have hbx : (([110, 105, 110, 101] : Str) == x) = false := by rw [beq_eq_false_iff_ne]; exact hx
        have hq2 := Lib.hid (show findL irrL x = findL (irrL.drop (5 + 1)) x from hq.out.trans (findL_miss hx))
        clear hx
        go_wp2
        exact ⟨⟨5 + 1, _, rfl, rfl, by decide, hq2.out, hba⟩, by simp [intOf]⟩
    · have hix : ∀ w9 : World, (Instr.index 156 (.agg #[.string ⟨#[111, 110, 101]⟩, .string ⟨#[102, 105, 114, 115, 116]⟩, .string ⟨#[116, 119, 111]⟩, .string ⟨#[115, 101, 99, 111, 110, 100]⟩, .string ⟨#[116, 104, 114, 101, 101]⟩, .string ⟨#[116, 104, 105, 114, 100]⟩, .string ⟨#[102, 105, 118, 101]⟩, .string ⟨#[102, 105, 102, 116, 104]⟩, .string ⟨#[101, 105, 103, 104, 116]⟩, .string ⟨#[101, 105, 103, 104, 116, 104]⟩, .string ⟨#[110, 105, 110, 101]⟩, .string ⟨#[110, 105, 110, 116, 104]⟩, .string ⟨#[116, 119, 101, 108, 118, 101]⟩, .string ⟨#[116, 119, 101, 108, 102, 116, 104]⟩]) (.int .i64 6)).run Tryz.prog w9 = .ok (.agg #[.string ⟨#[116, 119, 101, 108, 118, 101]⟩, .string ⟨#[116, 119, 101, 108, 102, 116, 104]⟩]) w9 := fun _ => by kernel_rfl
      have hba := hbel.alloc hbs (.cells #[.string ⟨#[116, 119, 101, 108, 118, 101]⟩, .string ⟨#[116, 119, 101, 108, 102, 116, 104]⟩] 155)
      by_cases hx : ([116, 119, 101, 108, 118, 101] : Str) = x
      · have hbx : (([116, 119, 101, 108, 118, 101] : Str) == x) = true := by rw [hx]; simp
        have hw := Lib.hid (ordW_some (show findL irrL x = some [116, 119, 101, 108, 102, 116, 104] from hq.out.trans (findL_hit hx)))
        clear hx
        go_wp2
        go_ret
        exact ⟨by rw [hw.out]; rfl, hba⟩
      · have hbx : (([116, 119, 101, 108, 118, 101] : Str) == x) = false := by rw [beq_eq_false_iff_ne]; exact hx
        have hq2 := Lib.hid (show findL irrL x = findL (irrL.drop (6 + 1)) x from hq.out.trans (findL_miss hx))
        clear hx
        go_wp2
        exact ⟨⟨6 + 1, _, rfl, rfl, by decide, hq2.out, hba⟩, by simp [intOf]⟩
    · have hw := Lib.hid (ordW_none (show findL irrL x = none from hq.out))
      generalize Lib.trimSuffix x [121] = X at *
      go_wp2_with fail
      refine (hcs.out _).mono ?_
      rintro e w' ⟨rfl, rfl⟩
      cases hsf : Lib.hasSuffix x [121] with
      | true =>
        rw [hsf] at hw
        have hw2 := Lib.hid (show ordW x = X ++ [105, 101, 116, 104] from hw.out)
        clear hsf
        go_wp2
        go_ret
        exact ⟨ret_bs (by rw [hw2.out]; simp), hbel⟩
        all_goals omega
      | false =>
        rw [hsf] at hw
        have hw2 := Lib.hid (show ordW x = x ++ [116, 104] from hw.out)
        clear hsf
        go_wp2
        go_ret
        exact ⟨ret_bs (by rw [hw2.out]; simp), hbel⟩
        all_goals omega

/-- a parser of one word -/
theorem parser1 {w : World} {x : Str} (hT : WT w) : PW ((w.alloc (.cells #[.string ⟨x.toArray⟩] 9)).alloc (.cells #[.slice (some ⟨w.heap.size, 0, none⟩) 1 1] 107)) (w.heap.size + 1) [x] := by
  have e1 : (w.alloc (.cells #[.string ⟨x.toArray⟩] 9)).heap.size = w.heap.size + 1 := World.size_alloc _ _
  have B1 := (Blk.new w 9 #[.string ⟨x.toArray⟩]).alloc (.cells #[.slice (some ⟨w.heap.size, 0, none⟩) 1 1] 107)
  have B2 := Blk.new (w.alloc (.cells #[.string ⟨x.toArray⟩] 9)) 107 #[.slice (some ⟨w.heap.size, 0, none⟩) 1 1]
  rw [e1] at B2
  refine ⟨⟨_, 1, 1, B2, ⟨rfl, Nat.le_refl _, by decide, fun _ => ⟨_, rfl, fun j y hy => ?_⟩⟩, fun ad e => by injection e with e; subst e; show w.heap.size ≠ _; omega⟩, (hT.alloc _).alloc _, hT.nt (by omega)⟩
  cases j with
  | zero =>
    injection hy with hy
    subst hy
    rw [add_new]
    exact B1.cell 0
  | succ j => cases hy
/-- one of the words of numbers that are not 0 -/
def countsB (x : Str) : Bool := (powL.map (·.2)).contains x || (decide (x = [104, 117, 110, 100, 114, 101, 100]) || decide (0 < (belowF [x]).1))
set_option maxRecDepth 100000 in
set_option maxHeartbeats 4000000 in
theorem counts_any (x : Str) (w : World) (hT : WT w) :
    Calls Tryz.prog 129 #[.string ⟨x.toArray⟩] w fun e w' => e = .returned (.bool (countsB x)) ∧ Below w.heap.size w w' := by
  have c0 : w.cell? ⟨3, 0, none⟩ = some (.int .i64 1000000000) := hT.pow1 0 (by decide)
  have c1 : w.cell? ⟨3, 1, none⟩ = some (.string ⟨#[98, 105, 108, 108, 105, 111, 110]⟩) := hT.pow2 0 (by decide)
  have c2 : w.cell? ⟨3, 2, none⟩ = some (.int .i64 1000000) := hT.pow1 1 (by decide)
  have c3 : w.cell? ⟨3, 3, none⟩ = some (.string ⟨#[109, 105, 108, 108, 105, 111, 110]⟩) := hT.pow2 1 (by decide)
  have c4 : w.cell? ⟨3, 4, none⟩ = some (.int .i64 1000) := hT.pow1 2 (by decide)
  have c5 : w.cell? ⟨3, 5, none⟩ = some (.string ⟨#[116, 104, 111, 117, 115, 97, 110, 100]⟩) := hT.pow2 2 (by decide)
  go_enter Tryz.func129, Tryz.ntmps129
  go_wp2
  clear c0 c1 c2 c3 c4 c5
  go_loopw [7] (fun iv wr' => ∃ (j : Nat) (wr : World), wr = wr' ∧ iv = .int .i64 (j : Int) ∧ j ≤ 3 ∧ Hid ((powL.map (·.2)).contains x = ((powL.map (·.2)).drop j).contains x) ∧ Below w.heap.size w wr) (fun iv _ => 3 - (intOf iv).toNat)
  case atStart => exact ⟨0, _, rfl, rfl, by decide, rfl, Below.refl _ _⟩
  case round =>
    obtain ⟨j, wr, rfl, rfl, hj, hq, hbel⟩ := hrel
    have hbs := hbel.size
    rcases (show j = 0 ∨ j = 1 ∨ j = 2 ∨ j = 3 by omega) with rfl | rfl | rfl | rfl
    · have hix : ∀ w9 : World, (Instr.index 154 (.agg #[.int .i64 1000000000, .string ⟨#[98, 105, 108, 108, 105, 111, 110]⟩, .int .i64 1000000, .string ⟨#[109, 105, 108, 108, 105, 111, 110]⟩, .int .i64 1000, .string ⟨#[116, 104, 111, 117, 115, 97, 110, 100]⟩]) (.int .i64 0)).run Tryz.prog w9 = .ok (.agg #[.int .i64 1000000000, .string ⟨#[98, 105, 108, 108, 105, 111, 110]⟩]) w9 := fun _ => by kernel_rfl
      have hba := hbel.alloc hbs (.cells #[.int .i64 1000000000, .string ⟨#[98, 105, 108, 108, 105, 111, 110]⟩] 153)
      by_cases hx : ([98, 105, 108, 108, 105, 111, 110] : Str) = x
      · have hbx : (([98, 105, 108, 108, 105, 111, 110] : Str) == x) = true := by rw [hx]; simp
        have hw := Lib.hid (show countsB x = true by unfold countsB; rw [← hx]; rfl)
        clear hx
        go_wp2
        go_ret
        exact ⟨ret_bool hw.out.symm, hba⟩
      · have hbx : (([98, 105, 108, 108, 105, 111, 110] : Str) == x) = false := by rw [beq_eq_false_iff_ne]; exact hx
        have hq2 := Lib.hid (show (powL.map (·.2)).contains x = ((powL.map (·.2)).drop (0 + 1)).contains x from hq.out.trans (by
          show (([98, 105, 108, 108, 105, 111, 110] : Str) :: (powL.map (·.2)).drop (0 + 1)).contains x = _
          rw [List.contains_cons, show (x == ([98, 105, 108, 108, 105, 111, 110] : Str)) = false by rw [beq_eq_false_iff_ne]; exact fun e => hx e.symm, Bool.false_or]))
        clear hx
        go_wp2
        exact ⟨⟨0 + 1, _, rfl, rfl, by decide, hq2.out, hba⟩, by simp [intOf]⟩
    · have hix : ∀ w9 : World, (Instr.index 154 (.agg #[.int .i64 1000000000, .string ⟨#[98, 105, 108, 108, 105, 111, 110]⟩, .int .i64 1000000, .string ⟨#[109, 105, 108, 108, 105, 111, 110]⟩, .int .i64 1000, .string ⟨#[116, 104, 111, 117, 115, 97, 110, 100]⟩]) (.int .i64 1)).run Tryz.prog w9 = .ok (.agg #[.int .i64 1000000, .string ⟨#[109, 105, 108, 108, 105, 111, 110]⟩]) w9 := fun _ => by kernel_rfl
      have hba := hbel.alloc hbs (.cells #[.int .i64 1000000, .string ⟨#[109, 105, 108, 108, 105, 111, 110]⟩] 153)
      by_cases hx : ([109, 105, 108, 108, 105, 111, 110] : Str) = x
      · have hbx : (([109, 105, 108, 108, 105, 111, 110] : Str) == x) = true := by rw [hx]; simp
        have hw := Lib.hid (show countsB x = true by unfold countsB; rw [← hx]; rfl)
        clear hx
        go_wp2
        go_ret
        exact ⟨ret_bool hw.out.symm, hba⟩
      · have hbx : (([109, 105, 108, 108, 105, 111, 110] : Str) == x) = false := by rw [beq_eq_false_iff_ne]; exact hx
        have hq2 := Lib.hid (show (powL.map (·.2)).contains x = ((powL.map (·.2)).drop (1 + 1)).contains x from hq.out.trans (by
          show (([109, 105, 108, 108, 105, 111, 110] : Str) :: (powL.map (·.2)).drop (1 + 1)).contains x = _
          rw [List.contains_cons, show (x == ([109, 105, 108, 108, 105, 111, 110] : Str)) = false by rw [beq_eq_false_iff_ne]; exact fun e => hx e.symm, Bool.false_or]))
        clear hx
        go_wp2
        exact ⟨⟨1 + 1, _, rfl, rfl, by decide, hq2.out, hba⟩, by simp [intOf]⟩
    · have hix : ∀ w9 : World, (Instr.index 154 (.agg #[.int .i64 1000000000, .string ⟨#[98, 105, 108, 108, 105, 111, 110]⟩, .int .i64 1000000, .string ⟨#[109, 105, 108, 108, 105, 111, 110]⟩, .int .i64 1000, .string ⟨#[116, 104, 111, 117, 115, 97, 110, 100]⟩]) (.int .i64 2)).run Tryz.prog w9 = .ok (.agg #[.int .i64 1000, .string ⟨#[116, 104, 111, 117, 115, 97, 110, 100]⟩]) w9 := fun _ => by kernel_rfl
      have hba := hbel.alloc hbs (.cells #[.int .i64 1000, .string ⟨#[116, 104, 111, 117, 115, 97, 110, 100]⟩] 153)
      by_cases hx : ([116, 104, 111, 117, 115, 97, 110, 100] : Str) = x
      · have hbx : (([116, 104, 111, 117, 115, 97, 110, 100] : Str) == x) = true := by rw [hx]; simp
        have hw := Lib.hid (show countsB x = true by unfold countsB; rw [← hx]; rfl)
        clear hx
        go_wp2
        go_ret
        exact ⟨ret_bool hw.out.symm, hba⟩
      · have hbx : (([116, 104, 111, 117, 115, 97, 110, 100] : Str) == x) = false := by rw [beq_eq_false_iff_ne]; exact hx
        have hq2 := Lib.hid (show (powL.map (·.2)).contains x = ((powL.map (·.2)).drop (2 + 1)).contains x from hq.out.trans (by
          show (([116, 104, 111, 117, 115, 97, 110, 100] : Str) :: (powL.map (·.2)).drop (2 + 1)).contains x = _
          rw [List.contains_cons, show (x == ([116, 104, 111, 117, 115, 97, 110, 100] : Str)) = false by rw [beq_eq_false_iff_ne]; exact fun e => hx e.symm, Bool.false_or]))
        clear hx
        go_wp2
        exact ⟨⟨2 + 1, _, rfl, rfl, by decide, hq2.out, hba⟩, by simp [intOf]⟩
    · have hw := Lib.hid (show countsB x = (decide (x = [104, 117, 110, 100, 114, 101, 100]) || decide (0 < (belowF [x]).1)) by
        unfold countsB; rw [hq.out]; rfl)
      have hTr := hT.below hbel
      have hP := parser1 (x := x) hTr
      have hb2 := (hbel.alloc hbs (.cells #[.string ⟨x.toArray⟩] 9)).alloc (by rw [World.size_alloc]; omega) (.cells #[.slice (some ⟨wr.heap.size, 0, none⟩) 1 1] 107)
      have hs2 := hb2.size
      by_cases hx : x = [104, 117, 110, 100, 114, 101, 100]
      · have hbx : (x == ([104, 117, 110, 100, 114, 101, 100] : Str)) = true := by rw [hx]; rfl
        have hw2 := Lib.hid (show countsB x = true by rw [hw.out, hx]; rfl)
        clear hx hP
        go_wp2
        go_ret
        exact ⟨ret_bool hw2.out.symm, hb2⟩
      · have hbx : (x == ([104, 117, 110, 100, 114, 101, 100] : Str)) = false := by rw [beq_eq_false_iff_ne]; exact hx
        have hw2 := Lib.hid (show countsB x = decide (0 < (belowF [x]).1) by rw [hw.out, decide_eq_false hx]; rfl)
        have hc := Lib.hid (fun (w9 : World) (h9 : PW w9 (wr.heap.size + 1) [x]) => below_any (wr.heap.size + 1) [x] w9 h9)
        obtain ⟨y, vs, hr⟩ := pair_eta (belowF [x])
        rw [hr] at hc hw2
        clear hx hr
        go_wp2_with fail
        generalize (wr.alloc (.cells #[.string ⟨x.toArray⟩] 9)).alloc (.cells #[.slice (some ⟨wr.heap.size, 0, none⟩) 1 1] 107) = w2 at *
        refine (hc.out _ hP).mono ?_
        rintro e w4 ⟨rfl, _, hU4⟩
        have hb4 := hb2.trans (hU4.below (B := w.heap.size) (by omega) hs2)
        by_cases hy : 0 < y
        · have h1 : (0 : Int) < (y : Int) := by omega
          have hw3 := Lib.hid (show countsB x = true by rw [hw2.out]; exact decide_eq_true hy)
          go_wp2
          go_ret
          exact ⟨ret_bool hw3.out.symm, hb4⟩
        · have h1 : ¬ (0 : Int) < (y : Int) := by omega
          have h2 : decide ((0 : Int) < (y : Int)) = false := decide_eq_false h1
          have hw3 := Lib.hid (show countsB x = false by rw [hw2.out]; exact decide_eq_false hy)
          go_wp2
          go_ret
          exact ⟨ret_bool hw3.out.symm, hb4⟩
end Go.Proofs.YtpdfjlbfhnapkaaGreatDoor

/- Which cardinal word an ordinal word belongs to; written ordinals. -/
namespace Go.Proofs.YtpdfjlbfhnapkaaGreatDoor
open Go.RowKit
set_option linter.unusedSimpArgs false

def irrS : List (Str × Str) := [([102, 105, 114, 115, 116], [111, 110, 101]), ([115, 101, 99, 111, 110, 100], [116, 119, 111]), ([116, 104, 105, 114, 100], [116, 104, 114, 101, 101]), ([102, 105, 102, 116, 104], [102, 105, 118, 101]), ([101, 105, 103, 104, 116, 104], [101, 105, 103, 104, 116]), ([110, 105, 110, 116, 104], [110, 105, 110, 101]), ([116, 119, 101, 108, 102, 116, 104], [116, 119, 101, 108, 118, 101])]
/-- the stem of an ordinal word -/
def stemW (x : Str) : Str := if Lib.hasSuffix x [105, 101] then Lib.trimSuffix x [105, 101] ++ [121] else x
/-- the cardinal word of an ordinal word, or no word -/
def cardW (x : Str) : Str := match findL irrS x with
  | some y => y
  | none => if Lib.hasSuffix x [116, 104] then (if countsB (stemW (Lib.trimSuffix x [116, 104])) && decide (ordW (stemW (Lib.trimSuffix x [116, 104])) = x) then stemW (Lib.trimSuffix x [116, 104]) else []) else []
theorem cardW_some {x y : Str} (h : findL irrS x = some y) : cardW x = y := by unfold cardW; rw [h]
theorem cardW_none {x : Str} (h : findL irrS x = none) : cardW x = if Lib.hasSuffix x [116, 104] then (if countsB (stemW (Lib.trimSuffix x [116, 104])) && decide (ordW (stemW (Lib.trimSuffix x [116, 104])) = x) then stemW (Lib.trimSuffix x [116, 104]) else []) else [] := by unfold cardW; rw [h]
set_option maxRecDepth 100000 in
set_option maxHeartbeats 4000000 in
theorem cardinalWord_any (x : Str) (hxl : x.length ≤ 10000) (w : World) (hT : WT w) :
    Calls Tryz.prog 130 #[.string ⟨x.toArray⟩] w fun e w' => e = .returned (.string ⟨(cardW x).toArray⟩) ∧ Below w.heap.size w w' := by
  have c0 : w.cell? ⟨4, 0, none⟩ = some (.string ⟨#[111, 110, 101]⟩) := hT.irr1 0 (by decide)
  have c1 : w.cell? ⟨4, 1, none⟩ = some (.string ⟨#[102, 105, 114, 115, 116]⟩) := hT.irr2 0 (by decide)
  have c2 : w.cell? ⟨4, 2, none⟩ = some (.string ⟨#[116, 119, 111]⟩) := hT.irr1 1 (by decide)
  have c3 : w.cell? ⟨4, 3, none⟩ = some (.string ⟨#[115, 101, 99, 111, 110, 100]⟩) := hT.irr2 1 (by decide)
  have c4 : w.cell? ⟨4, 4, none⟩ = some (.string ⟨#[116, 104, 114, 101, 101]⟩) := hT.irr1 2 (by decide)
  have c5 : w.cell? ⟨4, 5, none⟩ = some (.string ⟨#[116, 104, 105, 114, 100]⟩) := hT.irr2 2 (by decide)
  have c6 : w.cell? ⟨4, 6, none⟩ = some (.string ⟨#[102, 105, 118, 101]⟩) := hT.irr1 3 (by decide)
  have c7 : w.cell? ⟨4, 7, none⟩ = some (.string ⟨#[102, 105, 102, 116, 104]⟩) := hT.irr2 3 (by decide)
  have c8 : w.cell? ⟨4, 8, none⟩ = some (.string ⟨#[101, 105, 103, 104, 116]⟩) := hT.irr1 4 (by decide)
  have c9 : w.cell? ⟨4, 9, none⟩ = some (.string ⟨#[101, 105, 103, 104, 116, 104]⟩) := hT.irr2 4 (by decide)
  have c10 : w.cell? ⟨4, 10, none⟩ = some (.string ⟨#[110, 105, 110, 101]⟩) := hT.irr1 5 (by decide)
  have c11 : w.cell? ⟨4, 11, none⟩ = some (.string ⟨#[110, 105, 110, 116, 104]⟩) := hT.irr2 5 (by decide)
  have c12 : w.cell? ⟨4, 12, none⟩ = some (.string ⟨#[116, 119, 101, 108, 118, 101]⟩) := hT.irr1 6 (by decide)
  have c13 : w.cell? ⟨4, 13, none⟩ = some (.string ⟨#[116, 119, 101, 108, 102, 116, 104]⟩) := hT.irr2 6 (by decide)
  have htl := trim_len x [116, 104]
  have hcs := Lib.hid (fun w9 => cutSuf_any x [116, 104] (by omega) w9)
  go_enter Tryz.func130, Tryz.ntmps130
  go_wp2
  clear c0 c1 c2 c3 c4 c5 c6 c7 c8 c9 c10 c11 c12 c13
  go_loopw [10] (fun iv wr' => ∃ (j : Nat) (wr : World), wr = wr' ∧ iv = .int .i64 (j : Int) ∧ j ≤ 7 ∧ Hid (findL irrS x = findL (irrS.drop j) x) ∧ Below w.heap.size w wr) (fun iv _ => 7 - (intOf iv).toNat)
  case atStart => exact ⟨0, _, rfl, rfl, by decide, rfl, Below.refl _ _⟩
  case round =>
    obtain ⟨j, wr, rfl, rfl, hj, hq, hbel⟩ := hrel
    have hbs := hbel.size
    rcases (show j = 0 ∨ j = 1 ∨ j = 2 ∨ j = 3 ∨ j = 4 ∨ j = 5 ∨ j = 6 ∨ j = 7 by omega) with rfl | rfl | rfl | rfl | rfl | rfl | rfl | rfl
    · have hix : ∀ w9 : World, (Instr.index 156 (.agg #[.string ⟨#[111, 110, 101]⟩, .string ⟨#[102, 105, 114, 115, 116]⟩, .string ⟨#[116, 119, 111]⟩, .string ⟨#[115, 101, 99, 111, 110, 100]⟩, .string ⟨#[116, 104, 114, 101, 101]⟩, .string ⟨#[116, 104, 105, 114, 100]⟩, .string ⟨#[102, 105, 118, 101]⟩, .string ⟨#[102, 105, 102, 116, 104]⟩, .string ⟨#[101, 105, 103, 104, 116]⟩, .string ⟨#[101, 105, 103, 104, 116, 104]⟩, .string ⟨#[110, 105, 110, 101]⟩, .string ⟨#[110, 105, 110, 116, 104]⟩, .string ⟨#[116, 119, 101, 108, 118, 101]⟩, .string ⟨#[116, 119, 101, 108, 102, 116, 104]⟩]) (.int .i64 0)).run Tryz.prog w9 = .ok (.agg #[.string ⟨#[111, 110, 101]⟩, .string ⟨#[102, 105, 114, 115, 116]⟩]) w9 := fun _ => by kernel_rfl
      have hba := hbel.alloc hbs (.cells #[.string ⟨#[111, 110, 101]⟩, .string ⟨#[102, 105, 114, 115, 116]⟩] 155)
      by_cases hx : ([102, 105, 114, 115, 116] : Str) = x
      · have hbx : (([102, 105, 114, 115, 116] : Str) == x) = true := by rw [hx]; simp
        have hw := Lib.hid (cardW_some (show findL irrS x = some [111, 110, 101] from hq.out.trans (findL_hit hx)))
        clear hx
        go_wp2
        go_ret
        exact ⟨by rw [hw.out]; rfl, hba⟩
      · have hbx : (([102, 105, 114, 115, 116] : Str) == x) = false := by rw [beq_eq_false_iff_ne]; exact hx
        have hq2 := Lib.hid (show findL irrS x = findL (irrS.drop (0 + 1)) x from hq.out.trans (findL_miss hx))
        clear hx
        go_wp2
        exact ⟨⟨0 + 1, _, rfl, rfl, by decide, hq2.out, hba⟩, by simp [intOf]⟩
    · have hix : ∀ w9 : World, (Instr.index 156 (.agg #[.string ⟨#[111, 110, 101]⟩, .string ⟨#[102, 105, 114, 115, 116]⟩, .string ⟨#[116, 119, 111]⟩, .string ⟨#[115, 101, 99, 111, 110, 100]⟩, .string ⟨#[116, 104, 114, 101, 101]⟩, .string ⟨#[116, 104, 105, 114, 100]⟩, .string ⟨#[102, 105, 118, 101]⟩, .string ⟨#[102, 105, 102, 116, 104]⟩, .string ⟨#[101, 105, 103, 104, 116]⟩, .string ⟨#[101, 105, 103, 104, 116, 104]⟩, .string ⟨#[110, 105, 110, 101]⟩, .string ⟨#[110, 105, 110, 116, 104]⟩, .string ⟨#[116, 119, 101, 108, 118, 101]⟩, .string ⟨#[116, 119, 101, 108, 102, 116, 104]⟩]) (.int .i64 1)).run Tryz.prog w9 = .ok (.agg #[.string ⟨#[116, 119, 111]⟩, .string ⟨#[115, 101, 99, 111, 110, 100]⟩]) w9 := fun _ => by kernel_rfl
      have hba := hbel.alloc hbs (.cells #[.string ⟨#[116, 119, 111]⟩, .string ⟨#[115, 101, 99, 111, 110, 100]⟩] 155)
      by_cases hx : ([115, 101, 99, 111, 110, 100] : Str) = x
      · have hbx : (([115, 101, 99, 111, 110, 100] : Str) == x) = true := by rw [hx]; simp
        have hw := Lib.hid (cardW_some (show findL irrS x = some [116, 119, 111] from hq.out.trans (findL_hit hx)))
        clear hx
        go_wp2
        go_ret
        exact ⟨by rw [hw.out]; rfl, hba⟩
      · have hbx : (([115, 101, 99, 111, 110, 100] : Str) == x) = false := by rw [beq_eq_false_iff_ne]; exact hx
        have hq2 := Lib.hid (show findL irrS x = findL (irrS.drop (1 + 1)) x from hq.out.trans (findL_miss hx))
        clear hx
        go_wp2
        exact ⟨⟨1 + 1, _, rfl, rfl, by decide, hq2.out, hba⟩, by simp [intOf]⟩
    · have hix : ∀ w9 : World, (Instr.index 156 (.agg #[.string ⟨#[111, 110, 101]⟩, .string ⟨#[102, 105, 114, 115, 116]⟩, .string ⟨#[116, 119, 111]⟩, .string ⟨#[115, 101, 99, 111, 110, 100]⟩, .string ⟨#[116, 104, 114, 101, 101]⟩, .string ⟨#[116, 104, 105, 114, 100]⟩, .string ⟨#[102, 105, 118, 101]⟩, .string ⟨#[102, 105, 102, 116, 104]⟩, .string ⟨#[101, 105, 103, 104, 116]⟩, .string ⟨#[101, 105, 103, 104, 116, 104]⟩, .string ⟨#[110, 105, 110, 101]⟩, .string ⟨#[110, 105, 110, 116, 104]⟩, .string ⟨#[116, 119, 101, 108, 118, 101]⟩, .string ⟨#[116, 119, 101, 108, 102, 116, 104]⟩]) (.int .i64 2)).run Tryz.prog w9 = .ok (.agg #[.string ⟨#[116, 104, 114, 101, 101]⟩, .string ⟨#[116, 104, 105, 114, 100]⟩]) w9 := fun _ => by kernel_rfl
      have hba := hbel.alloc hbs (.cells #[.string ⟨#[116, 104, 114, 101, 101]⟩, .string ⟨#[116, 104, 105, 114, 100]⟩] 155)
      by_cases hx : ([116, 104, 105, 114, 100] : Str) = x
      · have hbx : (([116, 104, 105, 114, 100] : Str) == x) = true := by rw [hx]; simp
        have hw := Lib.hid (cardW_some (show findL irrS x = some [116, 104, 114, 101, 101] from hq.out.trans (findL_hit hx)))
        clear hx
        go_wp2
        go_ret
        exact ⟨by rw [hw.out]; rfl, hba⟩
      · have hbx : (([116, 104, 105, 114, 100] : Str) == x) = false := by rw [beq_eq_false_iff_ne]; exact hx
        have hq2 := Lib.hid (show findL irrS x = findL (irrS.drop (2 + 1)) x from hq.out.trans (findL_miss hx))
        clear hx
        go_wp2
        exact ⟨⟨2 + 1, _, rfl, rfl, by decide, hq2.out, hba⟩, by simp [intOf]⟩
    · have hix : ∀ w9 : World, (Instr.index 156 (.agg #[.string ⟨#[111, 110, 101]⟩, .string ⟨#[102, 105, 114, 115, 116]⟩, .string ⟨#[116, 119, 111]⟩, .string ⟨#[115, 101, 99, 111, 110, 100]⟩, .string ⟨#[116, 104, 114, 101, 101]⟩, .string ⟨#[116, 104, 105, 114, 100]⟩, .string ⟨#[102, 105, 118, 101]⟩, .string ⟨#[102, 105, 102, 116, 104]⟩, .string ⟨#[101, 105, 103, 104, 116]⟩, .string ⟨#[101, 105, 103, 104, 116, 104]⟩, .string ⟨#[110, 105, 110, 101]⟩, .string ⟨#[110, 105, 110, 116, 104]⟩, .string ⟨#[116, 119, 101, 108, 118, 101]⟩, .string ⟨#[116, 119, 101, 108, 102, 116, 104]⟩]) (.int .i64 3)).run Tryz.prog w9 = .ok (.agg #[.string ⟨#[102, 105, 118, 101]⟩, .string ⟨#[102, 105, 102, 116, 104]⟩]) w9 := fun _ => by kernel_rfl
      have hba := hbel.alloc hbs (.cells #[.string ⟨#[102, 105, 118, 101]⟩, .string ⟨#[102, 105, 102, 116, 104]⟩] 155)
      by_cases hx : ([102, 105, 102, 116, 104] : Str) = x
      · have hbx : (([102, 105, 102, 116, 104] : Str) == x) = true := by rw [hx]; simp
        have hw := Lib.hid (cardW_some (show findL irrS x = some [102, 105, 118, 101] from hq.out.trans (findL_hit hx)))
        clear hx
        go_wp2
        go_ret
        exact ⟨by rw [hw.out]; rfl, hba⟩
      · have hbx : (([102, 105, 102, 116, 104] : Str) == x) = false := by rw [beq_eq_false_iff_ne]; exact hx
        have hq2 := Lib.hid (show findL irrS x = findL (irrS.drop (3 + 1)) x from hq.out.trans (findL_miss hx))
        clear hx
        go_wp2
        exact ⟨⟨3 + 1, _, rfl, rfl, by decide, hq2.out, hba⟩, by simp [intOf]⟩
    · have hix : ∀ w9 : World, (Instr.index 156 (.agg #[.string ⟨#[111, 110, 101]⟩, .string ⟨#[102, 105, 114, 115, 116]⟩, .string ⟨#[116, 119, 111]⟩, .string ⟨#[115, 101, 99, 111, 110, 100]⟩, .string ⟨#[116, 104, 114, 101, 101]⟩, .string ⟨#[116, 104, 105, 114, 100]⟩, .string ⟨#[102, 105, 118, 101]⟩, .string ⟨#[102, 105, 102, 116, 104]⟩, .string ⟨#[101, 105, 103, 104, 116]⟩, .string ⟨#[101, 105, 103, 104, 116, 104]⟩, .string ⟨#[110, 105, 110, 101]⟩, .string ⟨#[110, 105, 110, 116, 104]⟩, .string ⟨#[116, 119, 101, 108, 118, 101]⟩, .string ⟨#[116, 119, 101, 108, 102, 116, 104]⟩]) (.int .i64 4)).run Tryz.prog w9 = .ok (.agg #[.string ⟨#[101, 105, 103, 104, 116]⟩, .string ⟨#[101, 105, 103, 104, 116, 104]⟩]) w9 := fun _ => by kernel_rfl
      have hba := hbel.alloc hbs (.cells #[.string ⟨#[101, 105, 103, 104, 116]⟩, .string ⟨#[101, 105, 103, 104, 116, 104]⟩] 155)
      by_cases hx : ([101, 105, 103, 104, 116, 104] : Str) = x
      · have hbx : (([101, 105, 103, 104, 116, 104] : Str) == x) = true := by rw [hx]; simp
        have hw := Lib.hid (cardW_some (show findL irrS x = some [101, 105, 103, 104, 116] from hq.out.trans (findL_hit hx)))
        clear hx
        go_wp2
        go_ret
        exact ⟨by rw [hw.out]; rfl, hba⟩
      · have hbx : (([101, 105, 103, 104, 116, 104] : Str) == x) = false := by rw [beq_eq_false_iff_ne]; exact hx
        have hq2 := Lib.hid (show findL irrS x = findL (irrS.drop (4 + 1)) x from hq.out.trans (findL_miss hx))
        clear hx
        go_wp2
        exact ⟨⟨4 + 1, _, rfl, rfl, by decide, hq2.out, hba⟩, by simp [intOf]⟩
    · have hix : ∀ w9 : World, (Instr.index 156 (.agg #[.string ⟨#[111, 110, 101]⟩, .string ⟨#[102, 105, 114, 115, 116]⟩, .string ⟨#[116, 119, 111]⟩, .string ⟨#[115, 101, 99, 111, 110, 100]⟩, .string ⟨#[116, 104, 114, 101, 101]⟩, .string ⟨#[116, 104, 105, 114, 100]⟩, .string ⟨#[102, 105, 118, 101]⟩, .string ⟨#[102, 105, 102, 116, 104]⟩, .string ⟨#[101, 105, 103, 104, 116]⟩, .string ⟨#[101, 105, 103, 104, 116, 104]⟩, .string ⟨#[110, 105, 110, 101]⟩, .string ⟨#[110, 105, 110, 116, 104]⟩, .string ⟨#[116, 119, 101, 108, 118, 101]⟩, .string ⟨#[116, 119, 101, 108, 102, 116, 104]⟩]) (.int .i64 5)).run Tryz.prog w9 = .ok (.agg #[.string ⟨#[110, 105, 110, 101]⟩, .string ⟨#[110, 105, 110, 116, 104]⟩]) w9 := fun _ => by kernel_rfl
      have hba := hbel.alloc hbs (.cells #[.string ⟨#[110, 105, 110, 101]⟩, .string ⟨#[110, 105, 110, 116, 104]⟩] 155)
      by_cases hx : ([110, 105, 110, 116, 104] : Str) = x
      · have hbx : (([110, 105, 110, 116, 104] : Str) == x) = true := by rw [hx]; simp
        have hw := Lib.hid (cardW_some (show findL irrS x = some [110, 105, 110, 101] from hq.out.trans (findL_hit hx)))
        clear hx
        go_wp2
        go_ret
        exact ⟨by rw [hw.out]; rfl, hba⟩
      · have hbx : (([110, 105, 110, 116, 104] : Str) == x) = false := by rw [beq_eq_false_iff_ne]; exact hx
        have hq2 := Lib.hid (show findL irrS x = findL (irrS.drop (5 + 1)) x from hq.out.trans (findL_miss hx))
        clear hx
        go_wp2
        exact ⟨⟨5 + 1, _, rfl, rfl, by decide, hq2.out, hba⟩, by simp [intOf]⟩
    · have hix : ∀ w9 : World, (Instr.index 156 (.agg #[.string ⟨#[111, 110, 101]⟩, .string ⟨#[102, 105, 114, 115, 116]⟩, .string ⟨#[116, 119, 111]⟩, .string ⟨#[115, 101, 99, 111, 110, 100]⟩, .string ⟨#[116, 104, 114, 101, 101]⟩, .string ⟨#[116, 104, 105, 114, 100]⟩, .string ⟨#[102, 105, 118, 101]⟩, .string ⟨#[102, 105, 102, 116, 104]⟩, .string ⟨#[101, 105, 103, 104, 116]⟩, .string ⟨#[101, 105, 103, 104, 116, 104]⟩, .string ⟨#[110, 105, 110, 101]⟩, .string ⟨#[110, 105, 110, 116, 104]⟩, .string ⟨#[116, 119, 101, 108, 118, 101]⟩, .string ⟨#[116, 119, 101, 108, 102, 116, 104]⟩]) (.int .i64 6)).run Tryz.prog w9 = .ok (.agg #[.string ⟨#[116, 119, 101, 108, 118, 101]⟩, .string ⟨#[116, 119, 101, 108, 102, 116, 104]⟩]) w9 := fun _ => by kernel_rfl
      have hba := hbel.alloc hbs (.cells #[.string ⟨#[116, 119, 101, 108, 118, 101]⟩, .string ⟨#[116, 119, 101, 108, 102, 116, 104]⟩] 155)
      by_cases hx : ([116, 119, 101, 108, 102, 116, 104] : Str) = x
      · have hbx : (([116, 119, 101, 108, 102, 116, 104] : Str) == x) = true := by rw [hx]; simp
        have hw := Lib.hid (cardW_some (show findL irrS x = some [116, 119, 101, 108, 118, 101] from hq.out.trans (findL_hit hx)))
        clear hx
        go_wp2
        go_ret
        exact ⟨by rw [hw.out]; rfl, hba⟩
      · have hbx : (([116, 119, 101, 108, 102, 116, 104] : Str) == x) = false := by rw [beq_eq_false_iff_ne]; exact hx
        have hq2 := Lib.hid (show findL irrS x = findL (irrS.drop (6 + 1)) x from hq.out.trans (findL_miss hx))
        clear hx
        go_wp2
        exact ⟨⟨6 + 1, _, rfl, rfl, by decide, hq2.out, hba⟩, by simp [intOf]⟩
    · have hw := Lib.hid (cardW_none (show findL irrS x = none from hq.out))
      have hTr := hT.below hbel
      generalize Lib.trimSuffix x [116, 104] = X at *
      cases hsf : Lib.hasSuffix x [116, 104] with
      | false =>
        rw [hsf] at hw hcs
        have hw2 := Lib.hid (show cardW x = [] from hw.out)
        clear hsf
        go_wp2_with fail
        refine (hcs.out _).mono ?_
        rintro e w' ⟨rfl, rfl⟩
        go_wp2
        go_ret
        exact ⟨by rw [hw2.out]; rfl, hbel⟩
      | true =>
        rw [hsf] at hw hcs
        have hw2 := Lib.hid (show cardW x = if countsB (stemW X) && decide (ordW (stemW X) = x) then stemW X else [] from hw.out)
        clear hsf hw
        have htl2 := trim_len X [105, 101]
        have hcs2 := Lib.hid (fun w9 => cutSuf_any X [105, 101] (by omega) w9)
        have hst := Lib.hid (show stemW X = if Lib.hasSuffix X [105, 101] then Lib.trimSuffix X [105, 101] ++ [121] else X from rfl)
        generalize Lib.trimSuffix X [105, 101] = Y at *
        cases hie : Lib.hasSuffix X [105, 101] with
        | true =>
          rw [hie] at hst hcs2
          have hst2 := show stemW X = Y ++ [121] from hst.out
          rw [hst2] at hw2
          have hap : ((⟨Y.toArray⟩ : ByteArray) ++ ⟨#[121]⟩) = ⟨(Y ++ [121]).toArray⟩ := bytes_ext (by simp)
          obtain ⟨Z, hZ⟩ : ∃ Z, Y ++ [121] = Z := ⟨_, rfl⟩
          have hZl : Z.length ≤ 100000 := by rw [← hZ, List.length_append]; simp; omega
          rw [hZ] at hw2 hap
          clear hst hst2 hie hZ
          cases hct : countsB Z with
          | false =>
            have hw3 := Lib.hid (show cardW x = [] by rw [hw2.out, hct]; rfl)
            have hk := Lib.hid (counts_any Z wr hTr)
            rw [hct] at hk
            clear hct
            go_wp2_with fail
            refine (hcs.out _).mono ?_
            rintro e w' ⟨rfl, rfl⟩
            go_wp2_with fail
            refine (hcs2.out _).mono ?_
            rintro e w' ⟨rfl, rfl⟩
            go_wp2_with fail
            refine hk.out.mono ?_
            rintro e w3 ⟨rfl, hb3⟩
            have hb4 := hbel.trans (hb3.mono hbs)
            go_wp2
            go_ret
            exact ⟨by rw [hw3.out]; rfl, hb4⟩
            all_goals omega
          | true =>
            have hk := Lib.hid (counts_any Z wr hTr)
            rw [hct] at hk
            have ho := Lib.hid (fun (w9 : World) (h9 : WT w9) => ordinalWord_any Z (by omega) w9 h9)
            by_cases hox : ordW Z = x
            · have hw3 := Lib.hid (show cardW x = Z by rw [hw2.out, hct, decide_eq_true hox]; rfl)
              have hbo : (ordW Z == x) = true := by rw [hox]; simp
              generalize ordW Z = O at *
              clear hct hox
              go_wp2_with fail
              refine (hcs.out _).mono ?_
              rintro e w' ⟨rfl, rfl⟩
              go_wp2_with fail
              refine (hcs2.out _).mono ?_
              rintro e w' ⟨rfl, rfl⟩
              go_wp2_with fail
              refine hk.out.mono ?_
              rintro e w3 ⟨rfl, hb3⟩
              have hb4 := hbel.trans (hb3.mono hbs)
              have hT3 := hTr.below hb3
              go_wp2_with fail
              refine (ho.out _ hT3).mono ?_
              rintro e w5 ⟨rfl, hb5⟩
              have hb6 := hb4.trans (hb5.mono hb4.size)
              go_wp2
              go_ret
              exact ⟨by rw [hw3.out]; rfl, hb6⟩
              all_goals omega
            · have hw3 := Lib.hid (show cardW x = [] by rw [hw2.out, hct, decide_eq_false hox]; rfl)
              have hbo : (ordW Z == x) = false := by rw [beq_eq_false_iff_ne]; exact hox
              generalize ordW Z = O at *
              clear hct hox
              go_wp2_with fail
              refine (hcs.out _).mono ?_
              rintro e w' ⟨rfl, rfl⟩
              go_wp2_with fail
              refine (hcs2.out _).mono ?_
              rintro e w' ⟨rfl, rfl⟩
              go_wp2_with fail
              refine hk.out.mono ?_
              rintro e w3 ⟨rfl, hb3⟩
              have hb4 := hbel.trans (hb3.mono hbs)
              have hT3 := hTr.below hb3
              go_wp2_with fail
              refine (ho.out _ hT3).mono ?_
              rintro e w5 ⟨rfl, hb5⟩
              have hb6 := hb4.trans (hb5.mono hb4.size)
              go_wp2
              go_ret
              exact ⟨by rw [hw3.out]; rfl, hb6⟩
              all_goals omega
        | false =>
          rw [hie] at hst hcs2
          have hst2 := show stemW X = X from hst.out
          rw [hst2] at hw2
          clear hst hst2 hie
          cases hct : countsB X with
          | false =>
            have hw3 := Lib.hid (show cardW x = [] by rw [hw2.out, hct]; rfl)
            have hk := Lib.hid (counts_any X wr hTr)
            rw [hct] at hk
            clear hct
            go_wp2_with fail
            refine (hcs.out _).mono ?_
            rintro e w' ⟨rfl, rfl⟩
            go_wp2_with fail
            refine (hcs2.out _).mono ?_
            rintro e w' ⟨rfl, rfl⟩
            go_wp2_with fail
            refine hk.out.mono ?_
            rintro e w3 ⟨rfl, hb3⟩
            have hb4 := hbel.trans (hb3.mono hbs)
            go_wp2
            go_ret
            exact ⟨by rw [hw3.out]; rfl, hb4⟩
            all_goals omega
          | true =>
            have hk := Lib.hid (counts_any X wr hTr)
            rw [hct] at hk
            have ho := Lib.hid (fun (w9 : World) (h9 : WT w9) => ordinalWord_any X (by omega) w9 h9)
            by_cases hox : ordW X = x
            · have hw3 := Lib.hid (show cardW x = X by rw [hw2.out, hct, decide_eq_true hox]; rfl)
              have hbo : (ordW X == x) = true := by rw [hox]; simp
              generalize ordW X = O at *
              clear hct hox
              go_wp2_with fail
              refine (hcs.out _).mono ?_
              rintro e w' ⟨rfl, rfl⟩
              go_wp2_with fail
              refine (hcs2.out _).mono ?_
              rintro e w' ⟨rfl, rfl⟩
              go_wp2_with fail
              refine hk.out.mono ?_
              rintro e w3 ⟨rfl, hb3⟩
              have hb4 := hbel.trans (hb3.mono hbs)
              have hT3 := hTr.below hb3
              go_wp2_with fail
              refine (ho.out _ hT3).mono ?_
              rintro e w5 ⟨rfl, hb5⟩
              have hb6 := hb4.trans (hb5.mono hb4.size)
              go_wp2
              go_ret
              exact ⟨by rw [hw3.out]; rfl, hb6⟩
              all_goals omega
            · have hw3 := Lib.hid (show cardW x = [] by rw [hw2.out, hct, decide_eq_false hox]; rfl)
              have hbo : (ordW X == x) = false := by rw [beq_eq_false_iff_ne]; exact hox
              generalize ordW X = O at *
              clear hct hox
              go_wp2_with fail
              refine (hcs.out _).mono ?_
              rintro e w' ⟨rfl, rfl⟩
              go_wp2_with fail
              refine (hcs2.out _).mono ?_
              rintro e w' ⟨rfl, rfl⟩
              go_wp2_with fail
              refine hk.out.mono ?_
              rintro e w3 ⟨rfl, hb3⟩
              have hb4 := hbel.trans (hb3.mono hbs)
              have hT3 := hTr.below hb3
              go_wp2_with fail
              refine (ho.out _ hT3).mono ?_
              rintro e w5 ⟨rfl, hb5⟩
              have hb6 := hb4.trans (hb5.mono hb4.size)
              go_wp2
              go_ret
              exact ⟨by rw [hw3.out]; rfl, hb6⟩
              all_goals omega
end Go.Proofs.YtpdfjlbfhnapkaaGreatDoor
