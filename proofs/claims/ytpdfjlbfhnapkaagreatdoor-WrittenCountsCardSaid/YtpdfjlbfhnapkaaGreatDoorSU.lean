/- The words of numbers below a hundred. -/
import Derived.Test.YtpdfjlbfhnapkaaGreatDoorSQ
namespace Go.Proofs.YtpdfjlbfhnapkaaGreatDoor
open Go.RowKit
set_option linter.unusedSimpArgs false

/-- the call returned a row of its own, or no row, with these words -/
def RetW (ws : List Str) (w : World) (e : Ending) (w' : World) : Prop := ∃ V, e = .returned V ∧ w'.ownsRow w.heap.size 9 1 V ws.length (svs ws) ∧ Below w.heap.size w w'
theorem own_lit (w : World) (xs : List Str) (h : xs.length ≤ 1000) : (w.alloc (.cells (svs xs).toArray 9)).ownsRow w.heap.size 9 1 (.slice (some ⟨w.heap.size, 0, none⟩) xs.length xs.length) xs.length (svs xs) :=
  ⟨by rw [svs_len, Nat.mul_one], .inr ⟨w.heap.size, xs.length, (svs xs).toArray, rfl, Nat.le_refl _, heap_alloc_new w _, Nat.le_refl _, by unfold maxLen; omega, by simp [svs_len], by rw [Nat.mul_one, ← svs_len xs]; simp⟩⟩
theorem RetW.lit {w : World} (xs : List Str) (h : xs.length ≤ 1000) : RetW xs w (.returned (.slice (some ⟨w.heap.size, 0, none⟩) xs.length xs.length)) (w.alloc (.cells (svs xs).toArray 9)) :=
  ⟨_, rfl, own_lit w xs h, (Below.refl _ _).alloc (Nat.le_refl _) _⟩

def twoW (n : Nat) : List Str := if n < 20 then [smallN n] else if n % 10 = 0 then [tensN (n / 10)] else [tensN (n / 10), smallN (n % 10)]
set_option maxRecDepth 100000 in
theorem belowHundred_any (n : Nat) (hn : n < 100) (w : World) (hT : WT w) : Calls Tryz.prog 215 #[.int .i64 (n : Int)] w (RetW (twoW n) w) := by
  by_cases h20 : n < 20
  · have h1 : (n : Int) < 20 := by omega
    have hs := Lib.hid (small_any n (by omega) (by omega) w hT)
    have hw := Lib.hid (show twoW n = [smallN n] from if_pos h20)
    generalize smallN n = X at *
    go_enter Tryz.func215, Tryz.ntmps215
    go_wp2_with fail
    refine hs.out.mono ?_
    rintro e w' ⟨rfl, rfl⟩
    go_wp2
    go_ret
    rw [hw.out]
    exact RetW.lit [X] (by simp)
  · have h1 : ¬ (n : Int) < 20 := by omega
    have h2 : decide ((n : Int) < 20) = false := decide_eq_false h1
    obtain ⟨a, ha⟩ : ∃ a, n / 10 = a := ⟨_, rfl⟩
    obtain ⟨b, hb⟩ : ∃ b, n % 10 = b := ⟨_, rfl⟩
    have d1 : (n : Int).tdiv 10 = (a : Int) := by rw [Int.tdiv_eq_ediv_of_nonneg (by omega)]; omega
    have d2 : (n : Int) / 10 = (a : Int) := by omega
    have d3 : (n : Int).tmod 10 = (b : Int) := by rw [Int.tmod_eq_emod_of_nonneg (by omega)]; omega
    have d4 : (n : Int) % 10 = (b : Int) := by omega
    have ht := Lib.hid (tens_any a (by omega) (by omega) w hT)
    have hs := Lib.hid (small_any b (by omega) (by omega) w hT)
    have hw := Lib.hid (show twoW n = if b = 0 then [tensN a] else [tensN a, smallN b] by unfold twoW; rw [if_neg h20, ha, hb])
    clear ha hb
    generalize tensN a = X at *
    generalize smallN b = Y at *
    by_cases h0 : b = 0
    · subst h0
      have hw2 := Lib.hid (show twoW n = [X] by rw [hw.out, if_pos rfl])
      go_enter Tryz.func215, Tryz.ntmps215
      go_wp2_with fail
      refine ht.out.mono ?_
      rintro e w' ⟨rfl, rfl⟩
      go_wp2
      go_ret
      rw [hw2.out]
      exact RetW.lit [X] (by simp)
    · have h3 : ((b : Int) == 0) = false := by rw [beq_eq_false_iff_ne]; omega
      have hw2 := Lib.hid (show twoW n = [X, Y] by rw [hw.out, if_neg h0])
      go_enter Tryz.func215, Tryz.ntmps215
      go_wp2_with fail
      refine ht.out.mono ?_
      rintro e w' ⟨rfl, rfl⟩
      go_wp2_with fail
      refine hs.out.mono ?_
      rintro e w' ⟨rfl, rfl⟩
      go_wp2
      go_ret
      rw [hw2.out]
      exact RetW.lit [X, Y] (by simp)
def pairW (n : Nat) : List Str := if n < 10 then [[111, 104], smallN n] else twoW n
set_option maxRecDepth 100000 in
theorem sayPair_any (n : Nat) (hn : n < 100) (w : World) (hT : WT w) : Calls Tryz.prog 245 #[.int .i64 (n : Int)] w (RetW (pairW n) w) := by
  by_cases h10 : n < 10
  · have h1 : (n : Int) < 10 := by omega
    have hs := Lib.hid (small_any n (by omega) (by omega) w hT)
    have hw := Lib.hid (show pairW n = [[111, 104], smallN n] from if_pos h10)
    generalize smallN n = X at *
    go_enter Tryz.func245, Tryz.ntmps245
    go_wp2_with fail
    refine hs.out.mono ?_
    rintro e w' ⟨rfl, rfl⟩
    go_wp2
    go_ret
    rw [hw.out]
    exact RetW.lit [[111, 104], X] (by simp)
  · have h1 : ¬ (n : Int) < 10 := by omega
    have h2 : decide ((n : Int) < 10) = false := decide_eq_false h1
    have hs := Lib.hid (belowHundred_any n hn w hT)
    have hw := Lib.hid (show pairW n = twoW n from if_neg h10)
    generalize twoW n = X at *
    go_enter Tryz.func245, Tryz.ntmps245
    go_wp2_with fail
    refine hs.out.mono ?_
    rintro e w2 ⟨V, rfl, ho, hb⟩
    go_wp2
    go_ret
    rw [hw.out]
    exact ⟨V, rfl, ho, hb⟩
def negW (ws : List Str) : List Str := if ws = [] then [] else [109, 105, 110, 117, 115] :: ws
end Go.Proofs.YtpdfjlbfhnapkaaGreatDoor
