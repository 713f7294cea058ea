/- The document's examples. -/
import Derived.Test.YtpdfjlbfhnapkaaGreatDoorTV
namespace Go.Proofs.YtpdfjlbfhnapkaaGreatDoor
open Go.RowKit
set_option linter.unusedSimpArgs false
set_option linter.unusedVariables false
set_option maxRecDepth 100000

/-- what Speak answers of a string of bytes below 128 -/
def spkF (s : Str) : Str × Int := spC s (speakF (cutS s).1 (cutS s).2.1).1
theorem SpeakA_any (s : Str) (ha : s.all ascB = true) (w : World) (hT : WT w) :
    Calls Tryz.prog 20 #[.string ⟨s.toArray⟩] w fun e w' => e = .returned (.tuple #[.string ⟨(spkF s).1.toArray⟩, .int .i64 (spkF s).2]) ∧ Below w.heap.size w w' := by
  refine (Speak_any s w hT).mono ?_
  rintro e w' ⟨⟨sh, ns, h, rfl⟩, hb⟩
  refine ⟨?_, hb⟩
  rcases h with h | h
  · have e1 : ∀ k, spC s k = ([], 5) := fun k => if_pos h
    unfold spkF
    rw [e1, e1]
  · obtain ⟨h1, h2⟩ := h.asc ha
    subst h1
    subst h2
    rfl
def formsE : List Str := [[45, 50, 49], [49, 48, 49], [49, 48, 48, 49], [50, 51, 52, 53, 54, 55, 56], [49, 48, 51, 114, 100], [48, 48, 55], [45, 48, 46, 53], [48, 55, 58, 48, 53], [49, 56, 48, 53, 45, 48, 49, 45, 48, 49], [36, 50, 46, 53, 48]]
def wordsE : List Str := [[109, 105, 110, 117, 115, 32, 116, 119, 101, 110, 116, 121, 32, 111, 110, 101], [111, 110, 101, 32, 104, 117, 110, 100, 114, 101, 100, 32, 97, 110, 100, 32, 111, 110, 101], [111, 110, 101, 32, 116, 104, 111, 117, 115, 97, 110, 100, 32, 97, 110, 100, 32, 111, 110, 101], [116, 119, 111, 32, 109, 105, 108, 108, 105, 111, 110, 32, 116, 104, 114, 101, 101, 32, 104, 117, 110, 100, 114, 101, 100, 32, 97, 110, 100, 32, 102, 111, 114, 116, 121, 32, 102, 105, 118, 101, 32, 116, 104, 111, 117, 115, 97, 110, 100, 32, 115, 105, 120, 32, 104, 117, 110, 100, 114, 101, 100, 32, 97, 110, 100, 32, 115, 101, 118, 101, 110, 116, 121, 32, 101, 105, 103, 104, 116], [111, 110, 101, 32, 104, 117, 110, 100, 114, 101, 100, 32, 97, 110, 100, 32, 116, 104, 105, 114, 100], [100, 105, 103, 105, 116, 115, 32, 122, 101, 114, 111, 32, 122, 101, 114, 111, 32, 115, 101, 118, 101, 110], [109, 105, 110, 117, 115, 32, 122, 101, 114, 111, 32, 112, 111, 105, 110, 116, 32, 102, 105, 118, 101], [115, 101, 118, 101, 110, 32, 111, 104, 32, 102, 105, 118, 101], [116, 104, 101, 32, 102, 105, 114, 115, 116, 32, 111, 102, 32, 106, 97, 110, 117, 97, 114, 121, 32, 101, 105, 103, 104, 116, 101, 101, 110, 32, 111, 104, 32, 102, 105, 118, 101], [116, 119, 111, 32, 100, 111, 108, 108, 97, 114, 115, 32, 97, 110, 100, 32, 102, 105, 102, 116, 121, 32, 99, 101, 110, 116, 115]]
theorem ex_ten : ∀ j, j < 10 → (formsE.getD j []).all ascB = true ∧ spkF (formsE.getD j []) = (wordsE.getD j [], 0) ∧ wrT (wordsE.getD j []) = formsE.getD j [] ∧ wrC (wordsE.getD j []) = 0 := by decide +kernel
theorem ex_text : wttF [99, 97, 108, 108, 32, 109, 101, 32, 97, 116, 32, 115, 101, 118, 101, 110, 32, 111, 104, 32, 102, 105, 118, 101, 32, 111, 110, 32, 116, 104, 101, 32, 102, 105, 114, 115, 116, 32, 111, 102, 32, 109, 97, 121, 32, 116, 119, 101, 110, 116, 121, 32, 116, 119, 101, 110, 116, 121] = ([99, 97, 108, 108, 32, 109, 101, 32, 97, 116, 32, 48, 55, 58, 48, 53, 32, 111, 110, 32, 50, 48, 50, 48, 45, 48, 53, 45, 48, 49], 0) := by decide +kernel
theorem ex_words : wofF [116, 119, 101, 110, 116, 121, 32, 111, 110, 101] = ([[116, 119, 101, 110, 116, 121], [111, 110, 101]], 0) := by decide +kernel
theorem ex_way : way [[116, 119, 101, 110, 116, 121], [111, 110, 101]] 0 = 2 := by decide +kernel
theorem ex_rd : (rd [[116, 119, 101, 110, 116, 121], [111, 110, 101]] 0).map joinW = [[50, 48, 32, 49], [50, 49]] := by decide +kernel
theorem ex_le : leR [50, 49] [50, 48, 32, 49] = true := by decide +kernel
theorem ex_readings : rdgF [116, 119, 101, 110, 116, 121, 32, 111, 110, 101] = ([[50, 49], [50, 48, 32, 49]], 0) := by
  unfold rdgF
  rw [ex_words]
  simp only
  rw [if_neg (by decide), ex_way, if_neg (by decide)]
  unfold readR
  rw [ex_rd, ← sortR_is (ys := [[50, 49], [50, 48, 32, 49]]) (List.Perm.swap _ _ _) (by
    refine List.Pairwise.cons (fun x hx => ?_) (List.Pairwise.cons (fun x hx => ?_) List.Pairwise.nil)
    · rw [List.mem_singleton] at hx; subst hx; exact ex_le
    · cases hx)]
theorem same_any (A B : Option Addr) (n m c d : Nat) (xs ys : List Str) (w : World) (hX : Ss w A n c xs) (hY : Ss w B m d ys) (hn : n ≤ 100000) :
    Calls Tryz.prog 43 #[.slice A n c, .slice B m d] w fun e w' => e = .returned (.bool (decide (xs = ys))) ∧ Below w.heap.size w w' := by
  have hxl := hX.len
  have hyl := hY.len
  by_cases hl : n = m
  · subst hl
    have hxl := Lib.hid hxl
    have hyl := Lib.hid hyl
    go_enter Tryz.func43, Tryz.ntmps43
    go_wp2
    go_loopw [5] (fun iv wr' => ∃ (j : Nat) (wr : World), wr = wr' ∧ iv = .int .i64 (j : Int) ∧ j ≤ n ∧ Hid (xs.take j = ys.take j) ∧ Below w.heap.size w wr) (fun iv _ => n - (intOf iv).toNat)
    case atStart => exact ⟨0, _, rfl, rfl, Nat.zero_le _, rfl, Below.refl _ _⟩
    case round =>
      obtain ⟨j, wr, rfl, rfl, hj, hq, hbel⟩ := hrel
      rcases Nat.lt_or_ge j n with hlt | hge
      · obtain ⟨ad, x, rfl, hcx, hx⟩ := (hX.below hbel).at_ hlt
        obtain ⟨bd, y, rfl, hcy, hy⟩ := (hY.below hbel).at_ hlt
        have j0 : (0 : Int) ≤ (j : Int) := by omega
        have j1 : (j : Int) < (n : Int) := by omega
        by_cases hxy : x = y
        · subst hxy
          have hq2 := Lib.hid (show xs.take (j + 1) = ys.take (j + 1) by rw [List.take_add_one, List.take_add_one, hq.out, hx.out, hy.out])
          go_wp2
          go_quiet (fail)
          go_wp2
          go_roundw
          case rel => exact ⟨j + 1, _, rfl, by go_num, hlt, hq2, bel_drewN hbel nq⟩
          case measure => simp [intOf]; omega
        · have e1 : (x == y) = false := by rw [beq_eq_false_iff_ne]; exact hxy
          have hr := Lib.hid (show decide (xs = ys) = false by
            refine decide_eq_false (fun e => ?_)
            have h1 := hx.out
            rw [e, hy.out] at h1
            injection h1 with h1
            exact hxy h1.symm)
          clear hxy
          go_wp2
          go_quiet (fail)
          go_wp2
          go_ret
          exact ⟨ret_bool hr.out.symm, bel_drewN hbel nq⟩
      · obtain rfl : j = n := by omega
        have hr := Lib.hid (show decide (xs = ys) = true by
          refine decide_eq_true ?_
          have h := hq.out
          rw [List.take_of_length_le (by rw [hxl.out]; omega), List.take_of_length_le (by rw [hyl.out]; omega)] at h
          exact h)
        go_wp2
        go_ret
        exact ⟨ret_bool hr.out.symm, hbel⟩
  · have e1 : ((n : Int) == (m : Int)) = false := by rw [beq_eq_false_iff_ne]; omega
    have hr := Lib.hid (show decide (xs = ys) = false by
      refine decide_eq_false (fun e => hl ?_)
      rw [← hxl, ← hyl, e])
    clear hxl hyl hl
    go_enter Tryz.func43, Tryz.ntmps43
    go_wp2
    go_ret
    exact ⟨ret_bool hr.out.symm, Below.refl _ _⟩
end Go.Proofs.YtpdfjlbfhnapkaaGreatDoor

/- The document's examples hold of the program. -/
namespace Go.Proofs.YtpdfjlbfhnapkaaGreatDoor
open Go.RowKit
set_option linter.unusedSimpArgs false
set_option linter.unusedVariables false
set_option maxRecDepth 100000

set_option maxHeartbeats 8000000 in
theorem known_any (w : World) (hT : WT w) : Calls Tryz.prog 18 #[] w fun e w' => e = .returned (.bool true) ∧ Below w.heap.size w w' := by
  have hA1 := (Below.refl w.heap.size w).alloc (Nat.le_refl _) (.cells #[.string ⟨#[45, 50, 49]⟩, .string ⟨#[49, 48, 49]⟩, .string ⟨#[49, 48, 48, 49]⟩, .string ⟨#[50, 51, 52, 53, 54, 55, 56]⟩, .string ⟨#[49, 48, 51, 114, 100]⟩, .string ⟨#[48, 48, 55]⟩, .string ⟨#[45, 48, 46, 53]⟩, .string ⟨#[48, 55, 58, 48, 53]⟩, .string ⟨#[49, 56, 48, 53, 45, 48, 49, 45, 48, 49]⟩, .string ⟨#[36, 50, 46, 53, 48]⟩] 9)
  have e1 : (w.alloc (.cells #[.string ⟨#[45, 50, 49]⟩, .string ⟨#[49, 48, 49]⟩, .string ⟨#[49, 48, 48, 49]⟩, .string ⟨#[50, 51, 52, 53, 54, 55, 56]⟩, .string ⟨#[49, 48, 51, 114, 100]⟩, .string ⟨#[48, 48, 55]⟩, .string ⟨#[45, 48, 46, 53]⟩, .string ⟨#[48, 55, 58, 48, 53]⟩, .string ⟨#[49, 56, 48, 53, 45, 48, 49, 45, 48, 49]⟩, .string ⟨#[36, 50, 46, 53, 48]⟩] 9)).heap.size = w.heap.size + 1 := World.size_alloc _ _
  have hA2 := hA1.alloc (by rw [e1]; omega) (.cells #[.string ⟨#[109, 105, 110, 117, 115, 32, 116, 119, 101, 110, 116, 121, 32, 111, 110, 101]⟩, .string ⟨#[111, 110, 101, 32, 104, 117, 110, 100, 114, 101, 100, 32, 97, 110, 100, 32, 111, 110, 101]⟩, .string ⟨#[111, 110, 101, 32, 116, 104, 111, 117, 115, 97, 110, 100, 32, 97, 110, 100, 32, 111, 110, 101]⟩, .string ⟨#[116, 119, 111, 32, 109, 105, 108, 108, 105, 111, 110, 32, 116, 104, 114, 101, 101, 32, 104, 117, 110, 100, 114, 101, 100, 32, 97, 110, 100, 32, 102, 111, 114, 116, 121, 32, 102, 105, 118, 101, 32, 116, 104, 111, 117, 115, 97, 110, 100, 32, 115, 105, 120, 32, 104, 117, 110, 100, 114, 101, 100, 32, 97, 110, 100, 32, 115, 101, 118, 101, 110, 116, 121, 32, 101, 105, 103, 104, 116]⟩, .string ⟨#[111, 110, 101, 32, 104, 117, 110, 100, 114, 101, 100, 32, 97, 110, 100, 32, 116, 104, 105, 114, 100]⟩, .string ⟨#[100, 105, 103, 105, 116, 115, 32, 122, 101, 114, 111, 32, 122, 101, 114, 111, 32, 115, 101, 118, 101, 110]⟩, .string ⟨#[109, 105, 110, 117, 115, 32, 122, 101, 114, 111, 32, 112, 111, 105, 110, 116, 32, 102, 105, 118, 101]⟩, .string ⟨#[115, 101, 118, 101, 110, 32, 111, 104, 32, 102, 105, 118, 101]⟩, .string ⟨#[116, 104, 101, 32, 102, 105, 114, 115, 116, 32, 111, 102, 32, 106, 97, 110, 117, 97, 114, 121, 32, 101, 105, 103, 104, 116, 101, 101, 110, 32, 111, 104, 32, 102, 105, 118, 101]⟩, .string ⟨#[116, 119, 111, 32, 100, 111, 108, 108, 97, 114, 115, 32, 97, 110, 100, 32, 102, 105, 102, 116, 121, 32, 99, 101, 110, 116, 115]⟩] 9)
  have B0 := (Blk.new w 9 #[.string ⟨#[45, 50, 49]⟩, .string ⟨#[49, 48, 49]⟩, .string ⟨#[49, 48, 48, 49]⟩, .string ⟨#[50, 51, 52, 53, 54, 55, 56]⟩, .string ⟨#[49, 48, 51, 114, 100]⟩, .string ⟨#[48, 48, 55]⟩, .string ⟨#[45, 48, 46, 53]⟩, .string ⟨#[48, 55, 58, 48, 53]⟩, .string ⟨#[49, 56, 48, 53, 45, 48, 49, 45, 48, 49]⟩, .string ⟨#[36, 50, 46, 53, 48]⟩]).alloc (.cells #[.string ⟨#[109, 105, 110, 117, 115, 32, 116, 119, 101, 110, 116, 121, 32, 111, 110, 101]⟩, .string ⟨#[111, 110, 101, 32, 104, 117, 110, 100, 114, 101, 100, 32, 97, 110, 100, 32, 111, 110, 101]⟩, .string ⟨#[111, 110, 101, 32, 116, 104, 111, 117, 115, 97, 110, 100, 32, 97, 110, 100, 32, 111, 110, 101]⟩, .string ⟨#[116, 119, 111, 32, 109, 105, 108, 108, 105, 111, 110, 32, 116, 104, 114, 101, 101, 32, 104, 117, 110, 100, 114, 101, 100, 32, 97, 110, 100, 32, 102, 111, 114, 116, 121, 32, 102, 105, 118, 101, 32, 116, 104, 111, 117, 115, 97, 110, 100, 32, 115, 105, 120, 32, 104, 117, 110, 100, 114, 101, 100, 32, 97, 110, 100, 32, 115, 101, 118, 101, 110, 116, 121, 32, 101, 105, 103, 104, 116]⟩, .string ⟨#[111, 110, 101, 32, 104, 117, 110, 100, 114, 101, 100, 32, 97, 110, 100, 32, 116, 104, 105, 114, 100]⟩, .string ⟨#[100, 105, 103, 105, 116, 115, 32, 122, 101, 114, 111, 32, 122, 101, 114, 111, 32, 115, 101, 118, 101, 110]⟩, .string ⟨#[109, 105, 110, 117, 115, 32, 122, 101, 114, 111, 32, 112, 111, 105, 110, 116, 32, 102, 105, 118, 101]⟩, .string ⟨#[115, 101, 118, 101, 110, 32, 111, 104, 32, 102, 105, 118, 101]⟩, .string ⟨#[116, 104, 101, 32, 102, 105, 114, 115, 116, 32, 111, 102, 32, 106, 97, 110, 117, 97, 114, 121, 32, 101, 105, 103, 104, 116, 101, 101, 110, 32, 111, 104, 32, 102, 105, 118, 101]⟩, .string ⟨#[116, 119, 111, 32, 100, 111, 108, 108, 97, 114, 115, 32, 97, 110, 100, 32, 102, 105, 102, 116, 121, 32, 99, 101, 110, 116, 115]⟩] 9)
  have B1 := Blk.new (w.alloc (.cells #[.string ⟨#[45, 50, 49]⟩, .string ⟨#[49, 48, 49]⟩, .string ⟨#[49, 48, 48, 49]⟩, .string ⟨#[50, 51, 52, 53, 54, 55, 56]⟩, .string ⟨#[49, 48, 51, 114, 100]⟩, .string ⟨#[48, 48, 55]⟩, .string ⟨#[45, 48, 46, 53]⟩, .string ⟨#[48, 55, 58, 48, 53]⟩, .string ⟨#[49, 56, 48, 53, 45, 48, 49, 45, 48, 49]⟩, .string ⟨#[36, 50, 46, 53, 48]⟩] 9)) 9 #[.string ⟨#[109, 105, 110, 117, 115, 32, 116, 119, 101, 110, 116, 121, 32, 111, 110, 101]⟩, .string ⟨#[111, 110, 101, 32, 104, 117, 110, 100, 114, 101, 100, 32, 97, 110, 100, 32, 111, 110, 101]⟩, .string ⟨#[111, 110, 101, 32, 116, 104, 111, 117, 115, 97, 110, 100, 32, 97, 110, 100, 32, 111, 110, 101]⟩, .string ⟨#[116, 119, 111, 32, 109, 105, 108, 108, 105, 111, 110, 32, 116, 104, 114, 101, 101, 32, 104, 117, 110, 100, 114, 101, 100, 32, 97, 110, 100, 32, 102, 111, 114, 116, 121, 32, 102, 105, 118, 101, 32, 116, 104, 111, 117, 115, 97, 110, 100, 32, 115, 105, 120, 32, 104, 117, 110, 100, 114, 101, 100, 32, 97, 110, 100, 32, 115, 101, 118, 101, 110, 116, 121, 32, 101, 105, 103, 104, 116]⟩, .string ⟨#[111, 110, 101, 32, 104, 117, 110, 100, 114, 101, 100, 32, 97, 110, 100, 32, 116, 104, 105, 114, 100]⟩, .string ⟨#[100, 105, 103, 105, 116, 115, 32, 122, 101, 114, 111, 32, 122, 101, 114, 111, 32, 115, 101, 118, 101, 110]⟩, .string ⟨#[109, 105, 110, 117, 115, 32, 122, 101, 114, 111, 32, 112, 111, 105, 110, 116, 32, 102, 105, 118, 101]⟩, .string ⟨#[115, 101, 118, 101, 110, 32, 111, 104, 32, 102, 105, 118, 101]⟩, .string ⟨#[116, 104, 101, 32, 102, 105, 114, 115, 116, 32, 111, 102, 32, 106, 97, 110, 117, 97, 114, 121, 32, 101, 105, 103, 104, 116, 101, 101, 110, 32, 111, 104, 32, 102, 105, 118, 101]⟩, .string ⟨#[116, 119, 111, 32, 100, 111, 108, 108, 97, 114, 115, 32, 97, 110, 100, 32, 102, 105, 102, 116, 121, 32, 99, 101, 110, 116, 115]⟩]
  rw [e1] at B1
  have hSf : ∀ (x : World), Blk x w.heap.size 9 #[.string ⟨#[45, 50, 49]⟩, .string ⟨#[49, 48, 49]⟩, .string ⟨#[49, 48, 48, 49]⟩, .string ⟨#[50, 51, 52, 53, 54, 55, 56]⟩, .string ⟨#[49, 48, 51, 114, 100]⟩, .string ⟨#[48, 48, 55]⟩, .string ⟨#[45, 48, 46, 53]⟩, .string ⟨#[48, 55, 58, 48, 53]⟩, .string ⟨#[49, 56, 48, 53, 45, 48, 49, 45, 48, 49]⟩, .string ⟨#[36, 50, 46, 53, 48]⟩] → ∀ j, j < 10 → x.cell? ⟨w.heap.size, j, none⟩ = some (.string ⟨(formsE.getD j []).toArray⟩) := fun x h j hj => (h.cell j).trans (by
    rcases (show j = 0 ∨ j = 1 ∨ j = 2 ∨ j = 3 ∨ j = 4 ∨ j = 5 ∨ j = 6 ∨ j = 7 ∨ j = 8 ∨ j = 9 by omega) with rfl | rfl | rfl | rfl | rfl | rfl | rfl | rfl | rfl | rfl <;> rfl)
  have hSw : ∀ (x : World), Blk x (w.heap.size + 1) 9 #[.string ⟨#[109, 105, 110, 117, 115, 32, 116, 119, 101, 110, 116, 121, 32, 111, 110, 101]⟩, .string ⟨#[111, 110, 101, 32, 104, 117, 110, 100, 114, 101, 100, 32, 97, 110, 100, 32, 111, 110, 101]⟩, .string ⟨#[111, 110, 101, 32, 116, 104, 111, 117, 115, 97, 110, 100, 32, 97, 110, 100, 32, 111, 110, 101]⟩, .string ⟨#[116, 119, 111, 32, 109, 105, 108, 108, 105, 111, 110, 32, 116, 104, 114, 101, 101, 32, 104, 117, 110, 100, 114, 101, 100, 32, 97, 110, 100, 32, 102, 111, 114, 116, 121, 32, 102, 105, 118, 101, 32, 116, 104, 111, 117, 115, 97, 110, 100, 32, 115, 105, 120, 32, 104, 117, 110, 100, 114, 101, 100, 32, 97, 110, 100, 32, 115, 101, 118, 101, 110, 116, 121, 32, 101, 105, 103, 104, 116]⟩, .string ⟨#[111, 110, 101, 32, 104, 117, 110, 100, 114, 101, 100, 32, 97, 110, 100, 32, 116, 104, 105, 114, 100]⟩, .string ⟨#[100, 105, 103, 105, 116, 115, 32, 122, 101, 114, 111, 32, 122, 101, 114, 111, 32, 115, 101, 118, 101, 110]⟩, .string ⟨#[109, 105, 110, 117, 115, 32, 122, 101, 114, 111, 32, 112, 111, 105, 110, 116, 32, 102, 105, 118, 101]⟩, .string ⟨#[115, 101, 118, 101, 110, 32, 111, 104, 32, 102, 105, 118, 101]⟩, .string ⟨#[116, 104, 101, 32, 102, 105, 114, 115, 116, 32, 111, 102, 32, 106, 97, 110, 117, 97, 114, 121, 32, 101, 105, 103, 104, 116, 101, 101, 110, 32, 111, 104, 32, 102, 105, 118, 101]⟩, .string ⟨#[116, 119, 111, 32, 100, 111, 108, 108, 97, 114, 115, 32, 97, 110, 100, 32, 102, 105, 102, 116, 121, 32, 99, 101, 110, 116, 115]⟩] → ∀ j, j < 10 → x.cell? ⟨w.heap.size + 1, j, none⟩ = some (.string ⟨(wordsE.getD j []).toArray⟩) := fun x h j hj => (h.cell j).trans (by
    rcases (show j = 0 ∨ j = 1 ∨ j = 2 ∨ j = 3 ∨ j = 4 ∨ j = 5 ∨ j = 6 ∨ j = 7 ∨ j = 8 ∨ j = 9 by omega) with rfl | rfl | rfl | rfl | rfl | rfl | rfl | rfl | rfl | rfl <;> rfl)
  have hSf := Lib.hid hSf
  have hSw := Lib.hid hSw
  clear e1 hA1
  go_enter Tryz.func18, Tryz.ntmps18
  go_wp2
  generalize (w.alloc (.cells #[.string ⟨#[45, 50, 49]⟩, .string ⟨#[49, 48, 49]⟩, .string ⟨#[49, 48, 48, 49]⟩, .string ⟨#[50, 51, 52, 53, 54, 55, 56]⟩, .string ⟨#[49, 48, 51, 114, 100]⟩, .string ⟨#[48, 48, 55]⟩, .string ⟨#[45, 48, 46, 53]⟩, .string ⟨#[48, 55, 58, 48, 53]⟩, .string ⟨#[49, 56, 48, 53, 45, 48, 49, 45, 48, 49]⟩, .string ⟨#[36, 50, 46, 53, 48]⟩] 9)).alloc (.cells #[.string ⟨#[109, 105, 110, 117, 115, 32, 116, 119, 101, 110, 116, 121, 32, 111, 110, 101]⟩, .string ⟨#[111, 110, 101, 32, 104, 117, 110, 100, 114, 101, 100, 32, 97, 110, 100, 32, 111, 110, 101]⟩, .string ⟨#[111, 110, 101, 32, 116, 104, 111, 117, 115, 97, 110, 100, 32, 97, 110, 100, 32, 111, 110, 101]⟩, .string ⟨#[116, 119, 111, 32, 109, 105, 108, 108, 105, 111, 110, 32, 116, 104, 114, 101, 101, 32, 104, 117, 110, 100, 114, 101, 100, 32, 97, 110, 100, 32, 102, 111, 114, 116, 121, 32, 102, 105, 118, 101, 32, 116, 104, 111, 117, 115, 97, 110, 100, 32, 115, 105, 120, 32, 104, 117, 110, 100, 114, 101, 100, 32, 97, 110, 100, 32, 115, 101, 118, 101, 110, 116, 121, 32, 101, 105, 103, 104, 116]⟩, .string ⟨#[111, 110, 101, 32, 104, 117, 110, 100, 114, 101, 100, 32, 97, 110, 100, 32, 116, 104, 105, 114, 100]⟩, .string ⟨#[100, 105, 103, 105, 116, 115, 32, 122, 101, 114, 111, 32, 122, 101, 114, 111, 32, 115, 101, 118, 101, 110]⟩, .string ⟨#[109, 105, 110, 117, 115, 32, 122, 101, 114, 111, 32, 112, 111, 105, 110, 116, 32, 102, 105, 118, 101]⟩, .string ⟨#[115, 101, 118, 101, 110, 32, 111, 104, 32, 102, 105, 118, 101]⟩, .string ⟨#[116, 104, 101, 32, 102, 105, 114, 115, 116, 32, 111, 102, 32, 106, 97, 110, 117, 97, 114, 121, 32, 101, 105, 103, 104, 116, 101, 101, 110, 32, 111, 104, 32, 102, 105, 118, 101]⟩, .string ⟨#[116, 119, 111, 32, 100, 111, 108, 108, 97, 114, 115, 32, 97, 110, 100, 32, 102, 105, 102, 116, 121, 32, 99, 101, 110, 116, 115]⟩] 9) = w2 at *
  go_loopw [3] (fun iv wr' => ∃ (j : Nat) (wr : World), wr = wr' ∧ iv = .int .i64 (j : Int) ∧ j ≤ 10 ∧ Below w2.heap.size w2 wr) (fun iv _ => 10 - (intOf iv).toNat)
  case atStart => exact ⟨0, _, rfl, rfl, Nat.zero_le _, Below.refl _ _⟩
  case round =>
    obtain ⟨j, wr, rfl, rfl, hj, hbel⟩ := hrel
    have hbw := hA2.trans (hbel.mono hA2.size)
    rcases Nat.lt_or_ge j 10 with hlt | hge
    · obtain ⟨q1, q2, q3, q4⟩ := ex_ten j hlt
      have hsp := Lib.hid (fun (w9 : World) (h9 : WT w9) => SpeakA_any (formsE.getD j []) q1 w9 h9)
      have hwr := Lib.hid (fun (w9 : World) (h9 : WT w9) => Write_any (wordsE.getD j []) w9 h9)
      rw [q2] at hsp
      rw [q3, q4] at hwr
      simp only at hsp
      have c0 := hSf.out wr (B0.below hbel) j hlt
      have c1' := fun (x : World) (h : Below w2.heap.size w2 x) => hSw.out x (B1.below h) j hlt
      have c0' := fun (x : World) (h : Below w2.heap.size w2 x) => hSf.out x (B0.below h) j hlt
      have c1' := Lib.hid c1'
      have c0' := Lib.hid c0'
      clear q1 q2 q3 q4
      generalize formsE.getD j [] = F at *
      generalize wordsE.getD j [] = X at *
      have j0 : (0 : Int) ≤ (j : Int) := by omega
      have j1 : (j : Int) < 10 := by omega
      go_wp2_with fail
      refine (hsp.out _ (hT.below hbw)).mono ?_
      rintro e x2 ⟨rfl, hx2⟩
      have hb2 := hbel.trans (hx2.mono hbel.size)
      have d1 := c1'.out x2 hb2
      go_wp2_with fail
      refine (hwr.out _ (hT.below (hA2.trans (hb2.mono hA2.size)))).mono ?_
      rintro e x3 ⟨rfl, hx3⟩
      have hb3 := hb2.trans (hx3.mono hb2.size)
      have d2 := c1'.out x3 hb3
      have d3 := c0'.out x3 hb3
      go_wp2
      go_roundw
      case rel => exact ⟨j + 1, _, rfl, by go_num, hlt, hb3⟩
      case measure => simp [intOf]; omega
    · obtain rfl : j = 10 := by omega
      have hwt := Lib.hid (fun (w9 : World) (h9 : WT w9) => WriteText_any [99, 97, 108, 108, 32, 109, 101, 32, 97, 116, 32, 115, 101, 118, 101, 110, 32, 111, 104, 32, 102, 105, 118, 101, 32, 111, 110, 32, 116, 104, 101, 32, 102, 105, 114, 115, 116, 32, 111, 102, 32, 109, 97, 121, 32, 116, 119, 101, 110, 116, 121, 32, 116, 119, 101, 110, 116, 121] w9 h9)
      have hrg := Lib.hid (fun (w9 : World) (h9 : WT w9) => Readings_any [116, 119, 101, 110, 116, 121, 32, 111, 110, 101] w9 h9)
      rw [ex_text] at hwt
      rw [ex_readings] at hrg
      simp only at hwt
      go_wp2_with fail
      refine (hwt.out _ (hT.below hbw)).mono ?_
      rintro e x2 ⟨rfl, hx2⟩
      have hb2 := hbw.trans (hx2.mono hbw.size)
      go_wp2_with fail
      refine (hrg.out _ (hT.below hb2)).mono ?_
      rintro e x3 ⟨V, rfl, hO3, hx3⟩
      have hb3 := hb2.trans (hx3.mono hb2.size)
      obtain ⟨A3, c3, rfl, hS3, _, _⟩ := Ss.of_own hO3
      have hA4 := (Below.refl x3.heap.size x3).alloc (Nat.le_refl _) (.cells #[.string ⟨#[50, 49]⟩, .string ⟨#[50, 48, 32, 49]⟩] 9)
      have B4 := Blk.new x3 9 #[.string ⟨#[50, 49]⟩, .string ⟨#[50, 48, 32, 49]⟩]
      have hS4 := hS3.below hA4
      have hSl : Ss (x3.alloc (.cells #[.string ⟨#[50, 49]⟩, .string ⟨#[50, 48, 32, 49]⟩] 9)) (some ⟨x3.heap.size, 0, none⟩) 2 2 [[50, 49], [50, 48, 32, 49]] := ⟨rfl, Nat.le_refl _, by decide, fun _ => ⟨_, rfl, fun i y hy => by
        rw [add_new]
        match i, hy with
        | 0, hy => injection hy with hy; subst hy; exact B4.cell 0
        | 1, hy => injection hy with hy; subst hy; exact B4.cell 1⟩⟩
      have hsm := Lib.hid (same_any A3 (some ⟨x3.heap.size, 0, none⟩) 2 2 c3 2 [[50, 49], [50, 48, 32, 49]] [[50, 49], [50, 48, 32, 49]] _ hS4 hSl (by decide))
      rw [decide_eq_true rfl] at hsm
      have hb4 := hb3.trans (hA4.mono hb3.size)
      go_wp2_with fail
      refine hsm.out.mono ?_
      rintro e x5 ⟨rfl, hx5⟩
      go_wp2
      go_ret
      exact ⟨rfl, hb4.trans (hx5.mono hb4.size)⟩
end Go.Proofs.YtpdfjlbfhnapkaaGreatDoor
