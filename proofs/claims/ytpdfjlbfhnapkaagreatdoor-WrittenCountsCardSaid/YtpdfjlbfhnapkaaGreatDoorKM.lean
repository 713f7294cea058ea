/- A cardinal is read back; WrittenCounts returns true. -/
import Derived.Test.YtpdfjlbfhnapkaaGreatDoorKL
namespace Go.Proofs.YtpdfjlbfhnapkaaGreatDoor
open Go.RowKit
set_option linter.unusedSimpArgs false
set_option linter.unusedVariables false
set_option maxRecDepth 100000

theorem cnt3_few (g : Nat) : (cnt3 g).length ≤ 5 := by
  have two := twoW_len
  unfold cnt3 tailW lastW
  split
  · rw [if_neg (by simp)]
    split
    · simp
    · have := two (g % 100)
      simp
      omega
  · rw [if_pos rfl]
    have := two g
    omega
theorem tail_few {pre : List Str} {m : Nat} (h : pre ≠ []) : (tailW pre m).length ≤ pre.length + 5 := by
  have two := twoW_len
  unfold tailW lastW
  split
  · rw [if_neg (by simp)]
    split
    · simp
    · have := two (m % 100)
      simp
      omega
  · split
    · omega
    · have := two m
      simp
      omega
theorem gW_few (n j : Nat) : (gW n j).length ≤ 6 := by
  unfold gW
  split
  · have := cnt3_few (n / byN j % 1000)
    rw [List.length_append]
    simp
    omega
  · simp
theorem cnt_few {n : Nat} (hn : n < 1000000000000) : (cntW n).length ≤ 23 := by
  rw [cnt_gW hn]
  by_cases h : gW n 0 ++ gW n 1 ++ gW n 2 = []
  · rw [h]
    have := cnt3_few (n % 1000)
    show (cnt3 (n % 1000)).length ≤ 23
    omega
  · have h1 := tail_few (m := n % 1000) h
    have h2 := gW_few n 0
    have h3 := gW_few n 1
    have h4 := gW_few n 2
    rw [List.length_append, List.length_append] at h1
    omega
theorem join_spl (s : Str) : joinW (spl s) = s := by
  induction s with
  | nil => exact joinW_one []
  | cons c cs ih =>
    rw [spl_cons]
    have hne : spl cs ≠ [] := fun e => by have := (spl_len cs).2; rw [e] at this; simp at this
    split
    · rename_i h
      rw [joinW_cons _ _ hne, ih, h]
      rfl
    · cases hq : spl cs with
      | nil => exact absurd hq hne
      | cons x xs =>
        rw [hq] at ih
        cases xs with
        | nil =>
          rw [joinW_one] at ih
          rw [← ih]
          exact joinW_one _
        | cons y ys =>
          rw [joinW_cons _ _ (by simp)] at ih
          rw [← ih]
          exact joinW_cons _ _ (by simp)
theorem num_atoi {m : Nat} (hm : m < 1000000000000) : Lib.atoi (numS m) = some (m : Int) := by
  have := atoi_val (numS_all m) (numS_ne m)
  rw [numS_val hm] at this
  exact this
theorem num_atoi_neg {m : Nat} (hm : m < 1000000000000) : Lib.atoi (45 :: numS m) = some (-(m : Int)) := by
  have := atoi_neg (numS_all m) (numS_ne m)
  rw [numS_val hm] at this
  exact this
theorem nosp_min : ∀ c ∈ ([109, 105, 110, 117, 115] : Str), c ≠ 32 := by decide
/-- a cardinal is read back -/
theorem back (n : Int) (h : -999999999999 ≤ n ∧ n ≤ 999999999999) : ∃ y, asF wNum (spl (crdF n).1) = y ∧ Lib.atoi y = some n ∧ y.length ≤ 18 ∧ (crdF n).2 = 0 ∧ (crdF n).1.length ≤ 2000 := by
  unfold crdF
  rw [if_pos h]
  simp only
  by_cases h3 : n < 0
  · obtain ⟨m, hm⟩ : ∃ m : Nat, n = -(m : Int) := ⟨n.natAbs, by omega⟩
    have e1 : n.natAbs = m := by omega
    have hm9 : m < 1000000000000 := by omega
    rw [if_pos h3, e1]
    have e2 : negW (cntW m) = [109, 105, 110, 117, 115] :: cntW m := if_neg (cntW_ne m)
    rw [e2, spl_join (by simp) (fun x hx => by
      rcases List.mem_cons.1 hx with h9 | h9
      · rw [h9]; exact nosp_min
      · exact (allW_ok x (cntW_mem hm9 x h9)).2.2.1), wNum_neg (by omega) hm9]
    refine ⟨_, rfl, ?_, ?_, trivial, ?_⟩
    · rw [num_atoi_neg hm9, hm]
    · have := numS_len m
      simp only [List.length_cons]
      omega
    · have h8 := joinW_len (ws := [109, 105, 110, 117, 115] :: cntW m) (m := 20) (fun x hx => by
        rcases List.mem_cons.1 hx with h9 | h9
        · rw [h9]; decide
        · exact cntW_short hm9 x h9)
      have h7 := cnt_few hm9
      rw [List.length_cons] at h8
      omega
  · obtain ⟨m, rfl⟩ : ∃ m : Nat, n = (m : Int) := ⟨n.toNat, by omega⟩
    have hm9 : m < 1000000000000 := by omega
    rw [if_neg h3, Int.toNat_natCast, spl_cnt hm9, wNum_hit hm9]
    refine ⟨_, rfl, num_atoi hm9, ?_, trivial, ?_⟩
    · have := numS_len m
      omega
    · have h8 := joinW_len (ws := cntW m) (m := 20) (cntW_short hm9)
      have h7 := cnt_few hm9
      omega
/-- what is read as a number is its cardinal -/
theorem fore {s y : Str} (h : asF wNum (spl s) = y) (hy : y ≠ []) : ∃ v, Lib.atoi y = some v ∧ y.length ≤ 18 ∧ crdF v = (s, 0) ∧ -999999999999 ≤ v ∧ v ≤ 999999999999 := by
  obtain ⟨m, hm, ⟨e1, e2⟩ | ⟨h0, e1, e2⟩⟩ := wNum_sound h hy
  · refine ⟨m, by rw [e1]; exact num_atoi hm, by rw [e1]; have := numS_len m; omega, ?_, by omega, by omega⟩
    unfold crdF
    rw [if_pos (by omega), if_neg (by omega), Int.toNat_natCast, ← e2, join_spl]
  · refine ⟨-(m : Int), by rw [e1]; exact num_atoi_neg hm, by rw [e1]; have := numS_len m; simp only [List.length_cons]; omega, ?_, by omega, by omega⟩
    unfold crdF
    rw [if_pos (by omega), if_pos (by omega), show (-(m : Int)).natAbs = m by omega, show negW (cntW m) = [109, 105, 110, 117, 115] :: cntW m from if_neg (cntW_ne m), ← e2, join_spl]
/-- the words of an ordinal are no number -/
theorem ord_bad {n : Nat} (hn : n < 1000000000000) : asF wNum (spl (joinW (sordW n))) = [] ∧ (joinW (sordW n)).length ≤ 2000 := by
  have hne : sordW n ≠ [] := by
    intro e
    have h1 := congrArg List.length e
    unfold sordW at h1
    rw [List.length_set, List.length_nil] at h1
    exact cntW_ne n (List.length_eq_zero_iff.1 h1)
  have hx : ∀ x ∈ sordW n, ∃ z, z ∈ allW ∧ (x = z ∨ x = ordW z) := by
    intro x hx
    unfold sordW at hx
    rcases List.mem_or_eq_of_mem_set hx with h9 | h9
    · exact ⟨x, cntW_mem hn x h9, Or.inl rfl⟩
    · refine ⟨_, cntW_mem hn _ ?_, Or.inr h9⟩
      have hl : (cntW n).length - 1 < (cntW n).length := by
        have : (cntW n).length ≠ 0 := fun e => cntW_ne n (List.length_eq_zero_iff.1 e)
        omega
      rw [List.getD_eq_getElem?_getD, List.getElem?_eq_getElem hl]
      exact List.getElem_mem hl
  have ho : ∀ z ∈ allW, ∀ c ∈ ordW z, c ≠ 32 := by decide +kernel
  constructor
  · rw [spl_join hne (fun x h9 => by
      obtain ⟨z, hz, rfl | rfl⟩ := hx x h9
      · exact (allW_ok _ hz).2.2.1
      · exact ho z hz)]
    exact wNum_ord hn
  · have h8 := joinW_len (ws := sordW n) (m := 30) (fun x h9 => by
      obtain ⟨z, hz, rfl | rfl⟩ := hx x h9
      · have := (allW_ok _ hz).2.1; omega
      · exact (allW_ok z hz).2.2.2.2)
    have h7 := cnt_few hn
    have h6 : (sordW n).length = (cntW n).length := by unfold sordW; rw [List.length_set]
    rw [h6] at h8
    omega
set_option maxHeartbeats 16000000 in
theorem counts_law (n : Int) (s : Str) (w : World) (h1 : -9223372036854775808 ≤ n ∧ n ≤ 9223372036854775807) (hT : WT w) (hE : ErS w) :
    Calls Tryz.prog 8 #[.int .i64 n, .string ⟨s.toArray⟩] w fun e w' => e = .returned (.bool true) ∧ Below w.heap.size w w' := by
  have hkn := Lib.hid (fun (w9 : World) (h9 : WT w9) => known_any w9 h9)
  by_cases hs : 400 < s.length
  · have s1 : (400 : Int) < (s.length : Int) := by omega
    have s1d : decide ((400 : Int) < (s.length : Int)) = true := decide_eq_true s1
    go_enter Tryz.func8, Tryz.ntmps8
    go_wp2_with fail
    refine (hkn.out w hT).mono ?_
    rintro e w' ⟨rfl, hb⟩
    go_wp2
    go_ret
    exact ⟨rfl, hb⟩
  · have s1 : ¬ (400 : Int) < (s.length : Int) := by omega
    have s1d : decide ((400 : Int) < (s.length : Int)) = false := decide_eq_false s1
    have k1 := Lib.hid (fun (w9 : World) (h9 : WT w9) => Cardinal_any n w9 h9)
    have hS : (∃ c7 : True, Hid (∀ (w9 : World), WT w9 → ErS w9 → Calls Tryz.prog 29 #[.string ⟨s.toArray⟩] w9 fun e w' => e = .returned (.tuple #[.int .i64 0, .int .i64 4]) ∧ Below w9.heap.size w9 w')) ∨ (∃ (v : Int) (c7 : True), Hid (∀ (w9 : World), WT w9 → Calls Tryz.prog 29 #[.string ⟨s.toArray⟩] w9 fun e w' => e = .returned (.tuple #[.int .i64 v, .int .i64 0]) ∧ Below w9.heap.size w9 w') ∧ Hid (∀ (w9 : World), WT w9 → Calls Tryz.prog 25 #[.int .i64 v] w9 fun e w' => e = .returned (.tuple #[.string ⟨s.toArray⟩, .int .i64 0]) ∧ Below w9.heap.size w9 w')) := by
      by_cases hy : asF wNum (spl s) = []
      · exact Or.inl ⟨trivial, Lib.hid (fun w9 h9 h8 => Number_bad s (by omega) w9 h9 h8 hy)⟩
      · obtain ⟨v, e1, e2, e3, _, _⟩ := fore rfl hy
        refine Or.inr ⟨v, trivial, Lib.hid (fun w9 h9 => Number_good s (by omega) w9 h9 rfl e2 e1), Lib.hid (fun w9 h9 => ?_)⟩
        have := Cardinal_any v w9 h9
        rw [e3] at this
        exact this
    by_cases hc : -999999999999 ≤ n ∧ n ≤ 999999999999
    · obtain ⟨y, y1, y2, y3, y4, y5⟩ := back n hc
      have k2 := Lib.hid (fun (w9 : World) (h9 : WT w9) => Number_good (crdF n).1 y5 w9 h9 y1 y3 y2)
      have k3 := Lib.hid (fun (w9 : World) (h9 : WT w9) => Ordinal_any n w9 h9)
      rw [y4] at k1
      clear y1 y2 y3 y4 y5
      by_cases ho : 1 ≤ n
      · obtain ⟨k, hk⟩ : ∃ k : Nat, n = (k : Int) := ⟨n.toNat, by omega⟩
        have c2 : odlF n = (joinW (sordW k), 0) := by
          unfold odlF
          rw [if_pos (by omega), hk, Int.toNat_natCast]
        have c3 := ord_bad (n := k) (by omega)
        rw [c2] at k3
        have k4 := Lib.hid (fun (w9 : World) (h9 : WT w9) (h8 : ErS w9) => Number_bad (joinW (sordW k)) c3.2 w9 h9 h8 c3.1)
        clear c2 c3 hk
        generalize joinW (sordW k) = O at *
        generalize (crdF n).1 = C at *
        go_enter Tryz.func8, Tryz.ntmps8
        go_wp2_with fail
        refine (k1.out w hT).mono ?_
        rintro e x1 ⟨rfl, b1⟩
        go_wp2_with fail
        refine (k2.out x1 (hT.below b1)).mono ?_
        rintro e x2 ⟨rfl, hx2⟩
        have b2 := b1.trans (hx2.mono b1.size)
        go_wp2_with fail
        refine (k3.out x2 (hT.below b2)).mono ?_
        rintro e x3 ⟨rfl, hx3⟩
        have b3 := b2.trans (hx3.mono b2.size)
        go_wp2_with fail
        refine (k4.out x3 (hT.below b3) (hE.below b3)).mono ?_
        rintro e x4 ⟨rfl, hx4⟩
        have b4 := b3.trans (hx4.mono b3.size)
        go_wp2_with fail
        rcases hS with ⟨c7, hS⟩ | ⟨v, c7, hS, hC⟩
        · refine (hS.out x4 (hT.below b4) (hE.below b4)).mono ?_
          rintro e y1 ⟨rfl, hy1⟩
          have d1 := b4.trans (hy1.mono b4.size)
          go_wp2_with fail
          refine (hkn.out y1 (hT.below d1)).mono ?_
          rintro e y2 ⟨rfl, hy2⟩
          go_wp2
          go_ret
          exact ⟨rfl, d1.trans (hy2.mono d1.size)⟩
        · refine (hS.out x4 (hT.below b4)).mono ?_
          rintro e y1 ⟨rfl, hy1⟩
          have d1 := b4.trans (hy1.mono b4.size)
          go_wp2_with fail
          refine (hC.out y1 (hT.below d1)).mono ?_
          rintro e y2 ⟨rfl, hy2⟩
          have d2 := d1.trans (hy2.mono d1.size)
          go_wp2_with fail
          refine (hkn.out y2 (hT.below d2)).mono ?_
          rintro e y3 ⟨rfl, hy3⟩
          go_wp2
          go_ret
          exact ⟨rfl, d2.trans (hy3.mono d2.size)⟩
      · have c2 : odlF n = ([], 2) := if_neg (by omega)
        rw [c2] at k3
        clear c2
        generalize (crdF n).1 = C at *
        go_enter Tryz.func8, Tryz.ntmps8
        go_wp2_with fail
        refine (k1.out w hT).mono ?_
        rintro e x1 ⟨rfl, b1⟩
        go_wp2_with fail
        refine (k2.out x1 (hT.below b1)).mono ?_
        rintro e x2 ⟨rfl, hx2⟩
        have b2 := b1.trans (hx2.mono b1.size)
        go_wp2_with fail
        refine (k3.out x2 (hT.below b2)).mono ?_
        rintro e x3 ⟨rfl, hx3⟩
        have b3 := b2.trans (hx3.mono b2.size)
        go_wp2_with fail
        rcases hS with ⟨c7, hS⟩ | ⟨v, c7, hS, hC⟩
        · refine (hS.out x3 (hT.below b3) (hE.below b3)).mono ?_
          rintro e y1 ⟨rfl, hy1⟩
          have d1 := b3.trans (hy1.mono b3.size)
          go_wp2_with fail
          refine (hkn.out y1 (hT.below d1)).mono ?_
          rintro e y2 ⟨rfl, hy2⟩
          go_wp2
          go_ret
          exact ⟨rfl, d1.trans (hy2.mono d1.size)⟩
        · refine (hS.out x3 (hT.below b3)).mono ?_
          rintro e y1 ⟨rfl, hy1⟩
          have d1 := b3.trans (hy1.mono b3.size)
          go_wp2_with fail
          refine (hC.out y1 (hT.below d1)).mono ?_
          rintro e y2 ⟨rfl, hy2⟩
          have d2 := d1.trans (hy2.mono d1.size)
          go_wp2_with fail
          refine (hkn.out y2 (hT.below d2)).mono ?_
          rintro e y3 ⟨rfl, hy3⟩
          go_wp2
          go_ret
          exact ⟨rfl, d2.trans (hy3.mono d2.size)⟩
    · have c1 : crdF n = ([], 2) := if_neg hc
      rw [c1] at k1
      clear c1
      go_enter Tryz.func8, Tryz.ntmps8
      go_wp2_with fail
      refine (k1.out w hT).mono ?_
      rintro e x1 ⟨rfl, b1⟩
      go_wp2_with fail
      rcases hS with ⟨c7, hS⟩ | ⟨v, c7, hS, hC⟩
      · refine (hS.out x1 (hT.below b1) (hE.below b1)).mono ?_
        rintro e y1 ⟨rfl, hy1⟩
        have d1 := b1.trans (hy1.mono b1.size)
        go_wp2_with fail
        refine (hkn.out y1 (hT.below d1)).mono ?_
        rintro e y2 ⟨rfl, hy2⟩
        go_wp2
        go_ret
        exact ⟨rfl, d1.trans (hy2.mono d1.size)⟩
      · refine (hS.out x1 (hT.below b1)).mono ?_
        rintro e y1 ⟨rfl, hy1⟩
        have d1 := b1.trans (hy1.mono b1.size)
        go_wp2_with fail
        refine (hC.out y1 (hT.below d1)).mono ?_
        rintro e y2 ⟨rfl, hy2⟩
        have d2 := d1.trans (hy2.mono d1.size)
        go_wp2_with fail
        refine (hkn.out y2 (hT.below d2)).mono ?_
        rintro e y3 ⟨rfl, hy3⟩
        go_wp2
        go_ret
        exact ⟨rfl, d2.trans (hy3.mono d2.size)⟩
end Go.Proofs.YtpdfjlbfhnapkaaGreatDoor
