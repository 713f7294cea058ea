/- The words of written ordinals. -/
import Derived.Test.YtpdfjlbfhnapkaaGreatDoorTG
namespace Go.Proofs.YtpdfjlbfhnapkaaGreatDoor
open Go.RowKit
set_option linter.unusedSimpArgs false
set_option linter.unusedVariables false
set_option maxRecDepth 100000

theorem cnt_short_two : ∀ n, n < 100 → ∀ x ∈ twoW n, x.length ≤ 20 := by decide +kernel
theorem cnt_short_small : ∀ n, (smallN n).length ≤ 20 := by
  intro n
  unfold smallN
  rw [List.getD_eq_getElem?_getD]
  cases h : smallL[n]? with
  | none => simp
  | some x => exact (show ∀ x ∈ smallL, x.length ≤ 20 by decide +kernel) x (List.mem_of_getElem? h)
theorem lastW_short {pre : List Str} {n : Nat} (hn : n < 100) (h : ∀ x ∈ pre, x.length ≤ 20) : ∀ x ∈ lastW pre n, x.length ≤ 20 := by
  unfold lastW
  split
  · exact cnt_short_two n hn
  · split
    · exact h
    · intro x hx
      rw [List.mem_append, List.mem_append] at hx
      rcases hx with (hx | hx) | hx
      · exact h x hx
      · rw [List.mem_singleton] at hx; subst hx; decide
      · exact cnt_short_two n hn x hx
theorem tailW_short {pre : List Str} {n : Nat} (hn : n < 1000) (h : ∀ x ∈ pre, x.length ≤ 20) : ∀ x ∈ tailW pre n, x.length ≤ 20 := by
  unfold tailW
  split
  · refine lastW_short (by omega) (fun x hx => ?_)
    rw [List.mem_append] at hx
    rcases hx with hx | hx
    · exact h x hx
    · simp only [List.mem_cons, List.not_mem_nil, or_false] at hx
      rcases hx with rfl | rfl
      · exact cnt_short_small _
      · decide
  · exact lastW_short (by omega) h
theorem loopW_short (cnt : Nat → List Str) (hc : ∀ q, q < 1000 → ∀ x ∈ cnt q, x.length ≤ 20) {n : Nat} (hn : n < 1000000000000) : (∀ x ∈ (loopW cnt powL [] n).1, x.length ≤ 20) ∧ (loopW cnt powL [] n).2 < 1000 := by
  have step : ∀ (p : Nat × Str) (ps : List (Nat × Str)) (pre : List Str) (m : Nat), (∀ x ∈ pre, x.length ≤ 20) → m / p.1 < 1000 → p.2.length ≤ 20 → ∃ pre' m', loopW cnt (p :: ps) pre m = loopW cnt ps pre' m' ∧ (∀ x ∈ pre', x.length ≤ 20) ∧ (m' = m % p.1 ∨ (m' = m ∧ m < p.1)) := by
    intro p ps pre m h1 h2 h3
    by_cases h : p.1 ≤ m
    · refine ⟨pre ++ cnt (m / p.1) ++ [p.2], m % p.1, ?_, ?_, Or.inl rfl⟩
      · conv => lhs; unfold loopW
        rw [if_pos h]
      · intro x hx
        rw [List.mem_append, List.mem_append] at hx
        rcases hx with (hx | hx) | hx
        · exact h1 x hx
        · exact hc _ h2 x hx
        · rw [List.mem_singleton] at hx; subst hx; exact h3
    · refine ⟨pre, m, ?_, h1, Or.inr ⟨rfl, by omega⟩⟩
      conv => lhs; unfold loopW
      rw [if_neg h]
  obtain ⟨p1, m1, e1, a1, b1⟩ := step (1000000000, [98, 105, 108, 108, 105, 111, 110]) [(1000000, [109, 105, 108, 108, 105, 111, 110]), (1000, [116, 104, 111, 117, 115, 97, 110, 100])] [] n (by simp) (by simp only; omega) (by decide)
  have c1 : m1 < 1000000000 := by simp only at b1; omega
  obtain ⟨p2, m2, e2, a2, b2⟩ := step (1000000, [109, 105, 108, 108, 105, 111, 110]) [(1000, [116, 104, 111, 117, 115, 97, 110, 100])] p1 m1 a1 (by simp only; omega) (by decide)
  have c2 : m2 < 1000000 := by simp only at b2; omega
  obtain ⟨p3, m3, e3, a3, b3⟩ := step (1000, [116, 104, 111, 117, 115, 97, 110, 100]) [] p2 m2 a2 (by simp only; omega) (by decide)
  have c3 : m3 < 1000 := by simp only at b3; omega
  have e : loopW cnt powL [] n = (p3, m3) := (e1.trans e2).trans e3
  rw [e]
  exact ⟨a3, c3⟩
theorem cnt3_short {q : Nat} (h : q < 1000) : ∀ x ∈ cnt3 q, x.length ≤ 20 := tailW_short h (by simp)
theorem cntW_short {n : Nat} (h : n < 1000000000000) : ∀ x ∈ cntW n, x.length ≤ 20 := by
  obtain ⟨h1, h2⟩ := loopW_short cnt3 (fun q hq => cnt3_short hq) h
  exact tailW_short h2 h1
def ordI (n : Int) (sh : Str) : List Str := if n < 1 then [] else if sh = 48 :: endN n.toNat then sordW n.toNat else []
def kOrd (sh : Str) (ns : List Str) : List Str := if ns.length = 1 then ordI (cardI (ns.headD [])) sh else []
set_option maxHeartbeats 8000000 in
theorem ordinalSay_any (sh : Str) (ns : List Str) (A : Option Addr) (c : Nat) (w : World) (hT : WT w) (hS : Ss w A ns.length c ns) (hQ : PiQ sh ns) :
    Calls Tryz.prog 225 #[.agg #[], .agg #[.string ⟨sh.toArray⟩, .slice A ns.length c]] w (RetW (kOrd sh ns) w) := by
  by_cases h1 : ns.length = 1
  · obtain ⟨x, rfl⟩ := List.length_eq_one_iff.1 h1
    obtain ⟨hD, hne⟩ := hQ.2 x (List.mem_singleton.2 rfl)
    obtain ⟨ad, rfl, hc0, hap⟩ := one_cell hS
    have hF := Lib.hid (fun (w9 : World) => cardinalOf_any x hD hne w9)
    have hkw : kOrd sh [x] = ordI (cardI x) sh := if_pos rfl
    have hlt := cardI_lt hD
    generalize cardI x = d at *
    clear hS hQ hne hD h1
    have hb0 := below_two w (.cells #[] 115) (.cells #[.string ⟨sh.toArray⟩, .slice (some ad) 1 c] 87)
    have k1 : ((w.alloc (.cells #[] 115)).alloc (.cells #[.string ⟨sh.toArray⟩, .slice (some ad) 1 c] 87)).cell? ⟨w.heap.size + 1, 1, none⟩ = some (.slice (some ad) 1 c) := by
      have h9 := (Blk.new (w.alloc (.cells #[] 115)) 87 #[.string ⟨sh.toArray⟩, .slice (some ad) 1 c]).cell 1
      rw [World.size_alloc] at h9
      exact h9
    have k0 : ((w.alloc (.cells #[] 115)).alloc (.cells #[.string ⟨sh.toArray⟩, .slice (some ad) 1 c] 87)).cell? ⟨w.heap.size + 1, 0, none⟩ = some (.string ⟨sh.toArray⟩) := by
      have h9 := (Blk.new (w.alloc (.cells #[] 115)) 87 #[.string ⟨sh.toArray⟩, .slice (some ad) 1 c]).cell 0
      rw [World.size_alloc] at h9
      exact h9
    have hzz : w.heap.size + 1 < ((w.alloc (.cells #[] 115)).alloc (.cells #[.string ⟨sh.toArray⟩, .slice (some ad) 1 c] 87)).heap.size := by rw [World.size_alloc, World.size_alloc]; omega
    have hc0' := (hb0.cell hap).trans hc0
    by_cases hd : d < 1
    · have hw := Lib.hid (show kOrd sh [x] = [] from hkw.trans (if_pos hd))
      have hd2 : decide (d < 1) = true := decide_eq_true hd
      clear hkw
      go_enter Tryz.func225, Tryz.ntmps225
      go_wp2_with fail
      generalize (w.alloc (.cells #[] 115)).alloc (.cells #[.string ⟨sh.toArray⟩, .slice (some ad) 1 c] 87) = W1 at *
      obtain ⟨B1, hB1⟩ : ∃ B1, B1 = w.heap.size + 1 := ⟨_, rfl⟩
      rw [← hB1] at k1 k0 hzz ⊢
      clear hB1
      refine (hF.out _).mono ?_
      rintro e x1 ⟨rfl, hx1⟩
      have hb1 := hb0.trans (hx1.mono hb0.size)
      have k0' := (hx1.cell (p := ⟨B1, 0, none⟩) hzz).trans k0
      clear k0 k1 hc0'
      go_wp2_with fail
      have hl1 : B1 < x1.heap.size := by have := hx1.size; omega
      have hH0 : (fun wx : World => wx.cell? ⟨B1, 0, none⟩ = some (.string ⟨sh.toArray⟩)) x1.drew := k0'
      refine wp_region_held_drew (S := (fun wx => wx.cell? ⟨B1, 0, none⟩ = some (.string ⟨sh.toArray⟩))) (by kernel_rfl) hH0 (fun hHeld => ?_)
      have hc0' : Below x1.heap.size x1 (x1.drewN 1) := bel_drewN (Below.refl _ _) 1
      clear hH0
      refine wpAnyH_take (i := 0) (v := .int .i64 d) rfl (by kernel_rfl) (by kernel_rfl) (by kernel_rfl) (fun _ _ _ h => h) (Or.inl ⟨by kernel_rfl, by (intro w hSw; (try dsimp only at hSw); go_simp)⟩) hHeld ?_
      simp only [Act.put, List.getElem_toArray, List.getElem_cons_succ, List.getElem_cons_zero, List.setIfInBounds_toArray, List.set_cons_zero, List.set_cons_succ]
      refine wpAnyH_take (i := 1) (v := .bool true) rfl (by kernel_rfl) (by kernel_rfl) (by kernel_rfl) (fun _ _ _ h => h) (Or.inl ⟨by kernel_rfl, by (intro w hSw; (try dsimp only at hSw); go_simp)⟩) hHeld ?_
      simp only [Act.put, List.getElem_toArray, List.getElem_cons_succ, List.getElem_cons_zero, List.setIfInBounds_toArray, List.set_cons_zero, List.set_cons_succ]
      refine wpAnyH_take (i := 2) (v := .bool true) rfl (by kernel_rfl) (by kernel_rfl) (by kernel_rfl) (fun _ _ _ h => h) (Or.inl ⟨by kernel_rfl, by (intro w hSw; (try dsimp only at hSw); go_simp)⟩) hHeld ?_
      simp only [Act.put, List.getElem_toArray, List.getElem_cons_succ, List.getElem_cons_zero, List.setIfInBounds_toArray, List.set_cons_zero, List.set_cons_succ]
      refine wpAnyH_take (i := 3) (v := undef) rfl (by kernel_rfl) (by kernel_rfl) (by kernel_rfl) (fun _ _ _ h => h) (Or.inr ⟨by kernel_rfl, rfl⟩) hHeld ?_
      simp only [Act.put, List.getElem_toArray, List.getElem_cons_succ, List.getElem_cons_zero, List.setIfInBounds_toArray, List.set_cons_zero, List.set_cons_succ]
      refine wpAnyH_take (i := 4) (v := undef) rfl (by kernel_rfl) (by kernel_rfl) (by kernel_rfl) (fun _ _ _ h => h) (Or.inr ⟨by kernel_rfl, rfl⟩) hHeld ?_
      simp only [Act.put, List.getElem_toArray, List.getElem_cons_succ, List.getElem_cons_zero, List.setIfInBounds_toArray, List.set_cons_zero, List.set_cons_succ]
      refine wpAnyH_take (i := 5) (v := undef) rfl (by kernel_rfl) (by kernel_rfl) (by kernel_rfl) (fun _ _ _ h => h) (Or.inr ⟨by kernel_rfl, rfl⟩) hHeld ?_
      simp only [Act.put, List.getElem_toArray, List.getElem_cons_succ, List.getElem_cons_zero, List.setIfInBounds_toArray, List.set_cons_zero, List.set_cons_succ]
      refine wpAnyH_take (i := 6) (v := undef) rfl (by kernel_rfl) (by kernel_rfl) (by kernel_rfl) (fun _ _ _ h => h) (Or.inr ⟨by kernel_rfl, rfl⟩) hHeld ?_
      simp only [Act.put, List.getElem_toArray, List.getElem_cons_succ, List.getElem_cons_zero, List.setIfInBounds_toArray, List.set_cons_zero, List.set_cons_succ]
      refine wpAnyH_take (i := 7) (v := undef) rfl (by kernel_rfl) (by kernel_rfl) (by kernel_rfl) (fun _ _ _ h => h) (Or.inr ⟨by kernel_rfl, rfl⟩) hHeld ?_
      simp only [Act.put, List.getElem_toArray, List.getElem_cons_succ, List.getElem_cons_zero, List.setIfInBounds_toArray, List.set_cons_zero, List.set_cons_succ]
      refine wpAnyH_take (i := 8) (v := undef) rfl (by kernel_rfl) (by kernel_rfl) (by kernel_rfl) (fun _ _ _ h => h) (Or.inr ⟨by kernel_rfl, rfl⟩) hHeld ?_
      simp only [Act.put, List.getElem_toArray, List.getElem_cons_succ, List.getElem_cons_zero, List.setIfInBounds_toArray, List.set_cons_zero, List.set_cons_succ]
      refine wpAnyH_take (i := 9) (v := .bool true) rfl (by kernel_rfl) (by kernel_rfl) (by kernel_rfl) (fun _ _ _ h => h) (Or.inl ⟨by kernel_rfl, by (intro w hSw; (try dsimp only at hSw); go_simp)⟩) hHeld ?_
      simp only [Act.put, List.getElem_toArray, List.getElem_cons_succ, List.getElem_cons_zero, List.setIfInBounds_toArray, List.set_cons_zero, List.set_cons_succ]
      refine wpAnyH_done (by kernel_rfl) ?_ _
      clear hHeld
      go_wp2
      go_ret
      rw [hw.out]
      exact ⟨_, rfl, World.ownsRow_nil _ _ _ _, hb1.trans (hc0'.mono hb1.size)⟩
    · have q48 : ∀ E : Str, (({ data := #[48] } : ByteArray) ++ { data := E.toArray }).toList = 48 :: E := fun E => by rw [ByteArray.toList_eq]; simp
      obtain ⟨N, rfl⟩ : ∃ N : Nat, d = (N : Int) := ⟨d.toNat, by omega⟩
      have hN : N < 1000000000000 := by omega
      have hd2 : decide ((N : Int) < 1) = false := decide_eq_false hd
      have hkw2 : kOrd sh [x] = if sh = 48 :: endN N then sordW N else [] := by rw [hkw]; unfold ordI; rw [if_neg hd, Int.toNat_natCast]
      have he := Lib.hid (fun w9 => ending_any N w9)
      have hel := end_len N
      have ho := Lib.hid (fun (w9 : World) (h9 : WT w9) => spokenOrdinal_any N hN (fun x hx => Nat.le_trans (cntW_short hN x hx) (by decide)) w9 h9)
      clear hkw hd
      generalize endN N = E at *
      generalize sordW N = Y at *
      have q9 : 1 + List.length E ≤ 9223372036854775807 := by omega
      have q49 := Lib.hid (q48 E)
      clear q48
      by_cases hE0 : sh = 48 :: E
      · have hw := Lib.hid (show kOrd sh [x] = Y from hkw2.trans (if_pos hE0))
        have hE := Lib.hid (hE0.trans q49.out.symm)
        clear hE0
        clear hkw2
        go_enter Tryz.func225, Tryz.ntmps225
        go_wp2_with fail
        generalize (w.alloc (.cells #[] 115)).alloc (.cells #[.string ⟨sh.toArray⟩, .slice (some ad) 1 c] 87) = W1 at *
        obtain ⟨B1, hB1⟩ : ∃ B1, B1 = w.heap.size + 1 := ⟨_, rfl⟩
        rw [← hB1] at k1 k0 hzz ⊢
        clear hB1
        refine (hF.out _).mono ?_
        rintro e x1 ⟨rfl, hx1⟩
        have hb1 := hb0.trans (hx1.mono hb0.size)
        have k0' := (hx1.cell (p := ⟨B1, 0, none⟩) hzz).trans k0
        clear k0 k1 hc0'
        go_wp2_with fail
        have hl1 : B1 < x1.heap.size := by have := hx1.size; omega
        have hH0 : (fun wx : World => wx.cell? ⟨B1, 0, none⟩ = some (.string ⟨sh.toArray⟩)) x1.drew := k0'
        refine wp_region_held_drew (S := (fun wx => wx.cell? ⟨B1, 0, none⟩ = some (.string ⟨sh.toArray⟩))) (by kernel_rfl) hH0 (fun hHeld => ?_)
        have hc0' : Below x1.heap.size x1 (x1.drewN 1) := bel_drewN (Below.refl _ _) 1
        clear hH0
        refine wpAnyH_take (i := 0) (v := .int .i64 (N : Int)) rfl (by kernel_rfl) (by kernel_rfl) (by kernel_rfl) (fun _ _ _ h => h) (Or.inl ⟨by kernel_rfl, by (intro w hSw; (try dsimp only at hSw); go_simp)⟩) hHeld ?_
        simp only [Act.put, List.getElem_toArray, List.getElem_cons_succ, List.getElem_cons_zero, List.setIfInBounds_toArray, List.set_cons_zero, List.set_cons_succ]
        refine wpAnyH_take (i := 1) (v := .bool false) rfl (by kernel_rfl) (by kernel_rfl) (by kernel_rfl) (fun _ _ _ h => h) (Or.inl ⟨by kernel_rfl, by (intro w hSw; (try dsimp only at hSw); go_simp)⟩) hHeld ?_
        simp only [Act.put, List.getElem_toArray, List.getElem_cons_succ, List.getElem_cons_zero, List.setIfInBounds_toArray, List.set_cons_zero, List.set_cons_succ]
        refine wpAnyH_take (i := 2) (v := .bool false) rfl (by kernel_rfl) (by kernel_rfl) (by kernel_rfl) (fun _ _ _ h => h) (Or.inl ⟨by kernel_rfl, by (intro w hSw; (try dsimp only at hSw); go_simp)⟩) hHeld ?_
        simp only [Act.put, List.getElem_toArray, List.getElem_cons_succ, List.getElem_cons_zero, List.setIfInBounds_toArray, List.set_cons_zero, List.set_cons_succ]
        refine wpAnyH_take (i := 3) (v := .pointer (some ⟨B1, 0, none⟩)) rfl (by kernel_rfl) (by kernel_rfl) (by kernel_rfl) (fun _ _ _ h => h) (Or.inl ⟨by kernel_rfl, by (intro w hSw; (try dsimp only at hSw); go_simp)⟩) hHeld ?_
        simp only [Act.put, List.getElem_toArray, List.getElem_cons_succ, List.getElem_cons_zero, List.setIfInBounds_toArray, List.set_cons_zero, List.set_cons_succ]
        refine wpAnyH_take (i := 4) (v := .string ⟨sh.toArray⟩) rfl (by kernel_rfl) (by kernel_rfl) (by kernel_rfl) (fun _ _ _ h => h) (Or.inl ⟨by kernel_rfl, by (intro w hSw; (try dsimp only at hSw); go_simp)⟩) hHeld ?_
        simp only [Act.put, List.getElem_toArray, List.getElem_cons_succ, List.getElem_cons_zero, List.setIfInBounds_toArray, List.set_cons_zero, List.set_cons_succ]
        refine wpAnyH_take (i := 5) (v := .int .i64 (N : Int)) rfl (by kernel_rfl) (by kernel_rfl) (by kernel_rfl) (fun _ _ _ h => h) (Or.inl ⟨by kernel_rfl, by (intro w hSw; (try dsimp only at hSw); go_simp)⟩) hHeld ?_
        simp only [Act.put, List.getElem_toArray, List.getElem_cons_succ, List.getElem_cons_zero, List.setIfInBounds_toArray, List.set_cons_zero, List.set_cons_succ]
        refine wpAnyH_ready (rs := [6]) (by kernel_rfl) (by simp) ?_
        refine AllReadyH.cons rfl (fun K hK => ?_) AllReadyH.nil
        go_simp
        refine (he.out _).mono ?_
        rintro e w' ⟨rfl, rfl⟩
        go_wp2_with fail
        refine hK.out _ _ k0' (fun hHeld => ?_)
        clear hK K
        try simp only [Act.put, List.getElem_toArray, List.getElem_cons_succ, List.getElem_cons_zero, List.setIfInBounds_toArray, List.set_cons_zero, List.set_cons_succ]
        refine wpAnyH_take (i := 7) (v := .string (⟨#[48]⟩ ++ ⟨E.toArray⟩)) rfl (by kernel_rfl) (by kernel_rfl) (by kernel_rfl) (fun _ _ _ h => h) (Or.inl ⟨by kernel_rfl, by (intro w hSw; (try dsimp only at hSw); go_simp)⟩) hHeld ?_
        simp only [Act.put, List.getElem_toArray, List.getElem_cons_succ, List.getElem_cons_zero, List.setIfInBounds_toArray, List.set_cons_zero, List.set_cons_succ]
        refine wpAnyH_take (i := 8) (v := .bool false) rfl (by kernel_rfl) (by kernel_rfl) (by kernel_rfl) (fun _ _ _ h => h) (Or.inl ⟨by kernel_rfl, by (intro w hSw; (try dsimp only at hSw); go_simp; exact hE.out)⟩) hHeld ?_
        simp only [Act.put, List.getElem_toArray, List.getElem_cons_succ, List.getElem_cons_zero, List.setIfInBounds_toArray, List.set_cons_zero, List.set_cons_succ]
        refine wpAnyH_take (i := 9) (v := .bool false) rfl (by kernel_rfl) (by kernel_rfl) (by kernel_rfl) (fun _ _ _ h => h) (Or.inl ⟨by kernel_rfl, by (intro w hSw; (try dsimp only at hSw); go_simp)⟩) hHeld ?_
        simp only [Act.put, List.getElem_toArray, List.getElem_cons_succ, List.getElem_cons_zero, List.setIfInBounds_toArray, List.set_cons_zero, List.set_cons_succ]
        refine wpAnyH_done (by kernel_rfl) ?_ _
        clear hHeld
        have hb2 := hb1.trans (hc0'.mono hb1.size)
        go_wp2_with fail
        refine (ho.out _ (hT.below hb2)).mono ?_
        rintro e x3 h
        obtain ⟨V, rfl, hO, hb⟩ := RetW.up hb2 h
        go_wp2
        go_ret
        rw [hw.out]
        exact ⟨V, rfl, hO, hb⟩
      · have hw := Lib.hid (show kOrd sh [x] = [] from hkw2.trans (if_neg hE0))
        have hE := Lib.hid (fun e : sh = (({ data := #[48] } : ByteArray) ++ { data := E.toArray }).toList => hE0 (e.trans q49.out))
        clear hE0
        clear hkw2
        go_enter Tryz.func225, Tryz.ntmps225
        go_wp2_with fail
        generalize (w.alloc (.cells #[] 115)).alloc (.cells #[.string ⟨sh.toArray⟩, .slice (some ad) 1 c] 87) = W1 at *
        obtain ⟨B1, hB1⟩ : ∃ B1, B1 = w.heap.size + 1 := ⟨_, rfl⟩
        rw [← hB1] at k1 k0 hzz ⊢
        clear hB1
        refine (hF.out _).mono ?_
        rintro e x1 ⟨rfl, hx1⟩
        have hb1 := hb0.trans (hx1.mono hb0.size)
        have k0' := (hx1.cell (p := ⟨B1, 0, none⟩) hzz).trans k0
        clear k0 k1 hc0'
        go_wp2_with fail
        have hl1 : B1 < x1.heap.size := by have := hx1.size; omega
        have hH0 : (fun wx : World => wx.cell? ⟨B1, 0, none⟩ = some (.string ⟨sh.toArray⟩)) x1.drew := k0'
        refine wp_region_held_drew (S := (fun wx => wx.cell? ⟨B1, 0, none⟩ = some (.string ⟨sh.toArray⟩))) (by kernel_rfl) hH0 (fun hHeld => ?_)
        have hc0' : Below x1.heap.size x1 (x1.drewN 1) := bel_drewN (Below.refl _ _) 1
        clear hH0
        refine wpAnyH_take (i := 0) (v := .int .i64 (N : Int)) rfl (by kernel_rfl) (by kernel_rfl) (by kernel_rfl) (fun _ _ _ h => h) (Or.inl ⟨by kernel_rfl, by (intro w hSw; (try dsimp only at hSw); go_simp)⟩) hHeld ?_
        simp only [Act.put, List.getElem_toArray, List.getElem_cons_succ, List.getElem_cons_zero, List.setIfInBounds_toArray, List.set_cons_zero, List.set_cons_succ]
        refine wpAnyH_take (i := 1) (v := .bool false) rfl (by kernel_rfl) (by kernel_rfl) (by kernel_rfl) (fun _ _ _ h => h) (Or.inl ⟨by kernel_rfl, by (intro w hSw; (try dsimp only at hSw); go_simp)⟩) hHeld ?_
        simp only [Act.put, List.getElem_toArray, List.getElem_cons_succ, List.getElem_cons_zero, List.setIfInBounds_toArray, List.set_cons_zero, List.set_cons_succ]
        refine wpAnyH_take (i := 2) (v := .bool false) rfl (by kernel_rfl) (by kernel_rfl) (by kernel_rfl) (fun _ _ _ h => h) (Or.inl ⟨by kernel_rfl, by (intro w hSw; (try dsimp only at hSw); go_simp)⟩) hHeld ?_
        simp only [Act.put, List.getElem_toArray, List.getElem_cons_succ, List.getElem_cons_zero, List.setIfInBounds_toArray, List.set_cons_zero, List.set_cons_succ]
        refine wpAnyH_take (i := 3) (v := .pointer (some ⟨B1, 0, none⟩)) rfl (by kernel_rfl) (by kernel_rfl) (by kernel_rfl) (fun _ _ _ h => h) (Or.inl ⟨by kernel_rfl, by (intro w hSw; (try dsimp only at hSw); go_simp)⟩) hHeld ?_
        simp only [Act.put, List.getElem_toArray, List.getElem_cons_succ, List.getElem_cons_zero, List.setIfInBounds_toArray, List.set_cons_zero, List.set_cons_succ]
        refine wpAnyH_take (i := 4) (v := .string ⟨sh.toArray⟩) rfl (by kernel_rfl) (by kernel_rfl) (by kernel_rfl) (fun _ _ _ h => h) (Or.inl ⟨by kernel_rfl, by (intro w hSw; (try dsimp only at hSw); go_simp)⟩) hHeld ?_
        simp only [Act.put, List.getElem_toArray, List.getElem_cons_succ, List.getElem_cons_zero, List.setIfInBounds_toArray, List.set_cons_zero, List.set_cons_succ]
        refine wpAnyH_take (i := 5) (v := .int .i64 (N : Int)) rfl (by kernel_rfl) (by kernel_rfl) (by kernel_rfl) (fun _ _ _ h => h) (Or.inl ⟨by kernel_rfl, by (intro w hSw; (try dsimp only at hSw); go_simp)⟩) hHeld ?_
        simp only [Act.put, List.getElem_toArray, List.getElem_cons_succ, List.getElem_cons_zero, List.setIfInBounds_toArray, List.set_cons_zero, List.set_cons_succ]
        refine wpAnyH_ready (rs := [6]) (by kernel_rfl) (by simp) ?_
        refine AllReadyH.cons rfl (fun K hK => ?_) AllReadyH.nil
        go_simp
        refine (he.out _).mono ?_
        rintro e w' ⟨rfl, rfl⟩
        go_wp2_with fail
        refine hK.out _ _ k0' (fun hHeld => ?_)
        clear hK K
        try simp only [Act.put, List.getElem_toArray, List.getElem_cons_succ, List.getElem_cons_zero, List.setIfInBounds_toArray, List.set_cons_zero, List.set_cons_succ]
        refine wpAnyH_take (i := 7) (v := .string (⟨#[48]⟩ ++ ⟨E.toArray⟩)) rfl (by kernel_rfl) (by kernel_rfl) (by kernel_rfl) (fun _ _ _ h => h) (Or.inl ⟨by kernel_rfl, by (intro w hSw; (try dsimp only at hSw); go_simp)⟩) hHeld ?_
        simp only [Act.put, List.getElem_toArray, List.getElem_cons_succ, List.getElem_cons_zero, List.setIfInBounds_toArray, List.set_cons_zero, List.set_cons_succ]
        refine wpAnyH_take (i := 8) (v := .bool true) rfl (by kernel_rfl) (by kernel_rfl) (by kernel_rfl) (fun _ _ _ h => h) (Or.inl ⟨by kernel_rfl, by (intro w hSw; (try dsimp only at hSw); go_simp; exact hE.out)⟩) hHeld ?_
        simp only [Act.put, List.getElem_toArray, List.getElem_cons_succ, List.getElem_cons_zero, List.setIfInBounds_toArray, List.set_cons_zero, List.set_cons_succ]
        refine wpAnyH_take (i := 9) (v := .bool true) rfl (by kernel_rfl) (by kernel_rfl) (by kernel_rfl) (fun _ _ _ h => h) (Or.inl ⟨by kernel_rfl, by (intro w hSw; (try dsimp only at hSw); go_simp)⟩) hHeld ?_
        simp only [Act.put, List.getElem_toArray, List.getElem_cons_succ, List.getElem_cons_zero, List.setIfInBounds_toArray, List.set_cons_zero, List.set_cons_succ]
        refine wpAnyH_done (by kernel_rfl) ?_ _
        clear hHeld
        go_wp2
        go_ret
        rw [hw.out]
        exact ⟨_, rfl, World.ownsRow_nil _ _ _ _, hb1.trans (hc0'.mono hb1.size)⟩
  · have hw := Lib.hid (show kOrd sh ns = [] from if_neg h1)
    obtain ⟨n, hn⟩ : ∃ n, ns.length = n := ⟨_, rfl⟩
    rw [hn] at h1 ⊢
    have e0 : ((n : Int) == 1) = false := by rw [beq_eq_false_iff_ne]; omega
    clear hS hQ hn
    go_enter Tryz.func225, Tryz.ntmps225
    go_wp2
    go_ret
    rw [hw.out]
    exact ⟨_, rfl, World.ownsRow_nil _ _ _ _, below_two _ _ _⟩
end Go.Proofs.YtpdfjlbfhnapkaaGreatDoor

/- The words of written fractions. -/
namespace Go.Proofs.YtpdfjlbfhnapkaaGreatDoor
open Go.RowKit
set_option linter.unusedSimpArgs false
set_option linter.unusedVariables false
set_option maxRecDepth 100000

def decI (sh : Str) (Y : List Str) (y : Str) : List Str := if Y = [] ∨ placesB y = false then [] else if sh = [45, 48, 46, 48] then negW (Y ++ [[112, 111, 105, 110, 116]] ++ digW y) else Y ++ [[112, 111, 105, 110, 116]] ++ digW y
def kDec (sh : Str) (ns : List Str) : List Str := if sh = [48, 46, 48] ∨ sh = [45, 48, 46, 48] then decI sh (sayN (ns.getD 0 [])) (ns.getD 1 []) else []
set_option maxHeartbeats 8000000 in
theorem decimalSay_any (sh : Str) (ns : List Str) (A : Option Addr) (c : Nat) (w : World) (hT : WT w) (hS : Ss w A ns.length c ns) (hQ : PiQ sh ns) :
    Calls Tryz.prog 238 #[.agg #[], .agg #[.string ⟨sh.toArray⟩, .slice A ns.length c]] w (RetW (kDec sh ns) w) := by
  obtain ⟨i0, hi, hz0, hz1, hz2⟩ := info_parts info_str
  by_cases h1 : sh = [48, 46, 48]
  · subst h1
    obtain ⟨x, y, rfl, ⟨hD, hne⟩, hD2, hne2⟩ := ns_two hQ rfl rfl
    obtain ⟨ad, rfl, hc0, hc1, hap, hadd⟩ := two_cell hS
    rw [hadd] at hc1
    have hF := Lib.hid (fun (w9 : World) (h9 : WT w9) => spokenCount_any x hD hne w9 h9)
    have hP := Lib.hid (fun (w9 : World) => arePlaces_any y w9)
    have hdg := Lib.hid (fun (hl9 : y.length ≤ 2000) (w9 : World) (h9 : WT w9) => digitByDigit_any y hD2 hl9 w9 h9)
    have hkw : kDec [48, 46, 48] [x, y] = decI [48, 46, 48] (sayN x) y := if_pos (Or.inl rfl)
    have hYl := sayN_len x
    have hpl : placesB y = true → y.length ≤ 12 := fun h => by unfold placesB wiB at h; rw [Bool.and_eq_true, decide_eq_true_eq, decide_eq_true_eq] at h; exact h.2
    have hdl := digW_len y
    generalize sayN x = Y at *
    clear hS hQ hne hD hne2 hD2 hadd
    have hb0 := below_two w (.cells #[] 117) (.cells #[.string ⟨#[48, 46, 48]⟩, .slice (some ad) 2 c] 87)
    have hBk := Blk.new (w.alloc (.cells #[] 117)) 87 #[.string ⟨#[48, 46, 48]⟩, .slice (some ad) 2 c]
    rw [World.size_alloc] at hBk
    have k1 : ((w.alloc (.cells #[] 117)).alloc (.cells #[.string ⟨#[48, 46, 48]⟩, .slice (some ad) 2 c] 87)).cell? ⟨w.heap.size + 1, 1, none⟩ = some (.slice (some ad) 2 c) := hBk.cell 1
    have k0 : ((w.alloc (.cells #[] 117)).alloc (.cells #[.string ⟨#[48, 46, 48]⟩, .slice (some ad) 2 c] 87)).cell? ⟨w.heap.size + 1, 0, none⟩ = some (.string ⟨#[48, 46, 48]⟩) := hBk.cell 0
    have hzz : w.heap.size + 1 < ((w.alloc (.cells #[] 117)).alloc (.cells #[.string ⟨#[48, 46, 48]⟩, .slice (some ad) 2 c] 87)).heap.size := by rw [World.size_alloc, World.size_alloc]; omega
    have k2 := (hb0.cell hap).trans hc0
    have k3 := (hb0.cell (p := ⟨ad.block, ad.off + 1, none⟩) hap).trans hc1
    have hT0 := hT.below hb0
    go_enter Tryz.func238, Tryz.ntmps238
    go_wp2_with fail
    generalize ((w.alloc (.cells #[] 117)).alloc (.cells #[.string ⟨#[48, 46, 48]⟩, .slice (some ad) 2 c] 87)) = W1 at *
    obtain ⟨B1, hB1⟩ : ∃ B1, B1 = w.heap.size + 1 := ⟨_, rfl⟩
    have hB1w : w.heap.size ≤ B1 := by omega
    rw [← hB1] at k1 k0 hzz hBk ⊢
    have K3 := hc1
    clear hB1 hc0 hc1
    refine (hF.out _ hT0).mono ?_
    rintro e x1 h
    obtain ⟨V, rfl, hO, hb1⟩ := RetW.up hb0 h
    have hx1 : Below W1.heap.size W1 x1 := by obtain ⟨_, _, _, h9⟩ := h; exact h9
    clear h
    have hl2 : ad.block < W1.heap.size := by have := hb0.size; omega
    have k0' := (hx1.cell (p := ⟨B1, 0, none⟩) hzz).trans k0
    have k1' := (hx1.cell (p := ⟨B1, 1, none⟩) hzz).trans k1
    have k3' := (hx1.cell (p := ⟨ad.block, ad.off + 1, none⟩) hl2).trans k3
    have hBk' := hBk.below hx1
    have hl1 : B1 < x1.heap.size := by have := hx1.size; omega
    have hl3 : ad.block < x1.heap.size := by have := hx1.size; omega
    obtain ⟨A9, c9, rfl, hS9⟩ := Src.of_own hO (oneCell_svs Y)
    clear k0 k1 k2 k3 hBk hT0 hx1 hzz hl2
    by_cases hY : Y = []
    · subst hY
      have hw := Lib.hid (show kDec [48, 46, 48] [x, y] = [] from hkw.trans (if_pos (Or.inl rfl)))
      clear hkw
      go_wp2
      go_ret
      rw [hw.out]
      exact ⟨_, rfl, World.ownsRow_nil _ _ _ _, hb1⟩
    · obtain ⟨n, hn⟩ : ∃ n, Y.length = n := ⟨_, rfl⟩
      have hn0 : n ≠ 0 := by rw [← hn]; cases Y with | nil => exact absurd rfl hY | cons a b => simp
      have e0 : ((n : Int) == 0) = false := by rw [beq_eq_false_iff_ne]; omega
      have hlN := Lib.hid hn
      rw [hn] at hO hS9 hYl
      rw [hn]
      clear hn
      cases hq : placesB y with
      | false =>
        have hw := Lib.hid (show kDec [48, 46, 48] [x, y] = [] from hkw.trans (if_pos (Or.inr hq)))
        rw [hq] at hP
        clear hkw hpl
        go_wp2_with fail
        refine (hP.out _).mono ?_
        rintro e w' ⟨rfl, rfl⟩
        go_wp2
        go_ret
        rw [hw.out]
        exact ⟨_, rfl, World.ownsRow_nil _ _ _ _, hb1⟩
      | true =>
        have hw0 : kDec [48, 46, 48] [x, y] = (Y ++ [[112, 111, 105, 110, 116]] ++ digW y) := hkw.trans ((if_neg (fun h => h.elim hY (fun h => absurd (hq.symm.trans h) (by decide)))).trans (if_neg (by decide)))
        have hw := Lib.hid hw0
        rw [hq] at hP
        have hdy := Lib.hid (hdg.out (by have := hpl hq; omega))
        have hdl2 : (digW y).length ≤ 12 := by rw [hdl]; exact hpl hq
        clear hkw hpl hw0 hdl hdg hY
        generalize digW y = Z at *
        go_wp2_with fail
        refine (hP.out _).mono ?_
        rintro e w' ⟨rfl, rfl⟩
        go_wp2_with fail
        have hH0 : (fun wx : World => wx.cell? ⟨B1, 1, none⟩ = some (.slice (some ad) 2 c) ∧ wx.cell? ⟨ad.block, ad.off + 1, none⟩ = some (.string ⟨y.toArray⟩)) x1.drew := ⟨k1', k3'⟩
        refine wp_region_held_drew (S := (fun wx => wx.cell? ⟨B1, 1, none⟩ = some (.slice (some ad) 2 c) ∧ wx.cell? ⟨ad.block, ad.off + 1, none⟩ = some (.string ⟨y.toArray⟩))) (by kernel_rfl) hH0 (fun hHeld => ?_)
        have hc0' : Below x1.heap.size x1 (x1.drewN 1) := bel_drewN (Below.refl _ _) 1
        clear hH0
        have hb2 := hb1.trans (hc0'.mono hb1.size)
        have hO2 := own_below hO hc0'
        have hB2 := hBk'.below hc0'
        clear hO hS9
        refine wpAnyH_take (i := 0) (v := .slice A9 n c9) rfl (by kernel_rfl) (by kernel_rfl) (by kernel_rfl) (fun _ _ _ h => h) (Or.inl ⟨by kernel_rfl, by (intro w hSw; (try dsimp only at hSw); go_simp)⟩) hHeld ?_
        simp only [Act.put, List.getElem_toArray, List.getElem_cons_succ, List.getElem_cons_zero, List.setIfInBounds_toArray, List.set_cons_zero, List.set_cons_succ]
        refine wpAnyH_take (i := 3) (v := .pointer (some ⟨B1, 1, none⟩)) rfl (by kernel_rfl) (by kernel_rfl) (by kernel_rfl) (fun _ _ _ h => h) (Or.inl ⟨by kernel_rfl, by (intro w hSw; (try dsimp only at hSw); go_simp)⟩) hHeld ?_
        simp only [Act.put, List.getElem_toArray, List.getElem_cons_succ, List.getElem_cons_zero, List.setIfInBounds_toArray, List.set_cons_zero, List.set_cons_succ]
        refine wpAnyH_take (i := 4) (v := .slice (some ad) 2 c) rfl (by kernel_rfl) (by kernel_rfl) (by kernel_rfl) (fun _ _ _ h => h) (Or.inl ⟨by kernel_rfl, by (intro w hSw; (try dsimp only at hSw); go_simp)⟩) hHeld ?_
        simp only [Act.put, List.getElem_toArray, List.getElem_cons_succ, List.getElem_cons_zero, List.setIfInBounds_toArray, List.set_cons_zero, List.set_cons_succ]
        refine wpAnyH_take (i := 5) (v := .pointer (some ⟨ad.block, ad.off + 1, none⟩)) rfl (by kernel_rfl) (by kernel_rfl) (by kernel_rfl) (fun _ _ _ h => h) (Or.inl ⟨by kernel_rfl, by (intro w hSw; (try dsimp only at hSw); go_simp)⟩) hHeld ?_
        simp only [Act.put, List.getElem_toArray, List.getElem_cons_succ, List.getElem_cons_zero, List.setIfInBounds_toArray, List.set_cons_zero, List.set_cons_succ]
        refine wpAnyH_take (i := 6) (v := .string ⟨y.toArray⟩) rfl (by kernel_rfl) (by kernel_rfl) (by kernel_rfl) (fun _ _ _ h => h) (Or.inl ⟨by kernel_rfl, by (intro w hSw; (try dsimp only at hSw); go_simp)⟩) hHeld ?_
        simp only [Act.put, List.getElem_toArray, List.getElem_cons_succ, List.getElem_cons_zero, List.setIfInBounds_toArray, List.set_cons_zero, List.set_cons_succ]
        refine wpAnyH_ready (rs := [1]) (by kernel_rfl) (by simp) ?_
        refine AllReadyH.cons rfl (fun K hK => ?_) AllReadyH.nil
        have hL3 := Blk.new (x1.drewN 1) 9 #[.string ⟨#[112, 111, 105, 110, 116]⟩]
        have hAl := (Below.refl (x1.drewN 1).heap.size (x1.drewN 1)).alloc (Nat.le_refl _) (.cells #[.string ⟨#[112, 111, 105, 110, 116]⟩] 9)
        have hB3 := hB2.below hAl
        have hO3 := own_below hO2 hAl
        have hb3 := hb2.trans (hAl.mono hb2.size)
        have hc3 := hc0'.trans (hAl.mono hc0'.size)
        clear hAl
        go_simp
        refine hK.out _ _ ⟨(hc3.cell (p := ⟨B1, 1, none⟩) hl1).trans k1', (hc3.cell (p := ⟨ad.block, ad.off + 1, none⟩) hl3).trans k3'⟩ (fun hHeld => ?_)
        clear hK K
        try simp only [Act.put, List.getElem_toArray, List.getElem_cons_succ, List.getElem_cons_zero, List.setIfInBounds_toArray, List.set_cons_zero, List.set_cons_succ]
        have hSL := src_lit (x := [112, 111, 105, 110, 116]) hL3
        refine wpAnyH_ready (rs := [2]) (by kernel_rfl) (by simp) ?_
        refine AllReadyH.cons rfl (fun K hK => ?_) AllReadyH.nil
        refine step_append_any (by rfl) _ _ _ (by rfl) w.heap.size 9 i0 (.string ⟨#[]⟩) 1 16 Tryz.underlying32 hi hz0 hz1 hz2 (by rfl) (by decide) _ n (svs Y) (by rfl) hO3 _ 1 1 (svs [[112, 111, 105, 110, 116]]) (by rfl) hSL (by unfold maxLen; omega) (by omega) hb3.size ?_
        intro V4 x4 hO hG _
        have hB4 := hB3.grown hG (blk_row hB3 hO3 (by decide))
        have hb4 : Below w.heap.size w x4 := bel_grown2 hb3 hG (fun k9 e => (hO3.lt k9 e).1)
        have hO4 := own_app hO hlN.out rfl
        have k34 : x4.cell? ⟨ad.block, ad.off + 1, none⟩ = some (.string ⟨y.toArray⟩) := (hb4.cell (p := ⟨ad.block, ad.off + 1, none⟩) hap).trans K3
        clear hO hG hSL
        refine hK.out _ _ ⟨hB4.cell 1, k34⟩ (fun hHeld => ?_)
        clear hK K
        try simp only [Act.put, List.getElem_toArray, List.getElem_cons_succ, List.getElem_cons_zero, List.setIfInBounds_toArray, List.set_cons_zero, List.set_cons_succ]
        refine wpAnyH_ready (rs := [7]) (by kernel_rfl) (by simp) ?_
        refine AllReadyH.cons rfl (fun K hK => ?_) AllReadyH.nil
        go_simp
        refine (hdy.out _ (hT.below hb4)).mono ?_
        rintro e x5 ⟨V5, rfl, hY5, hx5⟩
        have hB5 := hB4.below hx5
        have hO5 := own_below hO4 hx5
        have hb5 := hb4.trans (hx5.mono hb4.size)
        have k35 : x5.cell? ⟨ad.block, ad.off + 1, none⟩ = some (.string ⟨y.toArray⟩) := (hb5.cell (p := ⟨ad.block, ad.off + 1, none⟩) hap).trans K3
        obtain ⟨A5, c5, rfl, hS5⟩ := Src.of_own hY5 (oneCell_svs Z)
        clear hx5 hY5
        go_wp2_with fail
        refine hK.out _ _ ⟨hB5.cell 1, k35⟩ (fun hHeld => ?_)
        clear hK K
        try simp only [Act.put, List.getElem_toArray, List.getElem_cons_succ, List.getElem_cons_zero, List.setIfInBounds_toArray, List.set_cons_zero, List.set_cons_succ]
        have hlB : (Y ++ [[112, 111, 105, 110, 116]]).length ≤ 401 := by rw [List.length_append, hlN.out]; simp; omega
        generalize Y ++ [[112, 111, 105, 110, 116]] = Q at *
        refine wpAnyH_ready (rs := [8]) (by kernel_rfl) (by simp) ?_
        refine AllReadyH.cons rfl (fun K hK => ?_) AllReadyH.nil
        refine step_append_any (by rfl) _ _ _ (by rfl) w.heap.size 9 i0 (.string ⟨#[]⟩) 1 16 Tryz.underlying32 hi hz0 hz1 hz2 (by rfl) (by decide) V4 Q.length (svs Q) (by rfl) hO5 A5 Z.length c5 (svs Z) (by rfl) hS5 (by unfold maxLen; omega) (by omega) hb5.size ?_
        intro V6 x6 hO hG _
        have hB6 := hB5.grown hG (blk_row hB5 hO5 (by decide))
        have hb6 : Below w.heap.size w x6 := bel_grown2 hb5 hG (fun k9 e => (hO5.lt k9 e).1)
        have hO6 := own_app hO rfl rfl
        have k36 : x6.cell? ⟨ad.block, ad.off + 1, none⟩ = some (.string ⟨y.toArray⟩) := (hb6.cell (p := ⟨ad.block, ad.off + 1, none⟩) hap).trans K3
        clear hO hG
        refine hK.out _ _ ⟨hB6.cell 1, k36⟩ (fun hHeld => ?_)
        clear hK K
        try simp only [Act.put, List.getElem_toArray, List.getElem_cons_succ, List.getElem_cons_zero, List.setIfInBounds_toArray, List.set_cons_zero, List.set_cons_succ]
        have hlC : (Q ++ Z).length ≤ 501 := by rw [List.length_append]; omega
        generalize Q ++ Z = R at *
        refine wpAnyH_take (i := 9) (v := V6) rfl (by kernel_rfl) (by kernel_rfl) (by kernel_rfl) (fun _ _ _ h => h) (Or.inl ⟨by kernel_rfl, by (intro w hSw; (try dsimp only at hSw); go_simp)⟩) hHeld ?_
        simp only [Act.put, List.getElem_toArray, List.getElem_cons_succ, List.getElem_cons_zero, List.setIfInBounds_toArray, List.set_cons_zero, List.set_cons_succ]
        refine wpAnyH_done (by kernel_rfl) ?_ _
        have k06 : x6.cell? ⟨B1, 0, none⟩ = some (.string ⟨#[48, 46, 48]⟩) := hB6.cell 0
        clear hHeld
        go_wp2
        go_ret
        rw [hw.out]
        exact ⟨V6, rfl, hO6, hb6⟩
  · by_cases h2 : sh = [45, 48, 46, 48]
    · subst h2
      clear h1
      obtain ⟨x, y, rfl, ⟨hD, hne⟩, hD2, hne2⟩ := ns_two hQ rfl rfl
      obtain ⟨ad, rfl, hc0, hc1, hap, hadd⟩ := two_cell hS
      rw [hadd] at hc1
      have hF := Lib.hid (fun (w9 : World) (h9 : WT w9) => spokenCount_any x hD hne w9 h9)
      have hP := Lib.hid (fun (w9 : World) => arePlaces_any y w9)
      have hdg := Lib.hid (fun (hl9 : y.length ≤ 2000) (w9 : World) (h9 : WT w9) => digitByDigit_any y hD2 hl9 w9 h9)
      have hkw : kDec [45, 48, 46, 48] [x, y] = decI [45, 48, 46, 48] (sayN x) y := if_pos (Or.inr rfl)
      have hYl := sayN_len x
      have hpl : placesB y = true → y.length ≤ 12 := fun h => by unfold placesB wiB at h; rw [Bool.and_eq_true, decide_eq_true_eq, decide_eq_true_eq] at h; exact h.2
      have hdl := digW_len y
      generalize sayN x = Y at *
      clear hS hQ hne hD hne2 hD2 hadd
      have hb0 := below_two w (.cells #[] 117) (.cells #[.string ⟨#[45, 48, 46, 48]⟩, .slice (some ad) 2 c] 87)
      have hBk := Blk.new (w.alloc (.cells #[] 117)) 87 #[.string ⟨#[45, 48, 46, 48]⟩, .slice (some ad) 2 c]
      rw [World.size_alloc] at hBk
      have k1 : ((w.alloc (.cells #[] 117)).alloc (.cells #[.string ⟨#[45, 48, 46, 48]⟩, .slice (some ad) 2 c] 87)).cell? ⟨w.heap.size + 1, 1, none⟩ = some (.slice (some ad) 2 c) := hBk.cell 1
      have k0 : ((w.alloc (.cells #[] 117)).alloc (.cells #[.string ⟨#[45, 48, 46, 48]⟩, .slice (some ad) 2 c] 87)).cell? ⟨w.heap.size + 1, 0, none⟩ = some (.string ⟨#[45, 48, 46, 48]⟩) := hBk.cell 0
      have hzz : w.heap.size + 1 < ((w.alloc (.cells #[] 117)).alloc (.cells #[.string ⟨#[45, 48, 46, 48]⟩, .slice (some ad) 2 c] 87)).heap.size := by rw [World.size_alloc, World.size_alloc]; omega
      have k2 := (hb0.cell hap).trans hc0
      have k3 := (hb0.cell (p := ⟨ad.block, ad.off + 1, none⟩) hap).trans hc1
      have hT0 := hT.below hb0
      go_enter Tryz.func238, Tryz.ntmps238
      go_wp2_with fail
      generalize ((w.alloc (.cells #[] 117)).alloc (.cells #[.string ⟨#[45, 48, 46, 48]⟩, .slice (some ad) 2 c] 87)) = W1 at *
      obtain ⟨B1, hB1⟩ : ∃ B1, B1 = w.heap.size + 1 := ⟨_, rfl⟩
      have hB1w : w.heap.size ≤ B1 := by omega
      rw [← hB1] at k1 k0 hzz hBk ⊢
      have K3 := hc1
      clear hB1 hc0 hc1
      refine (hF.out _ hT0).mono ?_
      rintro e x1 h
      obtain ⟨V, rfl, hO, hb1⟩ := RetW.up hb0 h
      have hx1 : Below W1.heap.size W1 x1 := by obtain ⟨_, _, _, h9⟩ := h; exact h9
      clear h
      have hl2 : ad.block < W1.heap.size := by have := hb0.size; omega
      have k0' := (hx1.cell (p := ⟨B1, 0, none⟩) hzz).trans k0
      have k1' := (hx1.cell (p := ⟨B1, 1, none⟩) hzz).trans k1
      have k3' := (hx1.cell (p := ⟨ad.block, ad.off + 1, none⟩) hl2).trans k3
      have hBk' := hBk.below hx1
      have hl1 : B1 < x1.heap.size := by have := hx1.size; omega
      have hl3 : ad.block < x1.heap.size := by have := hx1.size; omega
      obtain ⟨A9, c9, rfl, hS9⟩ := Src.of_own hO (oneCell_svs Y)
      clear k0 k1 k2 k3 hBk hT0 hx1 hzz hl2
      by_cases hY : Y = []
      · subst hY
        have hw := Lib.hid (show kDec [45, 48, 46, 48] [x, y] = [] from hkw.trans (if_pos (Or.inl rfl)))
        clear hkw
        go_wp2
        go_ret
        rw [hw.out]
        exact ⟨_, rfl, World.ownsRow_nil _ _ _ _, hb1⟩
      · obtain ⟨n, hn⟩ : ∃ n, Y.length = n := ⟨_, rfl⟩
        have hn0 : n ≠ 0 := by rw [← hn]; cases Y with | nil => exact absurd rfl hY | cons a b => simp
        have e0 : ((n : Int) == 0) = false := by rw [beq_eq_false_iff_ne]; omega
        have hlN := Lib.hid hn
        rw [hn] at hO hS9 hYl
        rw [hn]
        clear hn
        cases hq : placesB y with
        | false =>
          have hw := Lib.hid (show kDec [45, 48, 46, 48] [x, y] = [] from hkw.trans (if_pos (Or.inr hq)))
          rw [hq] at hP
          clear hkw hpl
          go_wp2_with fail
          refine (hP.out _).mono ?_
          rintro e w' ⟨rfl, rfl⟩
          go_wp2
          go_ret
          rw [hw.out]
          exact ⟨_, rfl, World.ownsRow_nil _ _ _ _, hb1⟩
        | true =>
          have hw0 : kDec [45, 48, 46, 48] [x, y] = negW (Y ++ [[112, 111, 105, 110, 116]] ++ digW y) := hkw.trans ((if_neg (fun h => h.elim hY (fun h => absurd (hq.symm.trans h) (by decide)))).trans (if_pos rfl))
          have hw := Lib.hid hw0
          rw [hq] at hP
          have hdy := Lib.hid (hdg.out (by have := hpl hq; omega))
          have hdl2 : (digW y).length ≤ 12 := by rw [hdl]; exact hpl hq
          clear hkw hpl hw0 hdl hdg hY
          generalize digW y = Z at *
          go_wp2_with fail
          refine (hP.out _).mono ?_
          rintro e w' ⟨rfl, rfl⟩
          go_wp2_with fail
          have hH0 : (fun wx : World => wx.cell? ⟨B1, 1, none⟩ = some (.slice (some ad) 2 c) ∧ wx.cell? ⟨ad.block, ad.off + 1, none⟩ = some (.string ⟨y.toArray⟩)) x1.drew := ⟨k1', k3'⟩
          refine wp_region_held_drew (S := (fun wx => wx.cell? ⟨B1, 1, none⟩ = some (.slice (some ad) 2 c) ∧ wx.cell? ⟨ad.block, ad.off + 1, none⟩ = some (.string ⟨y.toArray⟩))) (by kernel_rfl) hH0 (fun hHeld => ?_)
          have hc0' : Below x1.heap.size x1 (x1.drewN 1) := bel_drewN (Below.refl _ _) 1
          clear hH0
          have hb2 := hb1.trans (hc0'.mono hb1.size)
          have hO2 := own_below hO hc0'
          have hB2 := hBk'.below hc0'
          clear hO hS9
          refine wpAnyH_take (i := 0) (v := .slice A9 n c9) rfl (by kernel_rfl) (by kernel_rfl) (by kernel_rfl) (fun _ _ _ h => h) (Or.inl ⟨by kernel_rfl, by (intro w hSw; (try dsimp only at hSw); go_simp)⟩) hHeld ?_
          simp only [Act.put, List.getElem_toArray, List.getElem_cons_succ, List.getElem_cons_zero, List.setIfInBounds_toArray, List.set_cons_zero, List.set_cons_succ]
          refine wpAnyH_take (i := 3) (v := .pointer (some ⟨B1, 1, none⟩)) rfl (by kernel_rfl) (by kernel_rfl) (by kernel_rfl) (fun _ _ _ h => h) (Or.inl ⟨by kernel_rfl, by (intro w hSw; (try dsimp only at hSw); go_simp)⟩) hHeld ?_
          simp only [Act.put, List.getElem_toArray, List.getElem_cons_succ, List.getElem_cons_zero, List.setIfInBounds_toArray, List.set_cons_zero, List.set_cons_succ]
          refine wpAnyH_take (i := 4) (v := .slice (some ad) 2 c) rfl (by kernel_rfl) (by kernel_rfl) (by kernel_rfl) (fun _ _ _ h => h) (Or.inl ⟨by kernel_rfl, by (intro w hSw; (try dsimp only at hSw); go_simp)⟩) hHeld ?_
          simp only [Act.put, List.getElem_toArray, List.getElem_cons_succ, List.getElem_cons_zero, List.setIfInBounds_toArray, List.set_cons_zero, List.set_cons_succ]
          refine wpAnyH_take (i := 5) (v := .pointer (some ⟨ad.block, ad.off + 1, none⟩)) rfl (by kernel_rfl) (by kernel_rfl) (by kernel_rfl) (fun _ _ _ h => h) (Or.inl ⟨by kernel_rfl, by (intro w hSw; (try dsimp only at hSw); go_simp)⟩) hHeld ?_
          simp only [Act.put, List.getElem_toArray, List.getElem_cons_succ, List.getElem_cons_zero, List.setIfInBounds_toArray, List.set_cons_zero, List.set_cons_succ]
          refine wpAnyH_take (i := 6) (v := .string ⟨y.toArray⟩) rfl (by kernel_rfl) (by kernel_rfl) (by kernel_rfl) (fun _ _ _ h => h) (Or.inl ⟨by kernel_rfl, by (intro w hSw; (try dsimp only at hSw); go_simp)⟩) hHeld ?_
          simp only [Act.put, List.getElem_toArray, List.getElem_cons_succ, List.getElem_cons_zero, List.setIfInBounds_toArray, List.set_cons_zero, List.set_cons_succ]
          refine wpAnyH_ready (rs := [1]) (by kernel_rfl) (by simp) ?_
          refine AllReadyH.cons rfl (fun K hK => ?_) AllReadyH.nil
          have hL3 := Blk.new (x1.drewN 1) 9 #[.string ⟨#[112, 111, 105, 110, 116]⟩]
          have hAl := (Below.refl (x1.drewN 1).heap.size (x1.drewN 1)).alloc (Nat.le_refl _) (.cells #[.string ⟨#[112, 111, 105, 110, 116]⟩] 9)
          have hB3 := hB2.below hAl
          have hO3 := own_below hO2 hAl
          have hb3 := hb2.trans (hAl.mono hb2.size)
          have hc3 := hc0'.trans (hAl.mono hc0'.size)
          clear hAl
          go_simp
          refine hK.out _ _ ⟨(hc3.cell (p := ⟨B1, 1, none⟩) hl1).trans k1', (hc3.cell (p := ⟨ad.block, ad.off + 1, none⟩) hl3).trans k3'⟩ (fun hHeld => ?_)
          clear hK K
          try simp only [Act.put, List.getElem_toArray, List.getElem_cons_succ, List.getElem_cons_zero, List.setIfInBounds_toArray, List.set_cons_zero, List.set_cons_succ]
          have hSL := src_lit (x := [112, 111, 105, 110, 116]) hL3
          refine wpAnyH_ready (rs := [2]) (by kernel_rfl) (by simp) ?_
          refine AllReadyH.cons rfl (fun K hK => ?_) AllReadyH.nil
          refine step_append_any (by rfl) _ _ _ (by rfl) w.heap.size 9 i0 (.string ⟨#[]⟩) 1 16 Tryz.underlying32 hi hz0 hz1 hz2 (by rfl) (by decide) _ n (svs Y) (by rfl) hO3 _ 1 1 (svs [[112, 111, 105, 110, 116]]) (by rfl) hSL (by unfold maxLen; omega) (by omega) hb3.size ?_
          intro V4 x4 hO hG _
          have hB4 := hB3.grown hG (blk_row hB3 hO3 (by decide))
          have hb4 : Below w.heap.size w x4 := bel_grown2 hb3 hG (fun k9 e => (hO3.lt k9 e).1)
          have hO4 := own_app hO hlN.out rfl
          have k34 : x4.cell? ⟨ad.block, ad.off + 1, none⟩ = some (.string ⟨y.toArray⟩) := (hb4.cell (p := ⟨ad.block, ad.off + 1, none⟩) hap).trans K3
          clear hO hG hSL
          refine hK.out _ _ ⟨hB4.cell 1, k34⟩ (fun hHeld => ?_)
          clear hK K
          try simp only [Act.put, List.getElem_toArray, List.getElem_cons_succ, List.getElem_cons_zero, List.setIfInBounds_toArray, List.set_cons_zero, List.set_cons_succ]
          refine wpAnyH_ready (rs := [7]) (by kernel_rfl) (by simp) ?_
          refine AllReadyH.cons rfl (fun K hK => ?_) AllReadyH.nil
          go_simp
          refine (hdy.out _ (hT.below hb4)).mono ?_
          rintro e x5 ⟨V5, rfl, hY5, hx5⟩
          have hB5 := hB4.below hx5
          have hO5 := own_below hO4 hx5
          have hb5 := hb4.trans (hx5.mono hb4.size)
          have k35 : x5.cell? ⟨ad.block, ad.off + 1, none⟩ = some (.string ⟨y.toArray⟩) := (hb5.cell (p := ⟨ad.block, ad.off + 1, none⟩) hap).trans K3
          obtain ⟨A5, c5, rfl, hS5⟩ := Src.of_own hY5 (oneCell_svs Z)
          clear hx5 hY5
          go_wp2_with fail
          refine hK.out _ _ ⟨hB5.cell 1, k35⟩ (fun hHeld => ?_)
          clear hK K
          try simp only [Act.put, List.getElem_toArray, List.getElem_cons_succ, List.getElem_cons_zero, List.setIfInBounds_toArray, List.set_cons_zero, List.set_cons_succ]
          have hlB : (Y ++ [[112, 111, 105, 110, 116]]).length ≤ 401 := by rw [List.length_append, hlN.out]; simp; omega
          generalize Y ++ [[112, 111, 105, 110, 116]] = Q at *
          refine wpAnyH_ready (rs := [8]) (by kernel_rfl) (by simp) ?_
          refine AllReadyH.cons rfl (fun K hK => ?_) AllReadyH.nil
          refine step_append_any (by rfl) _ _ _ (by rfl) w.heap.size 9 i0 (.string ⟨#[]⟩) 1 16 Tryz.underlying32 hi hz0 hz1 hz2 (by rfl) (by decide) V4 Q.length (svs Q) (by rfl) hO5 A5 Z.length c5 (svs Z) (by rfl) hS5 (by unfold maxLen; omega) (by omega) hb5.size ?_
          intro V6 x6 hO hG _
          have hB6 := hB5.grown hG (blk_row hB5 hO5 (by decide))
          have hb6 : Below w.heap.size w x6 := bel_grown2 hb5 hG (fun k9 e => (hO5.lt k9 e).1)
          have hO6 := own_app hO rfl rfl
          have k36 : x6.cell? ⟨ad.block, ad.off + 1, none⟩ = some (.string ⟨y.toArray⟩) := (hb6.cell (p := ⟨ad.block, ad.off + 1, none⟩) hap).trans K3
          clear hO hG
          refine hK.out _ _ ⟨hB6.cell 1, k36⟩ (fun hHeld => ?_)
          clear hK K
          try simp only [Act.put, List.getElem_toArray, List.getElem_cons_succ, List.getElem_cons_zero, List.setIfInBounds_toArray, List.set_cons_zero, List.set_cons_succ]
          have hlC : (Q ++ Z).length ≤ 501 := by rw [List.length_append]; omega
          generalize Q ++ Z = R at *
          refine wpAnyH_take (i := 9) (v := V6) rfl (by kernel_rfl) (by kernel_rfl) (by kernel_rfl) (fun _ _ _ h => h) (Or.inl ⟨by kernel_rfl, by (intro w hSw; (try dsimp only at hSw); go_simp)⟩) hHeld ?_
          simp only [Act.put, List.getElem_toArray, List.getElem_cons_succ, List.getElem_cons_zero, List.setIfInBounds_toArray, List.set_cons_zero, List.set_cons_succ]
          refine wpAnyH_done (by kernel_rfl) ?_ _
          have k06 : x6.cell? ⟨B1, 0, none⟩ = some (.string ⟨#[45, 48, 46, 48]⟩) := hB6.cell 0
          clear hHeld
          have hn := Lib.hid (fun (A7 : Option Addr) (c7 : Nat) (w9 : World) (h9 : Src w9 A7 R.length c7 (svs R) 1) => negative_any R (by omega) A7 c7 w9 h9)
          obtain ⟨A7, c7, rfl, hS7⟩ := Src.of_own hO6 (oneCell_svs R)
          go_wp2_with fail
          refine (hn.out _ _ _ hS7).mono ?_
          rintro e x7 h7
          obtain ⟨V7, rfl, hO7, hb7⟩ := RetW.up hb6 h7
          go_wp2
          go_ret
          rw [hw.out]
          exact ⟨V7, rfl, hO7, hb7⟩
    · have g1 : (sh == [48, 46, 48]) = false := by rw [beq_eq_false_iff_ne]; exact h1
      have g2 : (sh == [45, 48, 46, 48]) = false := by rw [beq_eq_false_iff_ne]; exact h2
      have hw := Lib.hid (show kDec sh ns = [] from if_neg (fun h => h.elim h1 h2))
      go_enter Tryz.func238, Tryz.ntmps238
      go_wp2
      go_ret
      rw [hw.out]
      exact ⟨_, rfl, World.ownsRow_nil _ _ _ _, below_two _ _ _⟩
end Go.Proofs.YtpdfjlbfhnapkaaGreatDoor
