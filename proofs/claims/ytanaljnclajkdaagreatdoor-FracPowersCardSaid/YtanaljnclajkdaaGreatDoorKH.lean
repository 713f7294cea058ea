/- FracPowers: powers with the same base multiply by adding exponents. -/
import Derived.Test.YtanaljnclajkdaaGreatDoorJK
import Derived.Test.YtanaljnclajkdaaGreatDoorHN
import Derived.Deep.RegionHeld3
namespace Go.Proofs.YtanaljnclajkdaaGreatDoor.Fr
open Go.RowKit Num

theorem rpow_add (q : Rat) (i j : Nat) : q ^ i * q ^ j = q ^ (i + j) := by
  induction j with
  | zero => rw [Nat.add_zero, Rat.pow_zero, Rat.mul_one]
  | succ j ih => rw [Rat.pow_succ, ← Rat.mul_assoc, ih, ← Nat.add_assoc, Rat.pow_succ]
set_option linter.unusedSimpArgs false in
set_option maxHeartbeats 25600000 in
set_option maxRecDepth 100000 in
theorem powers_law (sa : Bool) (Aa : Option Addr) (na ca : Nat) (Ba : Option Addr) (ma ea : Nat) (xa ya : List Nat) (n : Int) (m : Int) (w : World) (hxa : Dg .u32 w Aa na ca xa) (hya : Dg .u32 w Ba ma ea ya) (_hn : -9223372036854775808 ≤ n ∧ n ≤ 9223372036854775807) (_hm : -9223372036854775808 ≤ m ∧ m ≤ 9223372036854775807) (hG : Gl w) :
    Calls Tryz.prog 10 #[.agg #[.bool sa, .slice Aa na ca, .slice Ba ma ea], .int .i64 n, .int .i64 m] w fun e w' => e = .returned (.bool true) ∧ Below w.heap.size w w' := by
  have hG := Lib.hid hG
  have Xa := Blk.new w 24 #[.bool sa, .slice Aa na ca, .slice Ba ma ea]
  have hw := ((Below.refl w.heap.size w).alloc (Nat.le_refl _) (.cells #[.bool sa, .slice Aa na ca, .slice Ba ma ea] 24))
  have hxa := hxa.below hw
  have hya := hya.below hw
  go_enter Tryz.func10, Tryz.ntmps10
  go_upto_region 1 with fail
  generalize (w.alloc (.cells #[.bool sa, .slice Aa na ca, .slice Ba ma ea] 24)) = w1 at *
  have ka0 : w1.cell? ⟨w.heap.size, 0, none⟩ = some (.bool sa) := Xa.cell 0
  have ka1 : w1.cell? ⟨w.heap.size, 1, none⟩ = some (.slice Aa na ca) := Xa.cell 1
  have ka2 : w1.cell? ⟨w.heap.size, 2, none⟩ = some (.slice Ba ma ea) := Xa.cell 2
  by_cases hl_na : 1 < na
  · have f1 : decide ((1 : Int) < (na : Int)) = true := decide_eq_true (by omega)
    have f2 := decide_eq_true hl_na
    go_wp2_with fail
    refine (known_true _ (hG.out.below hw)).mono ?_
    rintro e v1 ⟨rfl, hc1⟩
    go_wp2
    go_ret
    exact ⟨rfl, hw.trans (hc1.mono hw.size)⟩
  have g1_na : decide ((1 : Int) < (na : Int)) = false := decide_eq_false (by omega)
  have g2_na := decide_eq_false hl_na
  by_cases hl_ma : 1 < ma
  · have f1 : decide ((1 : Int) < (ma : Int)) = true := decide_eq_true (by omega)
    have f2 := decide_eq_true hl_ma
    go_wp2_with fail
    refine (known_true _ (hG.out.below hw)).mono ?_
    rintro e v1 ⟨rfl, hc1⟩
    go_wp2
    go_ret
    exact ⟨rfl, hw.trans (hc1.mono hw.size)⟩
  have g1_ma : decide ((1 : Int) < (ma : Int)) = false := decide_eq_false (by omega)
  have g2_ma := decide_eq_false hl_ma
  obtain ⟨qa, ha⟩ : ∃ q, AF w1 (.agg #[.bool sa, .slice Aa na ca, .slice Ba ma ea]) q 1 := ⟨_, AF.of hxa hya (by omega) (by omega)⟩
  have hB := Below.refl w1.heap.size w1
  clear hxa
  clear hya
  by_cases hr1 : n < 0
  · have f9 : decide (n < 0) = true := decide_eq_true hr1
    clear hr1
    go_wp2_with fail
    refine (known_true _ (hG.out.below hw)).mono ?_
    rintro e v1 ⟨rfl, hc1⟩
    go_wp2
    go_ret
    exact ⟨rfl, hw.trans (hc1.mono hw.size)⟩
  have f1r : decide (n < 0) = false := decide_eq_false hr1
  by_cases hr2 : 100 < n
  · have f9 : decide ((100 : Int) < n) = true := decide_eq_true hr2
    clear hr2
    go_wp2_with fail
    refine (known_true _ (hG.out.below hw)).mono ?_
    rintro e v1 ⟨rfl, hc1⟩
    go_wp2
    go_ret
    exact ⟨rfl, hw.trans (hc1.mono hw.size)⟩
  have f2r : decide ((100 : Int) < n) = false := decide_eq_false hr2
  by_cases hr3 : m < 0
  · have f9 : decide (m < 0) = true := decide_eq_true hr3
    clear hr3
    go_wp2_with fail
    refine (known_true _ (hG.out.below hw)).mono ?_
    rintro e v1 ⟨rfl, hc1⟩
    go_wp2
    go_ret
    exact ⟨rfl, hw.trans (hc1.mono hw.size)⟩
  have f3r : decide (m < 0) = false := decide_eq_false hr3
  by_cases hr4 : 100 < m
  · have f9 : decide ((100 : Int) < m) = true := decide_eq_true hr4
    clear hr4
    go_wp2_with fail
    refine (known_true _ (hG.out.below hw)).mono ?_
    rintro e v1 ⟨rfl, hc1⟩
    go_wp2
    go_ret
    exact ⟨rfl, hw.trans (hc1.mono hw.size)⟩
  have f4r : decide ((100 : Int) < m) = false := decide_eq_false hr4
  obtain ⟨i, rfl⟩ : ∃ i : Nat, n = (i : Int) := ⟨n.toNat, by omega⟩
  obtain ⟨j, rfl⟩ : ∃ j : Nat, m = (j : Int) := ⟨m.toNat, by omega⟩
  have hib := Lib.hid (show i ≤ 100 by omega)
  have hjb := Lib.hid (show j ≤ 100 by omega)
  obtain ⟨t, ht⟩ : ∃ t, i + j = t := ⟨_, rfl⟩
  have hadd : (i : Int) + (j : Int) = (t : Int) := by omega
  have hwt : IntKind.i64.wrap (t : Int) = (t : Int) := IntWalk.i64_in _ (by omega)
  have htb := Lib.hid (show t ≤ 200 by omega)
  have htH := Lib.hid ht.symm
  clear ht hr1 hr2 hr3 hr4
  go_wp2_with fail
  clear ka0 ka1 ka2 hl_na g1_na g2_na hl_ma g1_ma g2_ma f1r f2r f3r f4r
  refine (PowQ _ qa i 1 700 _ ha (by have := hib.out; omega) (by have := hib.out; omega) (by decide) (by decide)).mono ?_
  rintro e v1 ⟨_, rfl, q1, hc1⟩
  have hw := hw.trans (hc1.mono hw.size)
  have hB := Below.refl v1.heap.size v1
  have ha := ha.below hc1
  have Xa := Xa.below hc1
  have q1 := q1.le (show _ ≤ 1400 by decide)
  obtain ⟨s1, A1, m1, c1, B1, n1, d1, rfl⟩ := q1.form
  have hap := (Below.refl v1.heap.size v1).alloc (Nat.le_refl _) (.cells #[.bool s1, .slice A1 m1 c1, .slice B1 n1 d1] 24)
  have Xp := Blk.new v1 24 #[.bool s1, .slice A1 m1 c1, .slice B1 n1 d1]
  have hw := hw.alloc hw.size (.cells #[.bool s1, .slice A1 m1 c1, .slice B1 n1 d1] 24)
  have ha := ha.below hap
  have q1 := q1.below hap
  have Xa := Xa.below hap
  clear hap
  have ka0 : (v1.alloc (.cells #[.bool s1, .slice A1 m1 c1, .slice B1 n1 d1] 24)).cell? ⟨w.heap.size, 0, none⟩ = some (.bool sa) := Xa.cell 0
  have ka1 : (v1.alloc (.cells #[.bool s1, .slice A1 m1 c1, .slice B1 n1 d1] 24)).cell? ⟨w.heap.size, 1, none⟩ = some (.slice Aa na ca) := Xa.cell 1
  have ka2 : (v1.alloc (.cells #[.bool s1, .slice A1 m1 c1, .slice B1 n1 d1] 24)).cell? ⟨w.heap.size, 2, none⟩ = some (.slice Ba ma ea) := Xa.cell 2
  go_wp2_with fail
  generalize v1.heap.size = gp at *
  generalize v1.alloc (.cells #[.bool s1, .slice A1 m1 c1, .slice B1 n1 d1] 24) = up at *
  clear ka0 ka1 ka2
  refine (PowQ _ qa j 1 700 _ ha (by have := hjb.out; omega) (by have := hjb.out; omega) (by decide) (by decide)).mono ?_
  rintro e v2 ⟨_, rfl, q2, hc2⟩
  have hw := hw.trans (hc2.mono hw.size)
  have hB := Below.refl v2.heap.size v2
  have ha := ha.below hc2
  have q1 := q1.below hc2
  have Xa := Xa.below hc2
  have Xp := Xp.below hc2
  have q2 := q2.le (show _ ≤ 1400 by decide)
  obtain ⟨s2, A2, m2, c2, B2, n2, d2, rfl⟩ := q2.form
  have har := (Below.refl v2.heap.size v2).alloc (Nat.le_refl _) (.cells #[.bool s2, .slice A2 m2 c2, .slice B2 n2 d2] 24)
  have Xr := Blk.new v2 24 #[.bool s2, .slice A2 m2 c2, .slice B2 n2 d2]
  have hw := hw.alloc hw.size (.cells #[.bool s2, .slice A2 m2 c2, .slice B2 n2 d2] 24)
  have ha := ha.below har
  have q1 := q1.below har
  have q2 := q2.below har
  have Xa := Xa.below har
  have Xp := Xp.below har
  clear har
  have ka0 : (v2.alloc (.cells #[.bool s2, .slice A2 m2 c2, .slice B2 n2 d2] 24)).cell? ⟨w.heap.size, 0, none⟩ = some (.bool sa) := Xa.cell 0
  have ka1 : (v2.alloc (.cells #[.bool s2, .slice A2 m2 c2, .slice B2 n2 d2] 24)).cell? ⟨w.heap.size, 1, none⟩ = some (.slice Aa na ca) := Xa.cell 1
  have ka2 : (v2.alloc (.cells #[.bool s2, .slice A2 m2 c2, .slice B2 n2 d2] 24)).cell? ⟨w.heap.size, 2, none⟩ = some (.slice Ba ma ea) := Xa.cell 2
  go_wp2_with fail
  generalize v2.heap.size = gr at *
  generalize v2.alloc (.cells #[.bool s2, .slice A2 m2 c2, .slice B2 n2 d2] 24) = ur at *
  clear ka0 ka1 ka2
  refine (PowQ _ qa t 1 700 _ ha (by have := htb.out; omega) (by have := htb.out; omega) (by decide) (by decide)).mono ?_
  rintro e v3 ⟨_, rfl, q3, hc3⟩
  have hw := hw.trans (hc3.mono hw.size)
  have hB := Below.refl v3.heap.size v3
  have ha := ha.below hc3
  have q1 := q1.below hc3
  have q2 := q2.below hc3
  have Xa := Xa.below hc3
  have Xp := Xp.below hc3
  have Xr := Xr.below hc3
  have q3 := q3.le (show _ ≤ 1400 by decide)
  obtain ⟨s3, A3, m3, c3, B3, n3, d3, rfl⟩ := q3.form
  have hau := (Below.refl v3.heap.size v3).alloc (Nat.le_refl _) (.cells #[.bool s3, .slice A3 m3 c3, .slice B3 n3 d3] 24)
  have Xu := Blk.new v3 24 #[.bool s3, .slice A3 m3 c3, .slice B3 n3 d3]
  have hw := hw.alloc hw.size (.cells #[.bool s3, .slice A3 m3 c3, .slice B3 n3 d3] 24)
  have ha := ha.below hau
  have q1 := q1.below hau
  have q2 := q2.below hau
  have q3 := q3.below hau
  have Xa := Xa.below hau
  have Xp := Xp.below hau
  have Xr := Xr.below hau
  clear hau
  clear hadd hwt
  go_upto_region 6 with fail
  generalize v3.heap.size = gu at *
  generalize v3.alloc (.cells #[.bool s3, .slice A3 m3 c3, .slice B3 n3 d3] 24) = uu at *
  have kp_0 : uu.cell? ⟨gp, 0, none⟩ = some (.bool s1) := Xp.cell 0
  have kp_1 : uu.cell? ⟨gp, 1, none⟩ = some (.slice A1 m1 c1) := Xp.cell 1
  have kp_2 : uu.cell? ⟨gp, 2, none⟩ = some (.slice B1 n1 d1) := Xp.cell 2
  have kr_0 : uu.cell? ⟨gr, 0, none⟩ = some (.bool s2) := Xr.cell 0
  have kr_1 : uu.cell? ⟨gr, 1, none⟩ = some (.slice A2 m2 c2) := Xr.cell 1
  have kr_2 : uu.cell? ⟨gr, 2, none⟩ = some (.slice B2 n2 d2) := Xr.cell 2
  have ku_0 : uu.cell? ⟨gu, 0, none⟩ = some (.bool s3) := Xu.cell 0
  have ku_1 : uu.cell? ⟨gu, 1, none⟩ = some (.slice A3 m3 c3) := Xu.cell 1
  have ku_2 : uu.cell? ⟨gu, 2, none⟩ = some (.slice B3 n3 d3) := Xu.cell 2
  have hKeep := Lib.hid (fun (wx : World) (hb : Below uu.heap.size uu wx) => (⟨(hb.cell (World.block_lt_of_cell? _ _ kp_0)).trans kp_0, (hb.cell (World.block_lt_of_cell? _ _ kp_1)).trans kp_1, (hb.cell (World.block_lt_of_cell? _ _ kp_2)).trans kp_2, (hb.cell (World.block_lt_of_cell? _ _ kr_0)).trans kr_0, (hb.cell (World.block_lt_of_cell? _ _ kr_1)).trans kr_1, (hb.cell (World.block_lt_of_cell? _ _ kr_2)).trans kr_2, (hb.cell (World.block_lt_of_cell? _ _ ku_0)).trans ku_0, (hb.cell (World.block_lt_of_cell? _ _ ku_1)).trans ku_1, (hb.cell (World.block_lt_of_cell? _ _ ku_2)).trans ku_2⟩ : wx.cell? ⟨gp, 0, none⟩ = some (.bool s1) ∧ wx.cell? ⟨gp, 1, none⟩ = some (.slice A1 m1 c1) ∧ wx.cell? ⟨gp, 2, none⟩ = some (.slice B1 n1 d1) ∧ wx.cell? ⟨gr, 0, none⟩ = some (.bool s2) ∧ wx.cell? ⟨gr, 1, none⟩ = some (.slice A2 m2 c2) ∧ wx.cell? ⟨gr, 2, none⟩ = some (.slice B2 n2 d2) ∧ wx.cell? ⟨gu, 0, none⟩ = some (.bool s3) ∧ wx.cell? ⟨gu, 1, none⟩ = some (.slice A3 m3 c3) ∧ wx.cell? ⟨gu, 2, none⟩ = some (.slice B3 n3 d3)))
  clear kp_0 kp_1 kp_2 kr_0 kr_1 kr_2 ku_0 ku_1 ku_2
  have hB := bel_drewN (Below.refl uu.heap.size uu) 1
  have ha := ha.below hB
  have q1 := q1.below hB
  have q2 := q2.below hB
  have q3 := q3.below hB
  refine wp_region_held_drew (S := (fun wx => wx.cell? ⟨gp, 0, none⟩ = some (.bool s1) ∧ wx.cell? ⟨gp, 1, none⟩ = some (.slice A1 m1 c1) ∧ wx.cell? ⟨gp, 2, none⟩ = some (.slice B1 n1 d1) ∧ wx.cell? ⟨gr, 0, none⟩ = some (.bool s2) ∧ wx.cell? ⟨gr, 1, none⟩ = some (.slice A2 m2 c2) ∧ wx.cell? ⟨gr, 2, none⟩ = some (.slice B2 n2 d2) ∧ wx.cell? ⟨gu, 0, none⟩ = some (.bool s3) ∧ wx.cell? ⟨gu, 1, none⟩ = some (.slice A3 m3 c3) ∧ wx.cell? ⟨gu, 2, none⟩ = some (.slice B3 n3 d3))) (by kernel_rfl) (hKeep.out _ hB) (fun hHeld => ?_)
  refine wpAnyH_take (i := 0) (v := .int .i64 0) rfl (by kernel_rfl) (by kernel_rfl) (by kernel_rfl) (fun _ _ _ h => h) (Or.inl ⟨by kernel_rfl, by (intro w hSw; (try dsimp only at hSw); go_simp)⟩) hHeld ?_
  try simp only [Act.put, List.getElem_toArray, List.getElem_cons_succ, List.getElem_cons_zero, List.setIfInBounds_toArray, List.set_cons_zero, List.set_cons_succ]
  refine wpAnyH_take (i := 1) (v := .bool true) rfl (by kernel_rfl) (by kernel_rfl) (by kernel_rfl) (fun _ _ _ h => h) (Or.inl ⟨by kernel_rfl, by (intro w hSw; (try dsimp only at hSw); go_simp)⟩) hHeld ?_
  try simp only [Act.put, List.getElem_toArray, List.getElem_cons_succ, List.getElem_cons_zero, List.setIfInBounds_toArray, List.set_cons_zero, List.set_cons_succ]
  refine wpAnyH_take (i := 2) (v := .bool true) rfl (by kernel_rfl) (by kernel_rfl) (by kernel_rfl) (fun _ _ _ h => h) (Or.inl ⟨by kernel_rfl, by (intro w hSw; (try dsimp only at hSw); go_simp)⟩) hHeld ?_
  try simp only [Act.put, List.getElem_toArray, List.getElem_cons_succ, List.getElem_cons_zero, List.setIfInBounds_toArray, List.set_cons_zero, List.set_cons_succ]
  refine wpAnyH_take (i := 3) (v := .int .i64 0) rfl (by kernel_rfl) (by kernel_rfl) (by kernel_rfl) (fun _ _ _ h => h) (Or.inl ⟨by kernel_rfl, by (intro w hSw; (try dsimp only at hSw); go_simp)⟩) hHeld ?_
  try simp only [Act.put, List.getElem_toArray, List.getElem_cons_succ, List.getElem_cons_zero, List.setIfInBounds_toArray, List.set_cons_zero, List.set_cons_succ]
  refine wpAnyH_take (i := 4) (v := .bool true) rfl (by kernel_rfl) (by kernel_rfl) (by kernel_rfl) (fun _ _ _ h => h) (Or.inl ⟨by kernel_rfl, by (intro w hSw; (try dsimp only at hSw); go_simp)⟩) hHeld ?_
  try simp only [Act.put, List.getElem_toArray, List.getElem_cons_succ, List.getElem_cons_zero, List.setIfInBounds_toArray, List.set_cons_zero, List.set_cons_succ]
  refine wpAnyH_take (i := 5) (v := .bool true) rfl (by kernel_rfl) (by kernel_rfl) (by kernel_rfl) (fun _ _ _ h => h) (Or.inl ⟨by kernel_rfl, by (intro w hSw; (try dsimp only at hSw); go_simp)⟩) hHeld ?_
  try simp only [Act.put, List.getElem_toArray, List.getElem_cons_succ, List.getElem_cons_zero, List.setIfInBounds_toArray, List.set_cons_zero, List.set_cons_succ]
  refine wpAnyH_take (i := 6) (v := .bool true) rfl (by kernel_rfl) (by kernel_rfl) (by kernel_rfl) (fun _ _ _ h => h) (Or.inl ⟨by kernel_rfl, by (intro w hSw; (try dsimp only at hSw); go_simp)⟩) hHeld ?_
  try simp only [Act.put, List.getElem_toArray, List.getElem_cons_succ, List.getElem_cons_zero, List.setIfInBounds_toArray, List.set_cons_zero, List.set_cons_succ]
  refine wpAnyH_take (i := 7) (v := .int .i64 0) rfl (by kernel_rfl) (by kernel_rfl) (by kernel_rfl) (fun _ _ _ h => h) (Or.inl ⟨by kernel_rfl, by (intro w hSw; (try dsimp only at hSw); go_simp)⟩) hHeld ?_
  try simp only [Act.put, List.getElem_toArray, List.getElem_cons_succ, List.getElem_cons_zero, List.setIfInBounds_toArray, List.set_cons_zero, List.set_cons_succ]
  refine wpAnyH_take (i := 8) (v := .bool true) rfl (by kernel_rfl) (by kernel_rfl) (by kernel_rfl) (fun _ _ _ h => h) (Or.inl ⟨by kernel_rfl, by (intro w hSw; (try dsimp only at hSw); go_simp)⟩) hHeld ?_
  try simp only [Act.put, List.getElem_toArray, List.getElem_cons_succ, List.getElem_cons_zero, List.setIfInBounds_toArray, List.set_cons_zero, List.set_cons_succ]
  refine wpAnyH_take (i := 9) (v := .bool true) rfl (by kernel_rfl) (by kernel_rfl) (by kernel_rfl) (fun _ _ _ h => h) (Or.inl ⟨by kernel_rfl, by (intro w hSw; (try dsimp only at hSw); go_simp)⟩) hHeld ?_
  try simp only [Act.put, List.getElem_toArray, List.getElem_cons_succ, List.getElem_cons_zero, List.setIfInBounds_toArray, List.set_cons_zero, List.set_cons_succ]
  refine wpAnyH_take (i := 10) (v := .bool true) rfl (by kernel_rfl) (by kernel_rfl) (by kernel_rfl) (fun _ _ _ h => h) (Or.inl ⟨by kernel_rfl, by (intro w hSw; (try dsimp only at hSw); go_simp)⟩) hHeld ?_
  try simp only [Act.put, List.getElem_toArray, List.getElem_cons_succ, List.getElem_cons_zero, List.setIfInBounds_toArray, List.set_cons_zero, List.set_cons_succ]
  refine wpAnyH_take (i := 11) (v := .agg #[.bool s1, .slice A1 m1 c1, .slice B1 n1 d1]) rfl (by kernel_rfl) (by kernel_rfl) (by kernel_rfl) (fun _ _ _ h => h) (Or.inl ⟨by kernel_rfl, by (intro w hSw; (try dsimp only at hSw); go_simp)⟩) hHeld ?_
  try simp only [Act.put, List.getElem_toArray, List.getElem_cons_succ, List.getElem_cons_zero, List.setIfInBounds_toArray, List.set_cons_zero, List.set_cons_succ]
  refine wpAnyH_take (i := 12) (v := .agg #[.bool s2, .slice A2 m2 c2, .slice B2 n2 d2]) rfl (by kernel_rfl) (by kernel_rfl) (by kernel_rfl) (fun _ _ _ h => h) (Or.inl ⟨by kernel_rfl, by (intro w hSw; (try dsimp only at hSw); go_simp)⟩) hHeld ?_
  try simp only [Act.put, List.getElem_toArray, List.getElem_cons_succ, List.getElem_cons_zero, List.setIfInBounds_toArray, List.set_cons_zero, List.set_cons_succ]
  refine wpAnyH_take (i := 14) (v := .agg #[.bool s3, .slice A3 m3 c3, .slice B3 n3 d3]) rfl (by kernel_rfl) (by kernel_rfl) (by kernel_rfl) (fun _ _ _ h => h) (Or.inl ⟨by kernel_rfl, by (intro w hSw; (try dsimp only at hSw); go_simp)⟩) hHeld ?_
  try simp only [Act.put, List.getElem_toArray, List.getElem_cons_succ, List.getElem_cons_zero, List.setIfInBounds_toArray, List.set_cons_zero, List.set_cons_succ]
  refine wpAnyH_ready (rs := [13]) (by kernel_rfl) (by simp) ?_
  refine AllReadyH.cons rfl (fun K hK => ?_) AllReadyH.nil
  go_simp
  refine (mulQ _ _ _ _ 1400 _ q1.af q2.af (by decide)).mono ?_
  rintro e v4 ⟨_, rfl, q4, hc4⟩
  have q4 := q4.le (show _ ≤ 11204 by decide)
  obtain ⟨s4, A4, m4, c4, B4, n4, d4, rfl⟩ := q4.form
  have hB := hB.trans (hc4.mono hB.size)
  have ha := ha.below hc4
  have q1 := q1.below hc4
  have q2 := q2.below hc4
  have q3 := q3.below hc4
  go_wp2_with fail
  refine hK.out _ _ ?_ (fun hHeld => ?_)
  · exact hKeep.out _ hB
  clear hK K
  try simp only [Act.put, List.getElem_toArray, List.getElem_cons_succ, List.getElem_cons_zero, List.setIfInBounds_toArray, List.set_cons_zero, List.set_cons_succ]
  refine wpAnyH_ready (rs := [15]) (by kernel_rfl) (by simp) ?_
  refine AllReadyH.cons rfl (fun K hK => ?_) AllReadyH.nil
  go_simp
  refine (sameT _ _ _ _ _ _ _ q4 q3 (by rw [htH.out]; exact rpow_add qa i j)).mono ?_
  rintro e v5 ⟨rfl, hc5⟩
  have hB := hB.trans (hc5.mono hB.size)
  have ha := ha.below hc5
  have q1 := q1.below hc5
  have q2 := q2.below hc5
  have q3 := q3.below hc5
  have q4 := q4.below hc5
  go_wp2_with fail
  refine hK.out _ _ ?_ (fun hHeld => ?_)
  · exact hKeep.out _ hB
  clear hK K
  try simp only [Act.put, List.getElem_toArray, List.getElem_cons_succ, List.getElem_cons_zero, List.setIfInBounds_toArray, List.set_cons_zero, List.set_cons_succ]
  refine wpAnyH_take (i := 16) (v := .bool true) rfl (by kernel_rfl) (by kernel_rfl) (by kernel_rfl) (fun _ _ _ h => h) (Or.inl ⟨by kernel_rfl, by (intro w hSw; (try dsimp only at hSw); go_simp)⟩) hHeld ?_
  try simp only [Act.put, List.getElem_toArray, List.getElem_cons_succ, List.getElem_cons_zero, List.setIfInBounds_toArray, List.set_cons_zero, List.set_cons_succ]
  refine wpAnyH_take (i := 17) (v := .bool true) rfl (by kernel_rfl) (by kernel_rfl) (by kernel_rfl) (fun _ _ _ h => h) (Or.inl ⟨by kernel_rfl, by (intro w hSw; (try dsimp only at hSw); go_simp)⟩) hHeld ?_
  try simp only [Act.put, List.getElem_toArray, List.getElem_cons_succ, List.getElem_cons_zero, List.setIfInBounds_toArray, List.set_cons_zero, List.set_cons_succ]
  refine wpAnyH_ready (rs := [18]) (by kernel_rfl) (by simp) ?_
  refine AllReadyH.cons rfl (fun K hK => ?_) AllReadyH.nil
  go_simp
  refine (known_true _ (hG.out.below (hw.trans (hB.mono hw.size)))).mono ?_
  rintro e v6 ⟨rfl, hc6⟩
  have hB := hB.trans (hc6.mono hB.size)
  have ha := ha.below hc6
  have q1 := q1.below hc6
  have q2 := q2.below hc6
  have q3 := q3.below hc6
  have q4 := q4.below hc6
  go_wp2_with fail
  refine hK.out _ _ ?_ (fun hHeld => ?_)
  · exact hKeep.out _ hB
  clear hK K
  try simp only [Act.put, List.getElem_toArray, List.getElem_cons_succ, List.getElem_cons_zero, List.setIfInBounds_toArray, List.set_cons_zero, List.set_cons_succ]
  refine wpAnyH_take (i := 19) (v := .bool true) rfl (by kernel_rfl) (by kernel_rfl) (by kernel_rfl) (fun _ _ _ h => h) (Or.inl ⟨by kernel_rfl, by (intro w hSw; (try dsimp only at hSw); go_simp)⟩) hHeld ?_
  try simp only [Act.put, List.getElem_toArray, List.getElem_cons_succ, List.getElem_cons_zero, List.setIfInBounds_toArray, List.set_cons_zero, List.set_cons_succ]
  refine wpAnyH_take (i := 20) (v := .bool true) rfl (by kernel_rfl) (by kernel_rfl) (by kernel_rfl) (fun _ _ _ h => h) (Or.inl ⟨by kernel_rfl, by (intro w hSw; (try dsimp only at hSw); go_simp)⟩) hHeld ?_
  try simp only [Act.put, List.getElem_toArray, List.getElem_cons_succ, List.getElem_cons_zero, List.setIfInBounds_toArray, List.set_cons_zero, List.set_cons_succ]
  refine wpAnyH_done (by kernel_rfl) ?_ _
  have hw := hw.trans (hB.mono hw.size)
  have Xa := Xa.below hB
  have Xp := Xp.below hB
  have Xr := Xr.below hB
  have Xu := Xu.below hB
  go_wp2
  go_ret
  exact ⟨rfl, hw⟩
end Go.Proofs.YtanaljnclajkdaaGreatDoor.Fr
