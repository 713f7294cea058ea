/- FracOrdered: the order is total, sums and products keep it. -/
import Derived.Test.YtanaljnclajkdaaGreatDoorJK
import Derived.Test.YtanaljnclajkdaaGreatDoorHC
import Derived.Deep.RegionHeld3
namespace Go.Proofs.YtanaljnclajkdaaGreatDoor.Fr
open Go.RowKit Num

theorem cq_add (a b c : Rat) : cq (a + c) (b + c) = cq a b := by
  unfold cq
  have h1 : a + c < b + c ↔ a < b := by constructor <;> intro h <;> grind
  have h2 : b + c < a + c ↔ b < a := by constructor <;> intro h <;> grind
  simp only [h1, h2]
theorem cq_self (a : Rat) : cq a a = 0 := by
  unfold cq
  rw [if_neg (by grind), if_neg (by grind)]
theorem cq_mul (a b c : Rat) : cq (a * c) (b * c) = cq a b * qs c := by
  have key : ∀ x y : Rat, x < y → cq (x * c) (y * c) = -qs c := by
    intro x y h
    unfold qs cq
    have hp : 0 < y - x := by grind
    by_cases h1 : c < 0
    · have h2 := Rat.mul_pos hp (show 0 < -c by grind)
      have h3 : y * c < x * c := by grind
      rw [if_neg (by grind), if_pos h3, if_pos h1]; rfl
    · by_cases h2 : 0 < c
      · have h3 := Rat.mul_pos hp h2
        have h4 : x * c < y * c := by grind
        rw [if_pos h4, if_neg h1, if_pos h2]
      · have h3 : c = 0 := by grind
        subst h3
        simp
  by_cases h1 : a < b
  · rw [key a b h1]
    have : cq a b = -1 := by unfold cq; rw [if_pos h1]
    rw [this]; omega
  · by_cases h2 : b < a
    · have h3 := key b a h2
      have h4 : cq (a * c) (b * c) = -cq (b * c) (a * c) := by
        unfold cq
        split <;> split <;> (try split) <;> (try split) <;> grind
      have : cq a b = 1 := by unfold cq; rw [if_neg h1, if_pos h2]
      rw [h4, h3, this]; omega
    · have h3 : a = b := by grind
      subst h3
      rw [cq_self, cq_self, Int.zero_mul]
theorem cq_trans {a b c : Rat} (h1 : cq a b ≤ 0) (h2 : cq b c ≤ 0) : cq a c ≤ 0 := by
  unfold cq at *
  split at h1 <;> split at h2 <;> (try split at h1) <;> (try split at h2) <;> split <;> (try split) <;> grind
theorem cq_eq0 (a b : Rat) : ((cq a b == 0) : Bool) = decide (a = b) := by
  unfold cq
  by_cases h : a = b
  · subst h; rw [if_neg (by grind), if_neg (by grind)]; simp
  · rw [decide_eq_false h]
    split
    · rfl
    · rw [if_pos (by grind)]; rfl
set_option linter.unusedSimpArgs false in
set_option maxHeartbeats 25600000 in
set_option maxRecDepth 100000 in
theorem ordered_law (sa : Bool) (Aa : Option Addr) (na ca : Nat) (Ba : Option Addr) (ma ea : Nat) (xa ya : List Nat) (sb : Bool) (Ab : Option Addr) (nb cb : Nat) (Bb : Option Addr) (mb eb : Nat) (xb yb : List Nat) (sc : Bool) (Ac : Option Addr) (nc cc : Nat) (Bc : Option Addr) (mc ec : Nat) (xc yc : List Nat) (w : World) (hxa : Dg .u32 w Aa na ca xa) (hya : Dg .u32 w Ba ma ea ya) (hxb : Dg .u32 w Ab nb cb xb) (hyb : Dg .u32 w Bb mb eb yb) (hxc : Dg .u32 w Ac nc cc xc) (hyc : Dg .u32 w Bc mc ec yc) (hG : Gl w) :
    Calls Tryz.prog 12 #[.agg #[.bool sa, .slice Aa na ca, .slice Ba ma ea], .agg #[.bool sb, .slice Ab nb cb, .slice Bb mb eb], .agg #[.bool sc, .slice Ac nc cc, .slice Bc mc ec]] w fun e w' => e = .returned (.bool true) ∧ Below w.heap.size w w' := by
  have hG := Lib.hid hG
  have Xa := Blk.new w 24 #[.bool sa, .slice Aa na ca, .slice Ba ma ea]
  have Xb := Blk.new (w.alloc (.cells #[.bool sa, .slice Aa na ca, .slice Ba ma ea] 24)) 24 #[.bool sb, .slice Ab nb cb, .slice Bb mb eb]
  have Xa := Xa.alloc (.cells #[.bool sb, .slice Ab nb cb, .slice Bb mb eb] 24)
  have Xc := Blk.new ((w.alloc (.cells #[.bool sa, .slice Aa na ca, .slice Ba ma ea] 24)).alloc (.cells #[.bool sb, .slice Ab nb cb, .slice Bb mb eb] 24)) 24 #[.bool sc, .slice Ac nc cc, .slice Bc mc ec]
  have Xa := Xa.alloc (.cells #[.bool sc, .slice Ac nc cc, .slice Bc mc ec] 24)
  have Xb := Xb.alloc (.cells #[.bool sc, .slice Ac nc cc, .slice Bc mc ec] 24)
  have z1 : (w.alloc (.cells #[.bool sa, .slice Aa na ca, .slice Ba ma ea] 24)).heap.size = w.heap.size + 1 := by simp
  rw [z1] at Xb
  have z2 : ((w.alloc (.cells #[.bool sa, .slice Aa na ca, .slice Ba ma ea] 24)).alloc (.cells #[.bool sb, .slice Ab nb cb, .slice Bb mb eb] 24)).heap.size = w.heap.size + 1 + 1 := by simp
  rw [z2] at Xc
  have hw := ((((Below.refl w.heap.size w).alloc (Nat.le_refl _) (.cells #[.bool sa, .slice Aa na ca, .slice Ba ma ea] 24)).alloc (by rw [z1]; omega) (.cells #[.bool sb, .slice Ab nb cb, .slice Bb mb eb] 24)).alloc (by rw [z2]; omega) (.cells #[.bool sc, .slice Ac nc cc, .slice Bc mc ec] 24))
  have hxa := hxa.below hw
  have hya := hya.below hw
  have hxb := hxb.below hw
  have hyb := hyb.below hw
  have hxc := hxc.below hw
  have hyc := hyc.below hw
  clear z1 z2
  go_enter Tryz.func12, Tryz.ntmps12
  go_upto_region 1 with fail
  generalize (((w.alloc (.cells #[.bool sa, .slice Aa na ca, .slice Ba ma ea] 24)).alloc (.cells #[.bool sb, .slice Ab nb cb, .slice Bb mb eb] 24)).alloc (.cells #[.bool sc, .slice Ac nc cc, .slice Bc mc ec] 24)) = w1 at *
  have ka0 : w1.cell? ⟨w.heap.size, 0, none⟩ = some (.bool sa) := Xa.cell 0
  have ka1 : w1.cell? ⟨w.heap.size, 1, none⟩ = some (.slice Aa na ca) := Xa.cell 1
  have ka2 : w1.cell? ⟨w.heap.size, 2, none⟩ = some (.slice Ba ma ea) := Xa.cell 2
  have kb0 : w1.cell? ⟨w.heap.size + 1, 0, none⟩ = some (.bool sb) := Xb.cell 0
  have kb1 : w1.cell? ⟨w.heap.size + 1, 1, none⟩ = some (.slice Ab nb cb) := Xb.cell 1
  have kb2 : w1.cell? ⟨w.heap.size + 1, 2, none⟩ = some (.slice Bb mb eb) := Xb.cell 2
  have kc0 : w1.cell? ⟨w.heap.size + 1 + 1, 0, none⟩ = some (.bool sc) := Xc.cell 0
  have kc1 : w1.cell? ⟨w.heap.size + 1 + 1, 1, none⟩ = some (.slice Ac nc cc) := Xc.cell 1
  have kc2 : w1.cell? ⟨w.heap.size + 1 + 1, 2, none⟩ = some (.slice Bc mc ec) := Xc.cell 2
  by_cases hl_na : 6 < na
  · have f1 : decide ((6 : Int) < (na : Int)) = true := decide_eq_true (by omega)
    have f2 := decide_eq_true hl_na
    go_wp2_with fail
    refine (known_true _ (hG.out.below hw)).mono ?_
    rintro e v1 ⟨rfl, hc1⟩
    go_wp2
    go_ret
    exact ⟨rfl, hw.trans (hc1.mono hw.size)⟩
  have g1_na : decide ((6 : Int) < (na : Int)) = false := decide_eq_false (by omega)
  have g2_na := decide_eq_false hl_na
  by_cases hl_ma : 6 < ma
  · have f1 : decide ((6 : Int) < (ma : Int)) = true := decide_eq_true (by omega)
    have f2 := decide_eq_true hl_ma
    go_wp2_with fail
    refine (known_true _ (hG.out.below hw)).mono ?_
    rintro e v1 ⟨rfl, hc1⟩
    go_wp2
    go_ret
    exact ⟨rfl, hw.trans (hc1.mono hw.size)⟩
  have g1_ma : decide ((6 : Int) < (ma : Int)) = false := decide_eq_false (by omega)
  have g2_ma := decide_eq_false hl_ma
  by_cases hl_nb : 6 < nb
  · have f1 : decide ((6 : Int) < (nb : Int)) = true := decide_eq_true (by omega)
    have f2 := decide_eq_true hl_nb
    go_wp2_with fail
    refine (known_true _ (hG.out.below hw)).mono ?_
    rintro e v1 ⟨rfl, hc1⟩
    go_wp2
    go_ret
    exact ⟨rfl, hw.trans (hc1.mono hw.size)⟩
  have g1_nb : decide ((6 : Int) < (nb : Int)) = false := decide_eq_false (by omega)
  have g2_nb := decide_eq_false hl_nb
  by_cases hl_mb : 6 < mb
  · have f1 : decide ((6 : Int) < (mb : Int)) = true := decide_eq_true (by omega)
    have f2 := decide_eq_true hl_mb
    go_wp2_with fail
    refine (known_true _ (hG.out.below hw)).mono ?_
    rintro e v1 ⟨rfl, hc1⟩
    go_wp2
    go_ret
    exact ⟨rfl, hw.trans (hc1.mono hw.size)⟩
  have g1_mb : decide ((6 : Int) < (mb : Int)) = false := decide_eq_false (by omega)
  have g2_mb := decide_eq_false hl_mb
  by_cases hl_nc : 6 < nc
  · have f1 : decide ((6 : Int) < (nc : Int)) = true := decide_eq_true (by omega)
    have f2 := decide_eq_true hl_nc
    go_wp2_with fail
    refine (known_true _ (hG.out.below hw)).mono ?_
    rintro e v1 ⟨rfl, hc1⟩
    go_wp2
    go_ret
    exact ⟨rfl, hw.trans (hc1.mono hw.size)⟩
  have g1_nc : decide ((6 : Int) < (nc : Int)) = false := decide_eq_false (by omega)
  have g2_nc := decide_eq_false hl_nc
  by_cases hl_mc : 6 < mc
  · have f1 : decide ((6 : Int) < (mc : Int)) = true := decide_eq_true (by omega)
    have f2 := decide_eq_true hl_mc
    go_wp2_with fail
    refine (known_true _ (hG.out.below hw)).mono ?_
    rintro e v1 ⟨rfl, hc1⟩
    go_wp2
    go_ret
    exact ⟨rfl, hw.trans (hc1.mono hw.size)⟩
  have g1_mc : decide ((6 : Int) < (mc : Int)) = false := decide_eq_false (by omega)
  have g2_mc := decide_eq_false hl_mc
  obtain ⟨qa, ha⟩ : ∃ q, AF w1 (.agg #[.bool sa, .slice Aa na ca, .slice Ba ma ea]) q 6 := ⟨_, AF.of hxa hya (by omega) (by omega)⟩
  obtain ⟨qb, hb⟩ : ∃ q, AF w1 (.agg #[.bool sb, .slice Ab nb cb, .slice Bb mb eb]) q 6 := ⟨_, AF.of hxb hyb (by omega) (by omega)⟩
  obtain ⟨qc, hc⟩ : ∃ q, AF w1 (.agg #[.bool sc, .slice Ac nc cc, .slice Bc mc ec]) q 6 := ⟨_, AF.of hxc hyc (by omega) (by omega)⟩
  have hB := Below.refl w1.heap.size w1
  obtain ⟨za, hzza⟩ : ∃ z, cq qa qb = z := ⟨_, rfl⟩
  have bza := cq_bound qa qb
  rw [hzza] at bza
  obtain ⟨zb, hzzb⟩ : ∃ z, cq qb qc = z := ⟨_, rfl⟩
  have bzb := cq_bound qb qc
  rw [hzzb] at bzb
  obtain ⟨zc, hzzc⟩ : ∃ z, cq qa qc = z := ⟨_, rfl⟩
  have bzc := cq_bound qa qc
  rw [hzzc] at bzc
  obtain ⟨sc', hsc⟩ : ∃ z, qs qc = z := ⟨_, rfl⟩
  have bsc := qs_bound qc
  rw [hsc] at bsc
  obtain ⟨pm, hpm⟩ : ∃ m, za * sc' = m := ⟨_, rfl⟩
  have bpm : -1 ≤ pm ∧ pm ≤ 1 := by rw [← hpm]; rcases (show za = -1 ∨ za = 0 ∨ za = 1 by omega) with h | h | h <;> rw [h] <;> omega
  have hwm2 : IntKind.i64.wrap pm = pm := IntWalk.i64_in _ (by omega)
  have hwm : IntKind.i64.wrap (za * sc') = pm := by rw [hpm]; exact IntWalk.i64_in _ (by omega)
  obtain ⟨be, hbe⟩ : ∃ b, decide (qa = qb) = b := ⟨_, rfl⟩
  have hze : (za == 0) = be := by rw [← hzza, ← hbe]; exact cq_eq0 qa qb
  have hadd := Lib.hid (show cq (qa + qc) (qb + qc) = za by rw [cq_add]; exact hzza)
  have hmul := Lib.hid (show cq (qa * qc) (qb * qc) = pm by rw [cq_mul, hzza, hsc]; exact hpm)
  have htr := Lib.hid (show za ≤ 0 → zb ≤ 0 → zc ≤ 0 by rw [← hzza, ← hzzb, ← hzzc]; exact cq_trans)
  have hzza := Lib.hid hzza
  have hzzb := Lib.hid hzzb
  have hzzc := Lib.hid hzzc
  have hsc := Lib.hid hsc
  have hbe := Lib.hid hbe
  have hpm' := Lib.hid hpm
  have hzzaa' := hzza
  go_wp2_with fail
  clear hxa hya hxb hyb hxc hyc hl_na g1_na g2_na hl_ma g1_ma g2_ma hl_nb g1_nb g2_nb hl_mb g1_mb g2_mb hl_nc g1_nc g2_nc hl_mc g1_mc g2_mc ka0 ka1 ka2 kb0 kb1 kb2 kc0 kc1 kc2
  refine (CmpQ _ _ qa qb 6 _ ha hb (by decide)).mono ?_
  rintro e v1 ⟨rfl, hc1⟩
  rw [hzza.out]
  have hw := hw.trans (hc1.mono hw.size)
  have hB := Below.refl v1.heap.size v1
  have ha := ha.below hc1
  have hb := hb.below hc1
  have hc := hc.below hc1
  have Xa := Xa.below hc1
  have Xb := Xb.below hc1
  have Xc := Xc.below hc1
  by_cases hp1 : za ≤ 0
  case neg =>
    have hd1 : decide (za ≤ 0) = false := decide_eq_false hp1
    go_upto_region 6 with fail
    clear hd1
    have ka_0 : v1.cell? ⟨w.heap.size, 0, none⟩ = some (.bool sa) := Xa.cell 0
    have ka_1 : v1.cell? ⟨w.heap.size, 1, none⟩ = some (.slice Aa na ca) := Xa.cell 1
    have ka_2 : v1.cell? ⟨w.heap.size, 2, none⟩ = some (.slice Ba ma ea) := Xa.cell 2
    have kb_0 : v1.cell? ⟨w.heap.size + 1, 0, none⟩ = some (.bool sb) := Xb.cell 0
    have kb_1 : v1.cell? ⟨w.heap.size + 1, 1, none⟩ = some (.slice Ab nb cb) := Xb.cell 1
    have kb_2 : v1.cell? ⟨w.heap.size + 1, 2, none⟩ = some (.slice Bb mb eb) := Xb.cell 2
    have kc_0 : v1.cell? ⟨w.heap.size + 1 + 1, 0, none⟩ = some (.bool sc) := Xc.cell 0
    have kc_1 : v1.cell? ⟨w.heap.size + 1 + 1, 1, none⟩ = some (.slice Ac nc cc) := Xc.cell 1
    have kc_2 : v1.cell? ⟨w.heap.size + 1 + 1, 2, none⟩ = some (.slice Bc mc ec) := Xc.cell 2
    have hKeep := Lib.hid (fun (wx : World) (hb : Below v1.heap.size v1 wx) => (⟨(hb.cell (World.block_lt_of_cell? _ _ ka_0)).trans ka_0, (hb.cell (World.block_lt_of_cell? _ _ ka_1)).trans ka_1, (hb.cell (World.block_lt_of_cell? _ _ ka_2)).trans ka_2, (hb.cell (World.block_lt_of_cell? _ _ kb_0)).trans kb_0, (hb.cell (World.block_lt_of_cell? _ _ kb_1)).trans kb_1, (hb.cell (World.block_lt_of_cell? _ _ kb_2)).trans kb_2, (hb.cell (World.block_lt_of_cell? _ _ kc_0)).trans kc_0, (hb.cell (World.block_lt_of_cell? _ _ kc_1)).trans kc_1, (hb.cell (World.block_lt_of_cell? _ _ kc_2)).trans kc_2⟩ : wx.cell? ⟨w.heap.size, 0, none⟩ = some (.bool sa) ∧ wx.cell? ⟨w.heap.size, 1, none⟩ = some (.slice Aa na ca) ∧ wx.cell? ⟨w.heap.size, 2, none⟩ = some (.slice Ba ma ea) ∧ wx.cell? ⟨w.heap.size + 1, 0, none⟩ = some (.bool sb) ∧ wx.cell? ⟨w.heap.size + 1, 1, none⟩ = some (.slice Ab nb cb) ∧ wx.cell? ⟨w.heap.size + 1, 2, none⟩ = some (.slice Bb mb eb) ∧ wx.cell? ⟨w.heap.size + 1 + 1, 0, none⟩ = some (.bool sc) ∧ wx.cell? ⟨w.heap.size + 1 + 1, 1, none⟩ = some (.slice Ac nc cc) ∧ wx.cell? ⟨w.heap.size + 1 + 1, 2, none⟩ = some (.slice Bc mc ec)))
    clear ka_0 ka_1 ka_2 kb_0 kb_1 kb_2 kc_0 kc_1 kc_2
    have hB := bel_drewN (Below.refl v1.heap.size v1) 1
    have ha := ha.below hB
    have hb := hb.below hB
    have hc := hc.below hB
    refine wp_region_held_drew (S := (fun wx => wx.cell? ⟨w.heap.size, 0, none⟩ = some (.bool sa) ∧ wx.cell? ⟨w.heap.size, 1, none⟩ = some (.slice Aa na ca) ∧ wx.cell? ⟨w.heap.size, 2, none⟩ = some (.slice Ba ma ea) ∧ wx.cell? ⟨w.heap.size + 1, 0, none⟩ = some (.bool sb) ∧ wx.cell? ⟨w.heap.size + 1, 1, none⟩ = some (.slice Ab nb cb) ∧ wx.cell? ⟨w.heap.size + 1, 2, none⟩ = some (.slice Bb mb eb) ∧ wx.cell? ⟨w.heap.size + 1 + 1, 0, none⟩ = some (.bool sc) ∧ wx.cell? ⟨w.heap.size + 1 + 1, 1, none⟩ = some (.slice Ac nc cc) ∧ wx.cell? ⟨w.heap.size + 1 + 1, 2, none⟩ = some (.slice Bc mc ec))) (by kernel_rfl) (hKeep.out _ hB) (fun hHeld => ?_)
    refine wpAnyH_take (i := 0) (v := .agg #[.bool sa, .slice Aa na ca, .slice Ba ma ea]) rfl (by kernel_rfl) (by kernel_rfl) (by kernel_rfl) (fun _ _ _ h => h) (Or.inl ⟨by kernel_rfl, by (intro w hSw; (try dsimp only at hSw); go_simp)⟩) hHeld ?_
    try simp only [Act.put, List.getElem_toArray, List.getElem_cons_succ, List.getElem_cons_zero, List.setIfInBounds_toArray, List.set_cons_zero, List.set_cons_succ]
    refine wpAnyH_take (i := 1) (v := .agg #[.bool sc, .slice Ac nc cc, .slice Bc mc ec]) rfl (by kernel_rfl) (by kernel_rfl) (by kernel_rfl) (fun _ _ _ h => h) (Or.inl ⟨by kernel_rfl, by (intro w hSw; (try dsimp only at hSw); go_simp)⟩) hHeld ?_
    try simp only [Act.put, List.getElem_toArray, List.getElem_cons_succ, List.getElem_cons_zero, List.setIfInBounds_toArray, List.set_cons_zero, List.set_cons_succ]
    refine wpAnyH_take (i := 3) (v := .agg #[.bool sb, .slice Ab nb cb, .slice Bb mb eb]) rfl (by kernel_rfl) (by kernel_rfl) (by kernel_rfl) (fun _ _ _ h => h) (Or.inl ⟨by kernel_rfl, by (intro w hSw; (try dsimp only at hSw); go_simp)⟩) hHeld ?_
    try simp only [Act.put, List.getElem_toArray, List.getElem_cons_succ, List.getElem_cons_zero, List.setIfInBounds_toArray, List.set_cons_zero, List.set_cons_succ]
    refine wpAnyH_take (i := 4) (v := .agg #[.bool sc, .slice Ac nc cc, .slice Bc mc ec]) rfl (by kernel_rfl) (by kernel_rfl) (by kernel_rfl) (fun _ _ _ h => h) (Or.inl ⟨by kernel_rfl, by (intro w hSw; (try dsimp only at hSw); go_simp)⟩) hHeld ?_
    try simp only [Act.put, List.getElem_toArray, List.getElem_cons_succ, List.getElem_cons_zero, List.setIfInBounds_toArray, List.set_cons_zero, List.set_cons_succ]
    refine wpAnyH_take (i := 7) (v := .int .i64 za) rfl (by kernel_rfl) (by kernel_rfl) (by kernel_rfl) (fun _ _ _ h => h) (Or.inl ⟨by kernel_rfl, by (intro w hSw; (try dsimp only at hSw); go_simp)⟩) hHeld ?_
    try simp only [Act.put, List.getElem_toArray, List.getElem_cons_succ, List.getElem_cons_zero, List.setIfInBounds_toArray, List.set_cons_zero, List.set_cons_succ]
    refine wpAnyH_ready (rs := [2]) (by kernel_rfl) (by simp) ?_
    refine AllReadyH.cons rfl (fun K hK => ?_) AllReadyH.nil
    go_simp
    refine (addQ _ _ _ _ 6 _ ha hc (by decide)).mono ?_
    rintro e v2 ⟨_, rfl, q2, hc2⟩
    have q2 := q2.le (show _ ≤ 90 by decide)
    obtain ⟨s2, A2, m2, c2, B2, n2, d2, rfl⟩ := q2.form
    have hB := hB.trans (hc2.mono hB.size)
    have ha := ha.below hc2
    have hb := hb.below hc2
    have hc := hc.below hc2
    go_wp2_with fail
    refine hK.out _ _ ?_ (fun hHeld => ?_)
    · exact hKeep.out _ hB
    clear hK K
    try simp only [Act.put, List.getElem_toArray, List.getElem_cons_succ, List.getElem_cons_zero, List.setIfInBounds_toArray, List.set_cons_zero, List.set_cons_succ]
    refine wpAnyH_ready (rs := [5]) (by kernel_rfl) (by simp) ?_
    refine AllReadyH.cons rfl (fun K hK => ?_) AllReadyH.nil
    go_simp
    refine (addQ _ _ _ _ 6 _ hb hc (by decide)).mono ?_
    rintro e v3 ⟨_, rfl, q3, hc3⟩
    have q3 := q3.le (show _ ≤ 90 by decide)
    obtain ⟨s3, A3, m3, c3, B3, n3, d3, rfl⟩ := q3.form
    have hB := hB.trans (hc3.mono hB.size)
    have ha := ha.below hc3
    have hb := hb.below hc3
    have hc := hc.below hc3
    have q2 := q2.below hc3
    go_wp2_with fail
    refine hK.out _ _ ?_ (fun hHeld => ?_)
    · exact hKeep.out _ hB
    clear hK K
    try simp only [Act.put, List.getElem_toArray, List.getElem_cons_succ, List.getElem_cons_zero, List.setIfInBounds_toArray, List.set_cons_zero, List.set_cons_succ]
    refine wpAnyH_ready (rs := [6]) (by kernel_rfl) (by simp) ?_
    refine AllReadyH.cons rfl (fun K hK => ?_) AllReadyH.nil
    go_simp
    refine (CmpQ _ _ _ _ 90 _ q2.af q3.af (by decide)).mono ?_
    rintro e v4 ⟨rfl, hc4⟩
    rw [hadd.out]
    have hB := hB.trans (hc4.mono hB.size)
    have ha := ha.below hc4
    have hb := hb.below hc4
    have hc := hc.below hc4
    have q2 := q2.below hc4
    have q3 := q3.below hc4
    go_wp2_with fail
    refine hK.out _ _ ?_ (fun hHeld => ?_)
    · exact hKeep.out _ hB
    clear hK K
    try simp only [Act.put, List.getElem_toArray, List.getElem_cons_succ, List.getElem_cons_zero, List.setIfInBounds_toArray, List.set_cons_zero, List.set_cons_succ]
    refine wpAnyH_take (i := 8) (v := .bool false) rfl (by kernel_rfl) (by kernel_rfl) (by kernel_rfl) (fun _ _ _ h => h) (Or.inl ⟨by kernel_rfl, by (intro w hSw; (try dsimp only at hSw); go_simp)⟩) hHeld ?_
    try simp only [Act.put, List.getElem_toArray, List.getElem_cons_succ, List.getElem_cons_zero, List.setIfInBounds_toArray, List.set_cons_zero, List.set_cons_succ]
    refine wpAnyH_take (i := 9) (v := .bool false) rfl (by kernel_rfl) (by kernel_rfl) (by kernel_rfl) (fun _ _ _ h => h) (Or.inl ⟨by kernel_rfl, by (intro w hSw; (try dsimp only at hSw); go_simp)⟩) hHeld ?_
    try simp only [Act.put, List.getElem_toArray, List.getElem_cons_succ, List.getElem_cons_zero, List.setIfInBounds_toArray, List.set_cons_zero, List.set_cons_succ]
    refine wpAnyH_take (i := 10) (v := .agg #[.bool sa, .slice Aa na ca, .slice Ba ma ea]) rfl (by kernel_rfl) (by kernel_rfl) (by kernel_rfl) (fun _ _ _ h => h) (Or.inl ⟨by kernel_rfl, by (intro w hSw; (try dsimp only at hSw); go_simp)⟩) hHeld ?_
    try simp only [Act.put, List.getElem_toArray, List.getElem_cons_succ, List.getElem_cons_zero, List.setIfInBounds_toArray, List.set_cons_zero, List.set_cons_succ]
    refine wpAnyH_take (i := 11) (v := .agg #[.bool sa, .slice Aa na ca, .slice Ba ma ea]) rfl (by kernel_rfl) (by kernel_rfl) (by kernel_rfl) (fun _ _ _ h => h) (Or.inl ⟨by kernel_rfl, by (intro w hSw; (try dsimp only at hSw); go_simp)⟩) hHeld ?_
    try simp only [Act.put, List.getElem_toArray, List.getElem_cons_succ, List.getElem_cons_zero, List.setIfInBounds_toArray, List.set_cons_zero, List.set_cons_succ]
    refine wpAnyH_ready (rs := [12]) (by kernel_rfl) (by simp) ?_
    refine AllReadyH.cons rfl (fun K hK => ?_) AllReadyH.nil
    go_simp
    refine (CmpQ _ _ _ _ 6 _ ha ha (by decide)).mono ?_
    rintro e v5 ⟨rfl, hc5⟩
    rw [cq_self]
    have hB := hB.trans (hc5.mono hB.size)
    have ha := ha.below hc5
    have hb := hb.below hc5
    have hc := hc.below hc5
    have q2 := q2.below hc5
    have q3 := q3.below hc5
    go_wp2_with fail
    refine hK.out _ _ ?_ (fun hHeld => ?_)
    · exact hKeep.out _ hB
    clear hK K
    try simp only [Act.put, List.getElem_toArray, List.getElem_cons_succ, List.getElem_cons_zero, List.setIfInBounds_toArray, List.set_cons_zero, List.set_cons_succ]
    refine wpAnyH_take (i := 13) (v := .bool false) rfl (by kernel_rfl) (by kernel_rfl) (by kernel_rfl) (fun _ _ _ h => h) (Or.inl ⟨by kernel_rfl, by (intro w hSw; (try dsimp only at hSw); go_simp)⟩) hHeld ?_
    try simp only [Act.put, List.getElem_toArray, List.getElem_cons_succ, List.getElem_cons_zero, List.setIfInBounds_toArray, List.set_cons_zero, List.set_cons_succ]
    refine wpAnyH_take (i := 14) (v := .bool false) rfl (by kernel_rfl) (by kernel_rfl) (by kernel_rfl) (fun _ _ _ h => h) (Or.inl ⟨by kernel_rfl, by (intro w hSw; (try dsimp only at hSw); go_simp)⟩) hHeld ?_
    try simp only [Act.put, List.getElem_toArray, List.getElem_cons_succ, List.getElem_cons_zero, List.setIfInBounds_toArray, List.set_cons_zero, List.set_cons_succ]
    refine wpAnyH_done (by kernel_rfl) ?_ _
    have hw := hw.trans (hB.mono hw.size)
    have Xa := Xa.below hB
    have Xb := Xb.below hB
    have Xc := Xc.below hB
    go_upto_region 8 with fail
    have ka_0 : v5.cell? ⟨w.heap.size, 0, none⟩ = some (.bool sa) := Xa.cell 0
    have ka_1 : v5.cell? ⟨w.heap.size, 1, none⟩ = some (.slice Aa na ca) := Xa.cell 1
    have ka_2 : v5.cell? ⟨w.heap.size, 2, none⟩ = some (.slice Ba ma ea) := Xa.cell 2
    have kb_0 : v5.cell? ⟨w.heap.size + 1, 0, none⟩ = some (.bool sb) := Xb.cell 0
    have kb_1 : v5.cell? ⟨w.heap.size + 1, 1, none⟩ = some (.slice Ab nb cb) := Xb.cell 1
    have kb_2 : v5.cell? ⟨w.heap.size + 1, 2, none⟩ = some (.slice Bb mb eb) := Xb.cell 2
    have kc_0 : v5.cell? ⟨w.heap.size + 1 + 1, 0, none⟩ = some (.bool sc) := Xc.cell 0
    have kc_1 : v5.cell? ⟨w.heap.size + 1 + 1, 1, none⟩ = some (.slice Ac nc cc) := Xc.cell 1
    have kc_2 : v5.cell? ⟨w.heap.size + 1 + 1, 2, none⟩ = some (.slice Bc mc ec) := Xc.cell 2
    have hKeep := Lib.hid (fun (wx : World) (hb : Below v5.heap.size v5 wx) => (⟨(hb.cell (World.block_lt_of_cell? _ _ ka_0)).trans ka_0, (hb.cell (World.block_lt_of_cell? _ _ ka_1)).trans ka_1, (hb.cell (World.block_lt_of_cell? _ _ ka_2)).trans ka_2, (hb.cell (World.block_lt_of_cell? _ _ kb_0)).trans kb_0, (hb.cell (World.block_lt_of_cell? _ _ kb_1)).trans kb_1, (hb.cell (World.block_lt_of_cell? _ _ kb_2)).trans kb_2, (hb.cell (World.block_lt_of_cell? _ _ kc_0)).trans kc_0, (hb.cell (World.block_lt_of_cell? _ _ kc_1)).trans kc_1, (hb.cell (World.block_lt_of_cell? _ _ kc_2)).trans kc_2⟩ : wx.cell? ⟨w.heap.size, 0, none⟩ = some (.bool sa) ∧ wx.cell? ⟨w.heap.size, 1, none⟩ = some (.slice Aa na ca) ∧ wx.cell? ⟨w.heap.size, 2, none⟩ = some (.slice Ba ma ea) ∧ wx.cell? ⟨w.heap.size + 1, 0, none⟩ = some (.bool sb) ∧ wx.cell? ⟨w.heap.size + 1, 1, none⟩ = some (.slice Ab nb cb) ∧ wx.cell? ⟨w.heap.size + 1, 2, none⟩ = some (.slice Bb mb eb) ∧ wx.cell? ⟨w.heap.size + 1 + 1, 0, none⟩ = some (.bool sc) ∧ wx.cell? ⟨w.heap.size + 1 + 1, 1, none⟩ = some (.slice Ac nc cc) ∧ wx.cell? ⟨w.heap.size + 1 + 1, 2, none⟩ = some (.slice Bc mc ec)))
    clear ka_0 ka_1 ka_2 kb_0 kb_1 kb_2 kc_0 kc_1 kc_2
    have hB := bel_drewN (Below.refl v5.heap.size v5) 1
    have ha := ha.below hB
    have hb := hb.below hB
    have hc := hc.below hB
    have q2 := q2.below hB
    have q3 := q3.below hB
    refine wp_region_held_drew (S := (fun wx => wx.cell? ⟨w.heap.size, 0, none⟩ = some (.bool sa) ∧ wx.cell? ⟨w.heap.size, 1, none⟩ = some (.slice Aa na ca) ∧ wx.cell? ⟨w.heap.size, 2, none⟩ = some (.slice Ba ma ea) ∧ wx.cell? ⟨w.heap.size + 1, 0, none⟩ = some (.bool sb) ∧ wx.cell? ⟨w.heap.size + 1, 1, none⟩ = some (.slice Ab nb cb) ∧ wx.cell? ⟨w.heap.size + 1, 2, none⟩ = some (.slice Bb mb eb) ∧ wx.cell? ⟨w.heap.size + 1 + 1, 0, none⟩ = some (.bool sc) ∧ wx.cell? ⟨w.heap.size + 1 + 1, 1, none⟩ = some (.slice Ac nc cc) ∧ wx.cell? ⟨w.heap.size + 1 + 1, 2, none⟩ = some (.slice Bc mc ec))) (by kernel_rfl) (hKeep.out _ hB) (fun hHeld => ?_)
    refine wpAnyH_take (i := 0) (v := .agg #[.bool sa, .slice Aa na ca, .slice Ba ma ea]) rfl (by kernel_rfl) (by kernel_rfl) (by kernel_rfl) (fun _ _ _ h => h) (Or.inl ⟨by kernel_rfl, by (intro w hSw; (try dsimp only at hSw); go_simp)⟩) hHeld ?_
    try simp only [Act.put, List.getElem_toArray, List.getElem_cons_succ, List.getElem_cons_zero, List.setIfInBounds_toArray, List.set_cons_zero, List.set_cons_succ]
    refine wpAnyH_take (i := 1) (v := .agg #[.bool sc, .slice Ac nc cc, .slice Bc mc ec]) rfl (by kernel_rfl) (by kernel_rfl) (by kernel_rfl) (fun _ _ _ h => h) (Or.inl ⟨by kernel_rfl, by (intro w hSw; (try dsimp only at hSw); go_simp)⟩) hHeld ?_
    try simp only [Act.put, List.getElem_toArray, List.getElem_cons_succ, List.getElem_cons_zero, List.setIfInBounds_toArray, List.set_cons_zero, List.set_cons_succ]
    refine wpAnyH_take (i := 3) (v := .agg #[.bool sb, .slice Ab nb cb, .slice Bb mb eb]) rfl (by kernel_rfl) (by kernel_rfl) (by kernel_rfl) (fun _ _ _ h => h) (Or.inl ⟨by kernel_rfl, by (intro w hSw; (try dsimp only at hSw); go_simp)⟩) hHeld ?_
    try simp only [Act.put, List.getElem_toArray, List.getElem_cons_succ, List.getElem_cons_zero, List.setIfInBounds_toArray, List.set_cons_zero, List.set_cons_succ]
    refine wpAnyH_take (i := 4) (v := .agg #[.bool sc, .slice Ac nc cc, .slice Bc mc ec]) rfl (by kernel_rfl) (by kernel_rfl) (by kernel_rfl) (fun _ _ _ h => h) (Or.inl ⟨by kernel_rfl, by (intro w hSw; (try dsimp only at hSw); go_simp)⟩) hHeld ?_
    try simp only [Act.put, List.getElem_toArray, List.getElem_cons_succ, List.getElem_cons_zero, List.setIfInBounds_toArray, List.set_cons_zero, List.set_cons_succ]
    refine wpAnyH_take (i := 7) (v := .int .i64 za) rfl (by kernel_rfl) (by kernel_rfl) (by kernel_rfl) (fun _ _ _ h => h) (Or.inl ⟨by kernel_rfl, by (intro w hSw; (try dsimp only at hSw); go_simp)⟩) hHeld ?_
    try simp only [Act.put, List.getElem_toArray, List.getElem_cons_succ, List.getElem_cons_zero, List.setIfInBounds_toArray, List.set_cons_zero, List.set_cons_succ]
    refine wpAnyH_take (i := 8) (v := .agg #[.bool sc, .slice Ac nc cc, .slice Bc mc ec]) rfl (by kernel_rfl) (by kernel_rfl) (by kernel_rfl) (fun _ _ _ h => h) (Or.inl ⟨by kernel_rfl, by (intro w hSw; (try dsimp only at hSw); go_simp)⟩) hHeld ?_
    try simp only [Act.put, List.getElem_toArray, List.getElem_cons_succ, List.getElem_cons_zero, List.setIfInBounds_toArray, List.set_cons_zero, List.set_cons_succ]
    refine wpAnyH_ready (rs := [2]) (by kernel_rfl) (by simp) ?_
    refine AllReadyH.cons rfl (fun K hK => ?_) AllReadyH.nil
    go_simp
    refine (mulQ _ _ _ _ 6 _ ha hc (by decide)).mono ?_
    rintro e v6 ⟨_, rfl, q6, hc6⟩
    have q6 := q6.le (show _ ≤ 52 by decide)
    obtain ⟨s6, A6, m6, c6, B6, n6, d6, rfl⟩ := q6.form
    have hB := hB.trans (hc6.mono hB.size)
    have ha := ha.below hc6
    have hb := hb.below hc6
    have hc := hc.below hc6
    have q2 := q2.below hc6
    have q3 := q3.below hc6
    go_wp2_with fail
    refine hK.out _ _ ?_ (fun hHeld => ?_)
    · exact hKeep.out _ hB
    clear hK K
    try simp only [Act.put, List.getElem_toArray, List.getElem_cons_succ, List.getElem_cons_zero, List.setIfInBounds_toArray, List.set_cons_zero, List.set_cons_succ]
    refine wpAnyH_ready (rs := [5]) (by kernel_rfl) (by simp) ?_
    refine AllReadyH.cons rfl (fun K hK => ?_) AllReadyH.nil
    go_simp
    refine (mulQ _ _ _ _ 6 _ hb hc (by decide)).mono ?_
    rintro e v7 ⟨_, rfl, q7, hc7⟩
    have q7 := q7.le (show _ ≤ 52 by decide)
    obtain ⟨s7, A7, m7, c7, B7, n7, d7, rfl⟩ := q7.form
    have hB := hB.trans (hc7.mono hB.size)
    have ha := ha.below hc7
    have hb := hb.below hc7
    have hc := hc.below hc7
    have q2 := q2.below hc7
    have q3 := q3.below hc7
    have q6 := q6.below hc7
    go_wp2_with fail
    refine hK.out _ _ ?_ (fun hHeld => ?_)
    · exact hKeep.out _ hB
    clear hK K
    try simp only [Act.put, List.getElem_toArray, List.getElem_cons_succ, List.getElem_cons_zero, List.setIfInBounds_toArray, List.set_cons_zero, List.set_cons_succ]
    refine wpAnyH_ready (rs := [6]) (by kernel_rfl) (by simp) ?_
    refine AllReadyH.cons rfl (fun K hK => ?_) AllReadyH.nil
    go_simp
    refine (CmpQ _ _ _ _ 52 _ q6.af q7.af (by decide)).mono ?_
    rintro e v8 ⟨rfl, hc8⟩
    rw [hmul.out]
    have hB := hB.trans (hc8.mono hB.size)
    have ha := ha.below hc8
    have hb := hb.below hc8
    have hc := hc.below hc8
    have q2 := q2.below hc8
    have q3 := q3.below hc8
    have q6 := q6.below hc8
    have q7 := q7.below hc8
    go_wp2_with fail
    refine hK.out _ _ ?_ (fun hHeld => ?_)
    · exact hKeep.out _ hB
    clear hK K
    try simp only [Act.put, List.getElem_toArray, List.getElem_cons_succ, List.getElem_cons_zero, List.setIfInBounds_toArray, List.set_cons_zero, List.set_cons_succ]
    refine wpAnyH_ready (rs := [9]) (by kernel_rfl) (by simp) ?_
    refine AllReadyH.cons rfl (fun K hK => ?_) AllReadyH.nil
    go_simp
    refine (SignQ _ _ 6 _ hc (by decide)).mono ?_
    rintro e v9 ⟨rfl, hc9⟩
    rw [hsc.out]
    have hB := hB.trans (hc9.mono hB.size)
    have ha := ha.below hc9
    have hb := hb.below hc9
    have hc := hc.below hc9
    have q2 := q2.below hc9
    have q3 := q3.below hc9
    have q6 := q6.below hc9
    have q7 := q7.below hc9
    go_wp2_with fail
    refine hK.out _ _ ?_ (fun hHeld => ?_)
    · exact hKeep.out _ hB
    clear hK K
    try simp only [Act.put, List.getElem_toArray, List.getElem_cons_succ, List.getElem_cons_zero, List.setIfInBounds_toArray, List.set_cons_zero, List.set_cons_succ]
    refine wpAnyH_take (i := 10) (v := .int .i64 pm) rfl (by kernel_rfl) (by kernel_rfl) (by kernel_rfl) (fun _ _ _ h => h) (Or.inl ⟨by kernel_rfl, by (intro w hSw; (try dsimp only at hSw); go_simp)⟩) hHeld ?_
    try simp only [Act.put, List.getElem_toArray, List.getElem_cons_succ, List.getElem_cons_zero, List.setIfInBounds_toArray, List.set_cons_zero, List.set_cons_succ]
    refine wpAnyH_take (i := 11) (v := .bool false) rfl (by kernel_rfl) (by kernel_rfl) (by kernel_rfl) (fun _ _ _ h => h) (Or.inl ⟨by kernel_rfl, by (intro w hSw; (try dsimp only at hSw); go_simp)⟩) hHeld ?_
    try simp only [Act.put, List.getElem_toArray, List.getElem_cons_succ, List.getElem_cons_zero, List.setIfInBounds_toArray, List.set_cons_zero, List.set_cons_succ]
    refine wpAnyH_done (by kernel_rfl) ?_ _
    have hw := hw.trans (hB.mono hw.size)
    have Xa := Xa.below hB
    have Xb := Xb.below hB
    have Xc := Xc.below hB
    go_upto_region 10 with fail
    have ka_0 : v9.cell? ⟨w.heap.size, 0, none⟩ = some (.bool sa) := Xa.cell 0
    have ka_1 : v9.cell? ⟨w.heap.size, 1, none⟩ = some (.slice Aa na ca) := Xa.cell 1
    have ka_2 : v9.cell? ⟨w.heap.size, 2, none⟩ = some (.slice Ba ma ea) := Xa.cell 2
    have kb_0 : v9.cell? ⟨w.heap.size + 1, 0, none⟩ = some (.bool sb) := Xb.cell 0
    have kb_1 : v9.cell? ⟨w.heap.size + 1, 1, none⟩ = some (.slice Ab nb cb) := Xb.cell 1
    have kb_2 : v9.cell? ⟨w.heap.size + 1, 2, none⟩ = some (.slice Bb mb eb) := Xb.cell 2
    have kc_0 : v9.cell? ⟨w.heap.size + 1 + 1, 0, none⟩ = some (.bool sc) := Xc.cell 0
    have kc_1 : v9.cell? ⟨w.heap.size + 1 + 1, 1, none⟩ = some (.slice Ac nc cc) := Xc.cell 1
    have kc_2 : v9.cell? ⟨w.heap.size + 1 + 1, 2, none⟩ = some (.slice Bc mc ec) := Xc.cell 2
    have hKeep := Lib.hid (fun (wx : World) (hb : Below v9.heap.size v9 wx) => (⟨(hb.cell (World.block_lt_of_cell? _ _ ka_0)).trans ka_0, (hb.cell (World.block_lt_of_cell? _ _ ka_1)).trans ka_1, (hb.cell (World.block_lt_of_cell? _ _ ka_2)).trans ka_2, (hb.cell (World.block_lt_of_cell? _ _ kb_0)).trans kb_0, (hb.cell (World.block_lt_of_cell? _ _ kb_1)).trans kb_1, (hb.cell (World.block_lt_of_cell? _ _ kb_2)).trans kb_2, (hb.cell (World.block_lt_of_cell? _ _ kc_0)).trans kc_0, (hb.cell (World.block_lt_of_cell? _ _ kc_1)).trans kc_1, (hb.cell (World.block_lt_of_cell? _ _ kc_2)).trans kc_2⟩ : wx.cell? ⟨w.heap.size, 0, none⟩ = some (.bool sa) ∧ wx.cell? ⟨w.heap.size, 1, none⟩ = some (.slice Aa na ca) ∧ wx.cell? ⟨w.heap.size, 2, none⟩ = some (.slice Ba ma ea) ∧ wx.cell? ⟨w.heap.size + 1, 0, none⟩ = some (.bool sb) ∧ wx.cell? ⟨w.heap.size + 1, 1, none⟩ = some (.slice Ab nb cb) ∧ wx.cell? ⟨w.heap.size + 1, 2, none⟩ = some (.slice Bb mb eb) ∧ wx.cell? ⟨w.heap.size + 1 + 1, 0, none⟩ = some (.bool sc) ∧ wx.cell? ⟨w.heap.size + 1 + 1, 1, none⟩ = some (.slice Ac nc cc) ∧ wx.cell? ⟨w.heap.size + 1 + 1, 2, none⟩ = some (.slice Bc mc ec)))
    clear ka_0 ka_1 ka_2 kb_0 kb_1 kb_2 kc_0 kc_1 kc_2
    have hB := bel_drewN (Below.refl v9.heap.size v9) 1
    have ha := ha.below hB
    have hb := hb.below hB
    have hc := hc.below hB
    have q2 := q2.below hB
    have q3 := q3.below hB
    have q6 := q6.below hB
    have q7 := q7.below hB
    refine wp_region_held_drew (S := (fun wx => wx.cell? ⟨w.heap.size, 0, none⟩ = some (.bool sa) ∧ wx.cell? ⟨w.heap.size, 1, none⟩ = some (.slice Aa na ca) ∧ wx.cell? ⟨w.heap.size, 2, none⟩ = some (.slice Ba ma ea) ∧ wx.cell? ⟨w.heap.size + 1, 0, none⟩ = some (.bool sb) ∧ wx.cell? ⟨w.heap.size + 1, 1, none⟩ = some (.slice Ab nb cb) ∧ wx.cell? ⟨w.heap.size + 1, 2, none⟩ = some (.slice Bb mb eb) ∧ wx.cell? ⟨w.heap.size + 1 + 1, 0, none⟩ = some (.bool sc) ∧ wx.cell? ⟨w.heap.size + 1 + 1, 1, none⟩ = some (.slice Ac nc cc) ∧ wx.cell? ⟨w.heap.size + 1 + 1, 2, none⟩ = some (.slice Bc mc ec))) (by kernel_rfl) (hKeep.out _ hB) (fun hHeld => ?_)
    refine wpAnyH_take (i := 0) (v := .int .i64 za) rfl (by kernel_rfl) (by kernel_rfl) (by kernel_rfl) (fun _ _ _ h => h) (Or.inl ⟨by kernel_rfl, by (intro w hSw; (try dsimp only at hSw); go_simp)⟩) hHeld ?_
    try simp only [Act.put, List.getElem_toArray, List.getElem_cons_succ, List.getElem_cons_zero, List.setIfInBounds_toArray, List.set_cons_zero, List.set_cons_succ]
    refine wpAnyH_take (i := 1) (v := .bool be) rfl (by kernel_rfl) (by kernel_rfl) (by kernel_rfl) (fun _ _ _ h => h) (Or.inl ⟨by kernel_rfl, by (intro w hSw; (try dsimp only at hSw); go_simp)⟩) hHeld ?_
    try simp only [Act.put, List.getElem_toArray, List.getElem_cons_succ, List.getElem_cons_zero, List.setIfInBounds_toArray, List.set_cons_zero, List.set_cons_succ]
    refine wpAnyH_take (i := 2) (v := .agg #[.bool sa, .slice Aa na ca, .slice Ba ma ea]) rfl (by kernel_rfl) (by kernel_rfl) (by kernel_rfl) (fun _ _ _ h => h) (Or.inl ⟨by kernel_rfl, by (intro w hSw; (try dsimp only at hSw); go_simp)⟩) hHeld ?_
    try simp only [Act.put, List.getElem_toArray, List.getElem_cons_succ, List.getElem_cons_zero, List.setIfInBounds_toArray, List.set_cons_zero, List.set_cons_succ]
    refine wpAnyH_take (i := 4) (v := .agg #[.bool sb, .slice Ab nb cb, .slice Bb mb eb]) rfl (by kernel_rfl) (by kernel_rfl) (by kernel_rfl) (fun _ _ _ h => h) (Or.inl ⟨by kernel_rfl, by (intro w hSw; (try dsimp only at hSw); go_simp)⟩) hHeld ?_
    try simp only [Act.put, List.getElem_toArray, List.getElem_cons_succ, List.getElem_cons_zero, List.setIfInBounds_toArray, List.set_cons_zero, List.set_cons_succ]
    refine wpAnyH_ready (rs := [3]) (by kernel_rfl) (by simp) ?_
    refine AllReadyH.cons rfl (fun K hK => ?_) AllReadyH.nil
    go_simp
    refine (canonQ _ _ 6 _ ha (by decide)).mono ?_
    rintro e v10 ⟨_, rfl, q10, hc10⟩
    have q10 := q10.le (show _ ≤ 26 by decide)
    obtain ⟨s10, A10, m10, c10, B10, n10, d10, rfl⟩ := q10.form
    have hB := hB.trans (hc10.mono hB.size)
    have ha := ha.below hc10
    have hb := hb.below hc10
    have hc := hc.below hc10
    have q2 := q2.below hc10
    have q3 := q3.below hc10
    have q6 := q6.below hc10
    have q7 := q7.below hc10
    go_wp2_with fail
    refine hK.out _ _ ?_ (fun hHeld => ?_)
    · exact hKeep.out _ hB
    clear hK K
    try simp only [Act.put, List.getElem_toArray, List.getElem_cons_succ, List.getElem_cons_zero, List.setIfInBounds_toArray, List.set_cons_zero, List.set_cons_succ]
    refine wpAnyH_ready (rs := [5]) (by kernel_rfl) (by simp) ?_
    refine AllReadyH.cons rfl (fun K hK => ?_) AllReadyH.nil
    go_simp
    refine (canonQ _ _ 6 _ hb (by decide)).mono ?_
    rintro e v11 ⟨_, rfl, q11, hc11⟩
    have q11 := q11.le (show _ ≤ 26 by decide)
    obtain ⟨s11, A11, m11, c11, B11, n11, d11, rfl⟩ := q11.form
    have hB := hB.trans (hc11.mono hB.size)
    have ha := ha.below hc11
    have hb := hb.below hc11
    have hc := hc.below hc11
    have q2 := q2.below hc11
    have q3 := q3.below hc11
    have q6 := q6.below hc11
    have q7 := q7.below hc11
    have q10 := q10.below hc11
    go_wp2_with fail
    refine hK.out _ _ ?_ (fun hHeld => ?_)
    · exact hKeep.out _ hB
    clear hK K
    try simp only [Act.put, List.getElem_toArray, List.getElem_cons_succ, List.getElem_cons_zero, List.setIfInBounds_toArray, List.set_cons_zero, List.set_cons_succ]
    refine wpAnyH_ready (rs := [6]) (by kernel_rfl) (by simp) ?_
    refine AllReadyH.cons rfl (fun K hK => ?_) AllReadyH.nil
    go_simp
    refine (sameQ _ _ qa qb _ _ _ q10 q11).mono ?_
    rintro e v12 ⟨rfl, hc12⟩
    rw [hbe.out]
    have hB := hB.trans (hc12.mono hB.size)
    have ha := ha.below hc12
    have hb := hb.below hc12
    have hc := hc.below hc12
    have q2 := q2.below hc12
    have q3 := q3.below hc12
    have q6 := q6.below hc12
    have q7 := q7.below hc12
    have q10 := q10.below hc12
    have q11 := q11.below hc12
    go_wp2_with fail
    refine hK.out _ _ ?_ (fun hHeld => ?_)
    · exact hKeep.out _ hB
    clear hK K
    try simp only [Act.put, List.getElem_toArray, List.getElem_cons_succ, List.getElem_cons_zero, List.setIfInBounds_toArray, List.set_cons_zero, List.set_cons_succ]
    refine wpAnyH_take (i := 7) (v := .bool true) rfl (by kernel_rfl) (by kernel_rfl) (by kernel_rfl) (fun _ _ _ h => h) (Or.inl ⟨by kernel_rfl, by (intro w hSw; (try dsimp only at hSw); go_simp)⟩) hHeld ?_
    try simp only [Act.put, List.getElem_toArray, List.getElem_cons_succ, List.getElem_cons_zero, List.setIfInBounds_toArray, List.set_cons_zero, List.set_cons_succ]
    refine wpAnyH_take (i := 8) (v := .bool true) rfl (by kernel_rfl) (by kernel_rfl) (by kernel_rfl) (fun _ _ _ h => h) (Or.inl ⟨by kernel_rfl, by (intro w hSw; (try dsimp only at hSw); go_simp)⟩) hHeld ?_
    try simp only [Act.put, List.getElem_toArray, List.getElem_cons_succ, List.getElem_cons_zero, List.setIfInBounds_toArray, List.set_cons_zero, List.set_cons_succ]
    refine wpAnyH_ready (rs := [9]) (by kernel_rfl) (by simp) ?_
    refine AllReadyH.cons rfl (fun K hK => ?_) AllReadyH.nil
    go_simp
    refine (known_true _ (hG.out.below (hw.trans (hB.mono hw.size)))).mono ?_
    rintro e v13 ⟨rfl, hc13⟩
    have hB := hB.trans (hc13.mono hB.size)
    have ha := ha.below hc13
    have hb := hb.below hc13
    have hc := hc.below hc13
    have q2 := q2.below hc13
    have q3 := q3.below hc13
    have q6 := q6.below hc13
    have q7 := q7.below hc13
    have q10 := q10.below hc13
    have q11 := q11.below hc13
    go_wp2_with fail
    refine hK.out _ _ ?_ (fun hHeld => ?_)
    · exact hKeep.out _ hB
    clear hK K
    try simp only [Act.put, List.getElem_toArray, List.getElem_cons_succ, List.getElem_cons_zero, List.setIfInBounds_toArray, List.set_cons_zero, List.set_cons_succ]
    refine wpAnyH_take (i := 10) (v := .bool true) rfl (by kernel_rfl) (by kernel_rfl) (by kernel_rfl) (fun _ _ _ h => h) (Or.inl ⟨by kernel_rfl, by (intro w hSw; (try dsimp only at hSw); go_simp)⟩) hHeld ?_
    try simp only [Act.put, List.getElem_toArray, List.getElem_cons_succ, List.getElem_cons_zero, List.setIfInBounds_toArray, List.set_cons_zero, List.set_cons_succ]
    refine wpAnyH_take (i := 11) (v := .bool true) rfl (by kernel_rfl) (by kernel_rfl) (by kernel_rfl) (fun _ _ _ h => h) (Or.inl ⟨by kernel_rfl, by (intro w hSw; (try dsimp only at hSw); go_simp)⟩) hHeld ?_
    try simp only [Act.put, List.getElem_toArray, List.getElem_cons_succ, List.getElem_cons_zero, List.setIfInBounds_toArray, List.set_cons_zero, List.set_cons_succ]
    refine wpAnyH_done (by kernel_rfl) ?_ _
    have hw := hw.trans (hB.mono hw.size)
    have Xa := Xa.below hB
    have Xb := Xb.below hB
    have Xc := Xc.below hB
    go_wp2
    go_ret
    exact ⟨rfl, hw⟩
  have hd1 : decide (za ≤ 0) = true := decide_eq_true hp1
  have ka0 : v1.cell? ⟨w.heap.size, 0, none⟩ = some (.bool sa) := Xa.cell 0
  have ka1 : v1.cell? ⟨w.heap.size, 1, none⟩ = some (.slice Aa na ca) := Xa.cell 1
  have ka2 : v1.cell? ⟨w.heap.size, 2, none⟩ = some (.slice Ba ma ea) := Xa.cell 2
  have kb0 : v1.cell? ⟨w.heap.size + 1, 0, none⟩ = some (.bool sb) := Xb.cell 0
  have kb1 : v1.cell? ⟨w.heap.size + 1, 1, none⟩ = some (.slice Ab nb cb) := Xb.cell 1
  have kb2 : v1.cell? ⟨w.heap.size + 1, 2, none⟩ = some (.slice Bb mb eb) := Xb.cell 2
  have kc0 : v1.cell? ⟨w.heap.size + 1 + 1, 0, none⟩ = some (.bool sc) := Xc.cell 0
  have kc1 : v1.cell? ⟨w.heap.size + 1 + 1, 1, none⟩ = some (.slice Ac nc cc) := Xc.cell 1
  have kc2 : v1.cell? ⟨w.heap.size + 1 + 1, 2, none⟩ = some (.slice Bc mc ec) := Xc.cell 2
  go_wp2_with fail
  clear ka0 ka1 ka2 kb0 kb1 kb2 kc0 kc1 kc2
  refine (CmpQ _ _ qb qc 6 _ hb hc (by decide)).mono ?_
  rintro e v2 ⟨rfl, hc2⟩
  rw [hzzb.out]
  have hw := hw.trans (hc2.mono hw.size)
  have hB := Below.refl v2.heap.size v2
  have ha := ha.below hc2
  have hb := hb.below hc2
  have hc := hc.below hc2
  have Xa := Xa.below hc2
  have Xb := Xb.below hc2
  have Xc := Xc.below hc2
  by_cases hp2 : zb ≤ 0
  case neg =>
    have hd2 : decide (zb ≤ 0) = false := decide_eq_false hp2
    go_upto_region 6 with fail
    clear hd1 hd2
    have ka_0 : v2.cell? ⟨w.heap.size, 0, none⟩ = some (.bool sa) := Xa.cell 0
    have ka_1 : v2.cell? ⟨w.heap.size, 1, none⟩ = some (.slice Aa na ca) := Xa.cell 1
    have ka_2 : v2.cell? ⟨w.heap.size, 2, none⟩ = some (.slice Ba ma ea) := Xa.cell 2
    have kb_0 : v2.cell? ⟨w.heap.size + 1, 0, none⟩ = some (.bool sb) := Xb.cell 0
    have kb_1 : v2.cell? ⟨w.heap.size + 1, 1, none⟩ = some (.slice Ab nb cb) := Xb.cell 1
    have kb_2 : v2.cell? ⟨w.heap.size + 1, 2, none⟩ = some (.slice Bb mb eb) := Xb.cell 2
    have kc_0 : v2.cell? ⟨w.heap.size + 1 + 1, 0, none⟩ = some (.bool sc) := Xc.cell 0
    have kc_1 : v2.cell? ⟨w.heap.size + 1 + 1, 1, none⟩ = some (.slice Ac nc cc) := Xc.cell 1
    have kc_2 : v2.cell? ⟨w.heap.size + 1 + 1, 2, none⟩ = some (.slice Bc mc ec) := Xc.cell 2
    have hKeep := Lib.hid (fun (wx : World) (hb : Below v2.heap.size v2 wx) => (⟨(hb.cell (World.block_lt_of_cell? _ _ ka_0)).trans ka_0, (hb.cell (World.block_lt_of_cell? _ _ ka_1)).trans ka_1, (hb.cell (World.block_lt_of_cell? _ _ ka_2)).trans ka_2, (hb.cell (World.block_lt_of_cell? _ _ kb_0)).trans kb_0, (hb.cell (World.block_lt_of_cell? _ _ kb_1)).trans kb_1, (hb.cell (World.block_lt_of_cell? _ _ kb_2)).trans kb_2, (hb.cell (World.block_lt_of_cell? _ _ kc_0)).trans kc_0, (hb.cell (World.block_lt_of_cell? _ _ kc_1)).trans kc_1, (hb.cell (World.block_lt_of_cell? _ _ kc_2)).trans kc_2⟩ : wx.cell? ⟨w.heap.size, 0, none⟩ = some (.bool sa) ∧ wx.cell? ⟨w.heap.size, 1, none⟩ = some (.slice Aa na ca) ∧ wx.cell? ⟨w.heap.size, 2, none⟩ = some (.slice Ba ma ea) ∧ wx.cell? ⟨w.heap.size + 1, 0, none⟩ = some (.bool sb) ∧ wx.cell? ⟨w.heap.size + 1, 1, none⟩ = some (.slice Ab nb cb) ∧ wx.cell? ⟨w.heap.size + 1, 2, none⟩ = some (.slice Bb mb eb) ∧ wx.cell? ⟨w.heap.size + 1 + 1, 0, none⟩ = some (.bool sc) ∧ wx.cell? ⟨w.heap.size + 1 + 1, 1, none⟩ = some (.slice Ac nc cc) ∧ wx.cell? ⟨w.heap.size + 1 + 1, 2, none⟩ = some (.slice Bc mc ec)))
    clear ka_0 ka_1 ka_2 kb_0 kb_1 kb_2 kc_0 kc_1 kc_2
    have hB := bel_drewN (Below.refl v2.heap.size v2) 1
    have ha := ha.below hB
    have hb := hb.below hB
    have hc := hc.below hB
    refine wp_region_held_drew (S := (fun wx => wx.cell? ⟨w.heap.size, 0, none⟩ = some (.bool sa) ∧ wx.cell? ⟨w.heap.size, 1, none⟩ = some (.slice Aa na ca) ∧ wx.cell? ⟨w.heap.size, 2, none⟩ = some (.slice Ba ma ea) ∧ wx.cell? ⟨w.heap.size + 1, 0, none⟩ = some (.bool sb) ∧ wx.cell? ⟨w.heap.size + 1, 1, none⟩ = some (.slice Ab nb cb) ∧ wx.cell? ⟨w.heap.size + 1, 2, none⟩ = some (.slice Bb mb eb) ∧ wx.cell? ⟨w.heap.size + 1 + 1, 0, none⟩ = some (.bool sc) ∧ wx.cell? ⟨w.heap.size + 1 + 1, 1, none⟩ = some (.slice Ac nc cc) ∧ wx.cell? ⟨w.heap.size + 1 + 1, 2, none⟩ = some (.slice Bc mc ec))) (by kernel_rfl) (hKeep.out _ hB) (fun hHeld => ?_)
    refine wpAnyH_take (i := 0) (v := .agg #[.bool sa, .slice Aa na ca, .slice Ba ma ea]) rfl (by kernel_rfl) (by kernel_rfl) (by kernel_rfl) (fun _ _ _ h => h) (Or.inl ⟨by kernel_rfl, by (intro w hSw; (try dsimp only at hSw); go_simp)⟩) hHeld ?_
    try simp only [Act.put, List.getElem_toArray, List.getElem_cons_succ, List.getElem_cons_zero, List.setIfInBounds_toArray, List.set_cons_zero, List.set_cons_succ]
    refine wpAnyH_take (i := 1) (v := .agg #[.bool sc, .slice Ac nc cc, .slice Bc mc ec]) rfl (by kernel_rfl) (by kernel_rfl) (by kernel_rfl) (fun _ _ _ h => h) (Or.inl ⟨by kernel_rfl, by (intro w hSw; (try dsimp only at hSw); go_simp)⟩) hHeld ?_
    try simp only [Act.put, List.getElem_toArray, List.getElem_cons_succ, List.getElem_cons_zero, List.setIfInBounds_toArray, List.set_cons_zero, List.set_cons_succ]
    refine wpAnyH_take (i := 3) (v := .agg #[.bool sb, .slice Ab nb cb, .slice Bb mb eb]) rfl (by kernel_rfl) (by kernel_rfl) (by kernel_rfl) (fun _ _ _ h => h) (Or.inl ⟨by kernel_rfl, by (intro w hSw; (try dsimp only at hSw); go_simp)⟩) hHeld ?_
    try simp only [Act.put, List.getElem_toArray, List.getElem_cons_succ, List.getElem_cons_zero, List.setIfInBounds_toArray, List.set_cons_zero, List.set_cons_succ]
    refine wpAnyH_take (i := 4) (v := .agg #[.bool sc, .slice Ac nc cc, .slice Bc mc ec]) rfl (by kernel_rfl) (by kernel_rfl) (by kernel_rfl) (fun _ _ _ h => h) (Or.inl ⟨by kernel_rfl, by (intro w hSw; (try dsimp only at hSw); go_simp)⟩) hHeld ?_
    try simp only [Act.put, List.getElem_toArray, List.getElem_cons_succ, List.getElem_cons_zero, List.setIfInBounds_toArray, List.set_cons_zero, List.set_cons_succ]
    refine wpAnyH_take (i := 7) (v := .int .i64 za) rfl (by kernel_rfl) (by kernel_rfl) (by kernel_rfl) (fun _ _ _ h => h) (Or.inl ⟨by kernel_rfl, by (intro w hSw; (try dsimp only at hSw); go_simp)⟩) hHeld ?_
    try simp only [Act.put, List.getElem_toArray, List.getElem_cons_succ, List.getElem_cons_zero, List.setIfInBounds_toArray, List.set_cons_zero, List.set_cons_succ]
    refine wpAnyH_ready (rs := [2]) (by kernel_rfl) (by simp) ?_
    refine AllReadyH.cons rfl (fun K hK => ?_) AllReadyH.nil
    go_simp
    refine (addQ _ _ _ _ 6 _ ha hc (by decide)).mono ?_
    rintro e v3 ⟨_, rfl, q3, hc3⟩
    have q3 := q3.le (show _ ≤ 90 by decide)
    obtain ⟨s3, A3, m3, c3, B3, n3, d3, rfl⟩ := q3.form
    have hB := hB.trans (hc3.mono hB.size)
    have ha := ha.below hc3
    have hb := hb.below hc3
    have hc := hc.below hc3
    go_wp2_with fail
    refine hK.out _ _ ?_ (fun hHeld => ?_)
    · exact hKeep.out _ hB
    clear hK K
    try simp only [Act.put, List.getElem_toArray, List.getElem_cons_succ, List.getElem_cons_zero, List.setIfInBounds_toArray, List.set_cons_zero, List.set_cons_succ]
    refine wpAnyH_ready (rs := [5]) (by kernel_rfl) (by simp) ?_
    refine AllReadyH.cons rfl (fun K hK => ?_) AllReadyH.nil
    go_simp
    refine (addQ _ _ _ _ 6 _ hb hc (by decide)).mono ?_
    rintro e v4 ⟨_, rfl, q4, hc4⟩
    have q4 := q4.le (show _ ≤ 90 by decide)
    obtain ⟨s4, A4, m4, c4, B4, n4, d4, rfl⟩ := q4.form
    have hB := hB.trans (hc4.mono hB.size)
    have ha := ha.below hc4
    have hb := hb.below hc4
    have hc := hc.below hc4
    have q3 := q3.below hc4
    go_wp2_with fail
    refine hK.out _ _ ?_ (fun hHeld => ?_)
    · exact hKeep.out _ hB
    clear hK K
    try simp only [Act.put, List.getElem_toArray, List.getElem_cons_succ, List.getElem_cons_zero, List.setIfInBounds_toArray, List.set_cons_zero, List.set_cons_succ]
    refine wpAnyH_ready (rs := [6]) (by kernel_rfl) (by simp) ?_
    refine AllReadyH.cons rfl (fun K hK => ?_) AllReadyH.nil
    go_simp
    refine (CmpQ _ _ _ _ 90 _ q3.af q4.af (by decide)).mono ?_
    rintro e v5 ⟨rfl, hc5⟩
    rw [hadd.out]
    have hB := hB.trans (hc5.mono hB.size)
    have ha := ha.below hc5
    have hb := hb.below hc5
    have hc := hc.below hc5
    have q3 := q3.below hc5
    have q4 := q4.below hc5
    go_wp2_with fail
    refine hK.out _ _ ?_ (fun hHeld => ?_)
    · exact hKeep.out _ hB
    clear hK K
    try simp only [Act.put, List.getElem_toArray, List.getElem_cons_succ, List.getElem_cons_zero, List.setIfInBounds_toArray, List.set_cons_zero, List.set_cons_succ]
    refine wpAnyH_take (i := 8) (v := .bool false) rfl (by kernel_rfl) (by kernel_rfl) (by kernel_rfl) (fun _ _ _ h => h) (Or.inl ⟨by kernel_rfl, by (intro w hSw; (try dsimp only at hSw); go_simp)⟩) hHeld ?_
    try simp only [Act.put, List.getElem_toArray, List.getElem_cons_succ, List.getElem_cons_zero, List.setIfInBounds_toArray, List.set_cons_zero, List.set_cons_succ]
    refine wpAnyH_take (i := 9) (v := .bool false) rfl (by kernel_rfl) (by kernel_rfl) (by kernel_rfl) (fun _ _ _ h => h) (Or.inl ⟨by kernel_rfl, by (intro w hSw; (try dsimp only at hSw); go_simp)⟩) hHeld ?_
    try simp only [Act.put, List.getElem_toArray, List.getElem_cons_succ, List.getElem_cons_zero, List.setIfInBounds_toArray, List.set_cons_zero, List.set_cons_succ]
    refine wpAnyH_take (i := 10) (v := .agg #[.bool sa, .slice Aa na ca, .slice Ba ma ea]) rfl (by kernel_rfl) (by kernel_rfl) (by kernel_rfl) (fun _ _ _ h => h) (Or.inl ⟨by kernel_rfl, by (intro w hSw; (try dsimp only at hSw); go_simp)⟩) hHeld ?_
    try simp only [Act.put, List.getElem_toArray, List.getElem_cons_succ, List.getElem_cons_zero, List.setIfInBounds_toArray, List.set_cons_zero, List.set_cons_succ]
    refine wpAnyH_take (i := 11) (v := .agg #[.bool sa, .slice Aa na ca, .slice Ba ma ea]) rfl (by kernel_rfl) (by kernel_rfl) (by kernel_rfl) (fun _ _ _ h => h) (Or.inl ⟨by kernel_rfl, by (intro w hSw; (try dsimp only at hSw); go_simp)⟩) hHeld ?_
    try simp only [Act.put, List.getElem_toArray, List.getElem_cons_succ, List.getElem_cons_zero, List.setIfInBounds_toArray, List.set_cons_zero, List.set_cons_succ]
    refine wpAnyH_ready (rs := [12]) (by kernel_rfl) (by simp) ?_
    refine AllReadyH.cons rfl (fun K hK => ?_) AllReadyH.nil
    go_simp
    refine (CmpQ _ _ _ _ 6 _ ha ha (by decide)).mono ?_
    rintro e v6 ⟨rfl, hc6⟩
    rw [cq_self]
    have hB := hB.trans (hc6.mono hB.size)
    have ha := ha.below hc6
    have hb := hb.below hc6
    have hc := hc.below hc6
    have q3 := q3.below hc6
    have q4 := q4.below hc6
    go_wp2_with fail
    refine hK.out _ _ ?_ (fun hHeld => ?_)
    · exact hKeep.out _ hB
    clear hK K
    try simp only [Act.put, List.getElem_toArray, List.getElem_cons_succ, List.getElem_cons_zero, List.setIfInBounds_toArray, List.set_cons_zero, List.set_cons_succ]
    refine wpAnyH_take (i := 13) (v := .bool false) rfl (by kernel_rfl) (by kernel_rfl) (by kernel_rfl) (fun _ _ _ h => h) (Or.inl ⟨by kernel_rfl, by (intro w hSw; (try dsimp only at hSw); go_simp)⟩) hHeld ?_
    try simp only [Act.put, List.getElem_toArray, List.getElem_cons_succ, List.getElem_cons_zero, List.setIfInBounds_toArray, List.set_cons_zero, List.set_cons_succ]
    refine wpAnyH_take (i := 14) (v := .bool false) rfl (by kernel_rfl) (by kernel_rfl) (by kernel_rfl) (fun _ _ _ h => h) (Or.inl ⟨by kernel_rfl, by (intro w hSw; (try dsimp only at hSw); go_simp)⟩) hHeld ?_
    try simp only [Act.put, List.getElem_toArray, List.getElem_cons_succ, List.getElem_cons_zero, List.setIfInBounds_toArray, List.set_cons_zero, List.set_cons_succ]
    refine wpAnyH_done (by kernel_rfl) ?_ _
    have hw := hw.trans (hB.mono hw.size)
    have Xa := Xa.below hB
    have Xb := Xb.below hB
    have Xc := Xc.below hB
    go_upto_region 8 with fail
    have ka_0 : v6.cell? ⟨w.heap.size, 0, none⟩ = some (.bool sa) := Xa.cell 0
    have ka_1 : v6.cell? ⟨w.heap.size, 1, none⟩ = some (.slice Aa na ca) := Xa.cell 1
    have ka_2 : v6.cell? ⟨w.heap.size, 2, none⟩ = some (.slice Ba ma ea) := Xa.cell 2
    have kb_0 : v6.cell? ⟨w.heap.size + 1, 0, none⟩ = some (.bool sb) := Xb.cell 0
    have kb_1 : v6.cell? ⟨w.heap.size + 1, 1, none⟩ = some (.slice Ab nb cb) := Xb.cell 1
    have kb_2 : v6.cell? ⟨w.heap.size + 1, 2, none⟩ = some (.slice Bb mb eb) := Xb.cell 2
    have kc_0 : v6.cell? ⟨w.heap.size + 1 + 1, 0, none⟩ = some (.bool sc) := Xc.cell 0
    have kc_1 : v6.cell? ⟨w.heap.size + 1 + 1, 1, none⟩ = some (.slice Ac nc cc) := Xc.cell 1
    have kc_2 : v6.cell? ⟨w.heap.size + 1 + 1, 2, none⟩ = some (.slice Bc mc ec) := Xc.cell 2
    have hKeep := Lib.hid (fun (wx : World) (hb : Below v6.heap.size v6 wx) => (⟨(hb.cell (World.block_lt_of_cell? _ _ ka_0)).trans ka_0, (hb.cell (World.block_lt_of_cell? _ _ ka_1)).trans ka_1, (hb.cell (World.block_lt_of_cell? _ _ ka_2)).trans ka_2, (hb.cell (World.block_lt_of_cell? _ _ kb_0)).trans kb_0, (hb.cell (World.block_lt_of_cell? _ _ kb_1)).trans kb_1, (hb.cell (World.block_lt_of_cell? _ _ kb_2)).trans kb_2, (hb.cell (World.block_lt_of_cell? _ _ kc_0)).trans kc_0, (hb.cell (World.block_lt_of_cell? _ _ kc_1)).trans kc_1, (hb.cell (World.block_lt_of_cell? _ _ kc_2)).trans kc_2⟩ : wx.cell? ⟨w.heap.size, 0, none⟩ = some (.bool sa) ∧ wx.cell? ⟨w.heap.size, 1, none⟩ = some (.slice Aa na ca) ∧ wx.cell? ⟨w.heap.size, 2, none⟩ = some (.slice Ba ma ea) ∧ wx.cell? ⟨w.heap.size + 1, 0, none⟩ = some (.bool sb) ∧ wx.cell? ⟨w.heap.size + 1, 1, none⟩ = some (.slice Ab nb cb) ∧ wx.cell? ⟨w.heap.size + 1, 2, none⟩ = some (.slice Bb mb eb) ∧ wx.cell? ⟨w.heap.size + 1 + 1, 0, none⟩ = some (.bool sc) ∧ wx.cell? ⟨w.heap.size + 1 + 1, 1, none⟩ = some (.slice Ac nc cc) ∧ wx.cell? ⟨w.heap.size + 1 + 1, 2, none⟩ = some (.slice Bc mc ec)))
    clear ka_0 ka_1 ka_2 kb_0 kb_1 kb_2 kc_0 kc_1 kc_2
    have hB := bel_drewN (Below.refl v6.heap.size v6) 1
    have ha := ha.below hB
    have hb := hb.below hB
    have hc := hc.below hB
    have q3 := q3.below hB
    have q4 := q4.below hB
    refine wp_region_held_drew (S := (fun wx => wx.cell? ⟨w.heap.size, 0, none⟩ = some (.bool sa) ∧ wx.cell? ⟨w.heap.size, 1, none⟩ = some (.slice Aa na ca) ∧ wx.cell? ⟨w.heap.size, 2, none⟩ = some (.slice Ba ma ea) ∧ wx.cell? ⟨w.heap.size + 1, 0, none⟩ = some (.bool sb) ∧ wx.cell? ⟨w.heap.size + 1, 1, none⟩ = some (.slice Ab nb cb) ∧ wx.cell? ⟨w.heap.size + 1, 2, none⟩ = some (.slice Bb mb eb) ∧ wx.cell? ⟨w.heap.size + 1 + 1, 0, none⟩ = some (.bool sc) ∧ wx.cell? ⟨w.heap.size + 1 + 1, 1, none⟩ = some (.slice Ac nc cc) ∧ wx.cell? ⟨w.heap.size + 1 + 1, 2, none⟩ = some (.slice Bc mc ec))) (by kernel_rfl) (hKeep.out _ hB) (fun hHeld => ?_)
    refine wpAnyH_take (i := 0) (v := .agg #[.bool sa, .slice Aa na ca, .slice Ba ma ea]) rfl (by kernel_rfl) (by kernel_rfl) (by kernel_rfl) (fun _ _ _ h => h) (Or.inl ⟨by kernel_rfl, by (intro w hSw; (try dsimp only at hSw); go_simp)⟩) hHeld ?_
    try simp only [Act.put, List.getElem_toArray, List.getElem_cons_succ, List.getElem_cons_zero, List.setIfInBounds_toArray, List.set_cons_zero, List.set_cons_succ]
    refine wpAnyH_take (i := 1) (v := .agg #[.bool sc, .slice Ac nc cc, .slice Bc mc ec]) rfl (by kernel_rfl) (by kernel_rfl) (by kernel_rfl) (fun _ _ _ h => h) (Or.inl ⟨by kernel_rfl, by (intro w hSw; (try dsimp only at hSw); go_simp)⟩) hHeld ?_
    try simp only [Act.put, List.getElem_toArray, List.getElem_cons_succ, List.getElem_cons_zero, List.setIfInBounds_toArray, List.set_cons_zero, List.set_cons_succ]
    refine wpAnyH_take (i := 3) (v := .agg #[.bool sb, .slice Ab nb cb, .slice Bb mb eb]) rfl (by kernel_rfl) (by kernel_rfl) (by kernel_rfl) (fun _ _ _ h => h) (Or.inl ⟨by kernel_rfl, by (intro w hSw; (try dsimp only at hSw); go_simp)⟩) hHeld ?_
    try simp only [Act.put, List.getElem_toArray, List.getElem_cons_succ, List.getElem_cons_zero, List.setIfInBounds_toArray, List.set_cons_zero, List.set_cons_succ]
    refine wpAnyH_take (i := 4) (v := .agg #[.bool sc, .slice Ac nc cc, .slice Bc mc ec]) rfl (by kernel_rfl) (by kernel_rfl) (by kernel_rfl) (fun _ _ _ h => h) (Or.inl ⟨by kernel_rfl, by (intro w hSw; (try dsimp only at hSw); go_simp)⟩) hHeld ?_
    try simp only [Act.put, List.getElem_toArray, List.getElem_cons_succ, List.getElem_cons_zero, List.setIfInBounds_toArray, List.set_cons_zero, List.set_cons_succ]
    refine wpAnyH_take (i := 7) (v := .int .i64 za) rfl (by kernel_rfl) (by kernel_rfl) (by kernel_rfl) (fun _ _ _ h => h) (Or.inl ⟨by kernel_rfl, by (intro w hSw; (try dsimp only at hSw); go_simp)⟩) hHeld ?_
    try simp only [Act.put, List.getElem_toArray, List.getElem_cons_succ, List.getElem_cons_zero, List.setIfInBounds_toArray, List.set_cons_zero, List.set_cons_succ]
    refine wpAnyH_take (i := 8) (v := .agg #[.bool sc, .slice Ac nc cc, .slice Bc mc ec]) rfl (by kernel_rfl) (by kernel_rfl) (by kernel_rfl) (fun _ _ _ h => h) (Or.inl ⟨by kernel_rfl, by (intro w hSw; (try dsimp only at hSw); go_simp)⟩) hHeld ?_
    try simp only [Act.put, List.getElem_toArray, List.getElem_cons_succ, List.getElem_cons_zero, List.setIfInBounds_toArray, List.set_cons_zero, List.set_cons_succ]
    refine wpAnyH_ready (rs := [2]) (by kernel_rfl) (by simp) ?_
    refine AllReadyH.cons rfl (fun K hK => ?_) AllReadyH.nil
    go_simp
    refine (mulQ _ _ _ _ 6 _ ha hc (by decide)).mono ?_
    rintro e v7 ⟨_, rfl, q7, hc7⟩
    have q7 := q7.le (show _ ≤ 52 by decide)
    obtain ⟨s7, A7, m7, c7, B7, n7, d7, rfl⟩ := q7.form
    have hB := hB.trans (hc7.mono hB.size)
    have ha := ha.below hc7
    have hb := hb.below hc7
    have hc := hc.below hc7
    have q3 := q3.below hc7
    have q4 := q4.below hc7
    go_wp2_with fail
    refine hK.out _ _ ?_ (fun hHeld => ?_)
    · exact hKeep.out _ hB
    clear hK K
    try simp only [Act.put, List.getElem_toArray, List.getElem_cons_succ, List.getElem_cons_zero, List.setIfInBounds_toArray, List.set_cons_zero, List.set_cons_succ]
    refine wpAnyH_ready (rs := [5]) (by kernel_rfl) (by simp) ?_
    refine AllReadyH.cons rfl (fun K hK => ?_) AllReadyH.nil
    go_simp
    refine (mulQ _ _ _ _ 6 _ hb hc (by decide)).mono ?_
    rintro e v8 ⟨_, rfl, q8, hc8⟩
    have q8 := q8.le (show _ ≤ 52 by decide)
    obtain ⟨s8, A8, m8, c8, B8, n8, d8, rfl⟩ := q8.form
    have hB := hB.trans (hc8.mono hB.size)
    have ha := ha.below hc8
    have hb := hb.below hc8
    have hc := hc.below hc8
    have q3 := q3.below hc8
    have q4 := q4.below hc8
    have q7 := q7.below hc8
    go_wp2_with fail
    refine hK.out _ _ ?_ (fun hHeld => ?_)
    · exact hKeep.out _ hB
    clear hK K
    try simp only [Act.put, List.getElem_toArray, List.getElem_cons_succ, List.getElem_cons_zero, List.setIfInBounds_toArray, List.set_cons_zero, List.set_cons_succ]
    refine wpAnyH_ready (rs := [6]) (by kernel_rfl) (by simp) ?_
    refine AllReadyH.cons rfl (fun K hK => ?_) AllReadyH.nil
    go_simp
    refine (CmpQ _ _ _ _ 52 _ q7.af q8.af (by decide)).mono ?_
    rintro e v9 ⟨rfl, hc9⟩
    rw [hmul.out]
    have hB := hB.trans (hc9.mono hB.size)
    have ha := ha.below hc9
    have hb := hb.below hc9
    have hc := hc.below hc9
    have q3 := q3.below hc9
    have q4 := q4.below hc9
    have q7 := q7.below hc9
    have q8 := q8.below hc9
    go_wp2_with fail
    refine hK.out _ _ ?_ (fun hHeld => ?_)
    · exact hKeep.out _ hB
    clear hK K
    try simp only [Act.put, List.getElem_toArray, List.getElem_cons_succ, List.getElem_cons_zero, List.setIfInBounds_toArray, List.set_cons_zero, List.set_cons_succ]
    refine wpAnyH_ready (rs := [9]) (by kernel_rfl) (by simp) ?_
    refine AllReadyH.cons rfl (fun K hK => ?_) AllReadyH.nil
    go_simp
    refine (SignQ _ _ 6 _ hc (by decide)).mono ?_
    rintro e v10 ⟨rfl, hc10⟩
    rw [hsc.out]
    have hB := hB.trans (hc10.mono hB.size)
    have ha := ha.below hc10
    have hb := hb.below hc10
    have hc := hc.below hc10
    have q3 := q3.below hc10
    have q4 := q4.below hc10
    have q7 := q7.below hc10
    have q8 := q8.below hc10
    go_wp2_with fail
    refine hK.out _ _ ?_ (fun hHeld => ?_)
    · exact hKeep.out _ hB
    clear hK K
    try simp only [Act.put, List.getElem_toArray, List.getElem_cons_succ, List.getElem_cons_zero, List.setIfInBounds_toArray, List.set_cons_zero, List.set_cons_succ]
    refine wpAnyH_take (i := 10) (v := .int .i64 pm) rfl (by kernel_rfl) (by kernel_rfl) (by kernel_rfl) (fun _ _ _ h => h) (Or.inl ⟨by kernel_rfl, by (intro w hSw; (try dsimp only at hSw); go_simp)⟩) hHeld ?_
    try simp only [Act.put, List.getElem_toArray, List.getElem_cons_succ, List.getElem_cons_zero, List.setIfInBounds_toArray, List.set_cons_zero, List.set_cons_succ]
    refine wpAnyH_take (i := 11) (v := .bool false) rfl (by kernel_rfl) (by kernel_rfl) (by kernel_rfl) (fun _ _ _ h => h) (Or.inl ⟨by kernel_rfl, by (intro w hSw; (try dsimp only at hSw); go_simp)⟩) hHeld ?_
    try simp only [Act.put, List.getElem_toArray, List.getElem_cons_succ, List.getElem_cons_zero, List.setIfInBounds_toArray, List.set_cons_zero, List.set_cons_succ]
    refine wpAnyH_done (by kernel_rfl) ?_ _
    have hw := hw.trans (hB.mono hw.size)
    have Xa := Xa.below hB
    have Xb := Xb.below hB
    have Xc := Xc.below hB
    go_upto_region 10 with fail
    have ka_0 : v10.cell? ⟨w.heap.size, 0, none⟩ = some (.bool sa) := Xa.cell 0
    have ka_1 : v10.cell? ⟨w.heap.size, 1, none⟩ = some (.slice Aa na ca) := Xa.cell 1
    have ka_2 : v10.cell? ⟨w.heap.size, 2, none⟩ = some (.slice Ba ma ea) := Xa.cell 2
    have kb_0 : v10.cell? ⟨w.heap.size + 1, 0, none⟩ = some (.bool sb) := Xb.cell 0
    have kb_1 : v10.cell? ⟨w.heap.size + 1, 1, none⟩ = some (.slice Ab nb cb) := Xb.cell 1
    have kb_2 : v10.cell? ⟨w.heap.size + 1, 2, none⟩ = some (.slice Bb mb eb) := Xb.cell 2
    have kc_0 : v10.cell? ⟨w.heap.size + 1 + 1, 0, none⟩ = some (.bool sc) := Xc.cell 0
    have kc_1 : v10.cell? ⟨w.heap.size + 1 + 1, 1, none⟩ = some (.slice Ac nc cc) := Xc.cell 1
    have kc_2 : v10.cell? ⟨w.heap.size + 1 + 1, 2, none⟩ = some (.slice Bc mc ec) := Xc.cell 2
    have hKeep := Lib.hid (fun (wx : World) (hb : Below v10.heap.size v10 wx) => (⟨(hb.cell (World.block_lt_of_cell? _ _ ka_0)).trans ka_0, (hb.cell (World.block_lt_of_cell? _ _ ka_1)).trans ka_1, (hb.cell (World.block_lt_of_cell? _ _ ka_2)).trans ka_2, (hb.cell (World.block_lt_of_cell? _ _ kb_0)).trans kb_0, (hb.cell (World.block_lt_of_cell? _ _ kb_1)).trans kb_1, (hb.cell (World.block_lt_of_cell? _ _ kb_2)).trans kb_2, (hb.cell (World.block_lt_of_cell? _ _ kc_0)).trans kc_0, (hb.cell (World.block_lt_of_cell? _ _ kc_1)).trans kc_1, (hb.cell (World.block_lt_of_cell? _ _ kc_2)).trans kc_2⟩ : wx.cell? ⟨w.heap.size, 0, none⟩ = some (.bool sa) ∧ wx.cell? ⟨w.heap.size, 1, none⟩ = some (.slice Aa na ca) ∧ wx.cell? ⟨w.heap.size, 2, none⟩ = some (.slice Ba ma ea) ∧ wx.cell? ⟨w.heap.size + 1, 0, none⟩ = some (.bool sb) ∧ wx.cell? ⟨w.heap.size + 1, 1, none⟩ = some (.slice Ab nb cb) ∧ wx.cell? ⟨w.heap.size + 1, 2, none⟩ = some (.slice Bb mb eb) ∧ wx.cell? ⟨w.heap.size + 1 + 1, 0, none⟩ = some (.bool sc) ∧ wx.cell? ⟨w.heap.size + 1 + 1, 1, none⟩ = some (.slice Ac nc cc) ∧ wx.cell? ⟨w.heap.size + 1 + 1, 2, none⟩ = some (.slice Bc mc ec)))
    clear ka_0 ka_1 ka_2 kb_0 kb_1 kb_2 kc_0 kc_1 kc_2
    have hB := bel_drewN (Below.refl v10.heap.size v10) 1
    have ha := ha.below hB
    have hb := hb.below hB
    have hc := hc.below hB
    have q3 := q3.below hB
    have q4 := q4.below hB
    have q7 := q7.below hB
    have q8 := q8.below hB
    refine wp_region_held_drew (S := (fun wx => wx.cell? ⟨w.heap.size, 0, none⟩ = some (.bool sa) ∧ wx.cell? ⟨w.heap.size, 1, none⟩ = some (.slice Aa na ca) ∧ wx.cell? ⟨w.heap.size, 2, none⟩ = some (.slice Ba ma ea) ∧ wx.cell? ⟨w.heap.size + 1, 0, none⟩ = some (.bool sb) ∧ wx.cell? ⟨w.heap.size + 1, 1, none⟩ = some (.slice Ab nb cb) ∧ wx.cell? ⟨w.heap.size + 1, 2, none⟩ = some (.slice Bb mb eb) ∧ wx.cell? ⟨w.heap.size + 1 + 1, 0, none⟩ = some (.bool sc) ∧ wx.cell? ⟨w.heap.size + 1 + 1, 1, none⟩ = some (.slice Ac nc cc) ∧ wx.cell? ⟨w.heap.size + 1 + 1, 2, none⟩ = some (.slice Bc mc ec))) (by kernel_rfl) (hKeep.out _ hB) (fun hHeld => ?_)
    refine wpAnyH_take (i := 0) (v := .int .i64 za) rfl (by kernel_rfl) (by kernel_rfl) (by kernel_rfl) (fun _ _ _ h => h) (Or.inl ⟨by kernel_rfl, by (intro w hSw; (try dsimp only at hSw); go_simp)⟩) hHeld ?_
    try simp only [Act.put, List.getElem_toArray, List.getElem_cons_succ, List.getElem_cons_zero, List.setIfInBounds_toArray, List.set_cons_zero, List.set_cons_succ]
    refine wpAnyH_take (i := 1) (v := .bool be) rfl (by kernel_rfl) (by kernel_rfl) (by kernel_rfl) (fun _ _ _ h => h) (Or.inl ⟨by kernel_rfl, by (intro w hSw; (try dsimp only at hSw); go_simp)⟩) hHeld ?_
    try simp only [Act.put, List.getElem_toArray, List.getElem_cons_succ, List.getElem_cons_zero, List.setIfInBounds_toArray, List.set_cons_zero, List.set_cons_succ]
    refine wpAnyH_take (i := 2) (v := .agg #[.bool sa, .slice Aa na ca, .slice Ba ma ea]) rfl (by kernel_rfl) (by kernel_rfl) (by kernel_rfl) (fun _ _ _ h => h) (Or.inl ⟨by kernel_rfl, by (intro w hSw; (try dsimp only at hSw); go_simp)⟩) hHeld ?_
    try simp only [Act.put, List.getElem_toArray, List.getElem_cons_succ, List.getElem_cons_zero, List.setIfInBounds_toArray, List.set_cons_zero, List.set_cons_succ]
    refine wpAnyH_take (i := 4) (v := .agg #[.bool sb, .slice Ab nb cb, .slice Bb mb eb]) rfl (by kernel_rfl) (by kernel_rfl) (by kernel_rfl) (fun _ _ _ h => h) (Or.inl ⟨by kernel_rfl, by (intro w hSw; (try dsimp only at hSw); go_simp)⟩) hHeld ?_
    try simp only [Act.put, List.getElem_toArray, List.getElem_cons_succ, List.getElem_cons_zero, List.setIfInBounds_toArray, List.set_cons_zero, List.set_cons_succ]
    refine wpAnyH_ready (rs := [3]) (by kernel_rfl) (by simp) ?_
    refine AllReadyH.cons rfl (fun K hK => ?_) AllReadyH.nil
    go_simp
    refine (canonQ _ _ 6 _ ha (by decide)).mono ?_
    rintro e v11 ⟨_, rfl, q11, hc11⟩
    have q11 := q11.le (show _ ≤ 26 by decide)
    obtain ⟨s11, A11, m11, c11, B11, n11, d11, rfl⟩ := q11.form
    have hB := hB.trans (hc11.mono hB.size)
    have ha := ha.below hc11
    have hb := hb.below hc11
    have hc := hc.below hc11
    have q3 := q3.below hc11
    have q4 := q4.below hc11
    have q7 := q7.below hc11
    have q8 := q8.below hc11
    go_wp2_with fail
    refine hK.out _ _ ?_ (fun hHeld => ?_)
    · exact hKeep.out _ hB
    clear hK K
    try simp only [Act.put, List.getElem_toArray, List.getElem_cons_succ, List.getElem_cons_zero, List.setIfInBounds_toArray, List.set_cons_zero, List.set_cons_succ]
    refine wpAnyH_ready (rs := [5]) (by kernel_rfl) (by simp) ?_
    refine AllReadyH.cons rfl (fun K hK => ?_) AllReadyH.nil
    go_simp
    refine (canonQ _ _ 6 _ hb (by decide)).mono ?_
    rintro e v12 ⟨_, rfl, q12, hc12⟩
    have q12 := q12.le (show _ ≤ 26 by decide)
    obtain ⟨s12, A12, m12, c12, B12, n12, d12, rfl⟩ := q12.form
    have hB := hB.trans (hc12.mono hB.size)
    have ha := ha.below hc12
    have hb := hb.below hc12
    have hc := hc.below hc12
    have q3 := q3.below hc12
    have q4 := q4.below hc12
    have q7 := q7.below hc12
    have q8 := q8.below hc12
    have q11 := q11.below hc12
    go_wp2_with fail
    refine hK.out _ _ ?_ (fun hHeld => ?_)
    · exact hKeep.out _ hB
    clear hK K
    try simp only [Act.put, List.getElem_toArray, List.getElem_cons_succ, List.getElem_cons_zero, List.setIfInBounds_toArray, List.set_cons_zero, List.set_cons_succ]
    refine wpAnyH_ready (rs := [6]) (by kernel_rfl) (by simp) ?_
    refine AllReadyH.cons rfl (fun K hK => ?_) AllReadyH.nil
    go_simp
    refine (sameQ _ _ qa qb _ _ _ q11 q12).mono ?_
    rintro e v13 ⟨rfl, hc13⟩
    rw [hbe.out]
    have hB := hB.trans (hc13.mono hB.size)
    have ha := ha.below hc13
    have hb := hb.below hc13
    have hc := hc.below hc13
    have q3 := q3.below hc13
    have q4 := q4.below hc13
    have q7 := q7.below hc13
    have q8 := q8.below hc13
    have q11 := q11.below hc13
    have q12 := q12.below hc13
    go_wp2_with fail
    refine hK.out _ _ ?_ (fun hHeld => ?_)
    · exact hKeep.out _ hB
    clear hK K
    try simp only [Act.put, List.getElem_toArray, List.getElem_cons_succ, List.getElem_cons_zero, List.setIfInBounds_toArray, List.set_cons_zero, List.set_cons_succ]
    refine wpAnyH_take (i := 7) (v := .bool true) rfl (by kernel_rfl) (by kernel_rfl) (by kernel_rfl) (fun _ _ _ h => h) (Or.inl ⟨by kernel_rfl, by (intro w hSw; (try dsimp only at hSw); go_simp)⟩) hHeld ?_
    try simp only [Act.put, List.getElem_toArray, List.getElem_cons_succ, List.getElem_cons_zero, List.setIfInBounds_toArray, List.set_cons_zero, List.set_cons_succ]
    refine wpAnyH_take (i := 8) (v := .bool true) rfl (by kernel_rfl) (by kernel_rfl) (by kernel_rfl) (fun _ _ _ h => h) (Or.inl ⟨by kernel_rfl, by (intro w hSw; (try dsimp only at hSw); go_simp)⟩) hHeld ?_
    try simp only [Act.put, List.getElem_toArray, List.getElem_cons_succ, List.getElem_cons_zero, List.setIfInBounds_toArray, List.set_cons_zero, List.set_cons_succ]
    refine wpAnyH_ready (rs := [9]) (by kernel_rfl) (by simp) ?_
    refine AllReadyH.cons rfl (fun K hK => ?_) AllReadyH.nil
    go_simp
    refine (known_true _ (hG.out.below (hw.trans (hB.mono hw.size)))).mono ?_
    rintro e v14 ⟨rfl, hc14⟩
    have hB := hB.trans (hc14.mono hB.size)
    have ha := ha.below hc14
    have hb := hb.below hc14
    have hc := hc.below hc14
    have q3 := q3.below hc14
    have q4 := q4.below hc14
    have q7 := q7.below hc14
    have q8 := q8.below hc14
    have q11 := q11.below hc14
    have q12 := q12.below hc14
    go_wp2_with fail
    refine hK.out _ _ ?_ (fun hHeld => ?_)
    · exact hKeep.out _ hB
    clear hK K
    try simp only [Act.put, List.getElem_toArray, List.getElem_cons_succ, List.getElem_cons_zero, List.setIfInBounds_toArray, List.set_cons_zero, List.set_cons_succ]
    refine wpAnyH_take (i := 10) (v := .bool true) rfl (by kernel_rfl) (by kernel_rfl) (by kernel_rfl) (fun _ _ _ h => h) (Or.inl ⟨by kernel_rfl, by (intro w hSw; (try dsimp only at hSw); go_simp)⟩) hHeld ?_
    try simp only [Act.put, List.getElem_toArray, List.getElem_cons_succ, List.getElem_cons_zero, List.setIfInBounds_toArray, List.set_cons_zero, List.set_cons_succ]
    refine wpAnyH_take (i := 11) (v := .bool true) rfl (by kernel_rfl) (by kernel_rfl) (by kernel_rfl) (fun _ _ _ h => h) (Or.inl ⟨by kernel_rfl, by (intro w hSw; (try dsimp only at hSw); go_simp)⟩) hHeld ?_
    try simp only [Act.put, List.getElem_toArray, List.getElem_cons_succ, List.getElem_cons_zero, List.setIfInBounds_toArray, List.set_cons_zero, List.set_cons_succ]
    refine wpAnyH_done (by kernel_rfl) ?_ _
    have hw := hw.trans (hB.mono hw.size)
    have Xa := Xa.below hB
    have Xb := Xb.below hB
    have Xc := Xc.below hB
    go_wp2
    go_ret
    exact ⟨rfl, hw⟩
  have hd2 : decide (zb ≤ 0) = true := decide_eq_true hp2
  have ka0 : v2.cell? ⟨w.heap.size, 0, none⟩ = some (.bool sa) := Xa.cell 0
  have ka1 : v2.cell? ⟨w.heap.size, 1, none⟩ = some (.slice Aa na ca) := Xa.cell 1
  have ka2 : v2.cell? ⟨w.heap.size, 2, none⟩ = some (.slice Ba ma ea) := Xa.cell 2
  have kb0 : v2.cell? ⟨w.heap.size + 1, 0, none⟩ = some (.bool sb) := Xb.cell 0
  have kb1 : v2.cell? ⟨w.heap.size + 1, 1, none⟩ = some (.slice Ab nb cb) := Xb.cell 1
  have kb2 : v2.cell? ⟨w.heap.size + 1, 2, none⟩ = some (.slice Bb mb eb) := Xb.cell 2
  have kc0 : v2.cell? ⟨w.heap.size + 1 + 1, 0, none⟩ = some (.bool sc) := Xc.cell 0
  have kc1 : v2.cell? ⟨w.heap.size + 1 + 1, 1, none⟩ = some (.slice Ac nc cc) := Xc.cell 1
  have kc2 : v2.cell? ⟨w.heap.size + 1 + 1, 2, none⟩ = some (.slice Bc mc ec) := Xc.cell 2
  go_wp2_with fail
  clear ka0 ka1 ka2 kb0 kb1 kb2 kc0 kc1 kc2
  refine (CmpQ _ _ qa qc 6 _ ha hc (by decide)).mono ?_
  rintro e v3 ⟨rfl, hc3⟩
  rw [hzzc.out]
  have hw := hw.trans (hc3.mono hw.size)
  have hB := Below.refl v3.heap.size v3
  have ha := ha.below hc3
  have hb := hb.below hc3
  have hc := hc.below hc3
  have Xa := Xa.below hc3
  have Xb := Xb.below hc3
  have Xc := Xc.below hc3
  have hd3 : decide (0 < zc) = false := decide_eq_false (by have := htr.out hp1 hp2; omega)
  go_upto_region 6 with fail
  clear hd1 hd2 hd3
  have ka_0 : v3.cell? ⟨w.heap.size, 0, none⟩ = some (.bool sa) := Xa.cell 0
  have ka_1 : v3.cell? ⟨w.heap.size, 1, none⟩ = some (.slice Aa na ca) := Xa.cell 1
  have ka_2 : v3.cell? ⟨w.heap.size, 2, none⟩ = some (.slice Ba ma ea) := Xa.cell 2
  have kb_0 : v3.cell? ⟨w.heap.size + 1, 0, none⟩ = some (.bool sb) := Xb.cell 0
  have kb_1 : v3.cell? ⟨w.heap.size + 1, 1, none⟩ = some (.slice Ab nb cb) := Xb.cell 1
  have kb_2 : v3.cell? ⟨w.heap.size + 1, 2, none⟩ = some (.slice Bb mb eb) := Xb.cell 2
  have kc_0 : v3.cell? ⟨w.heap.size + 1 + 1, 0, none⟩ = some (.bool sc) := Xc.cell 0
  have kc_1 : v3.cell? ⟨w.heap.size + 1 + 1, 1, none⟩ = some (.slice Ac nc cc) := Xc.cell 1
  have kc_2 : v3.cell? ⟨w.heap.size + 1 + 1, 2, none⟩ = some (.slice Bc mc ec) := Xc.cell 2
  have hKeep := Lib.hid (fun (wx : World) (hb : Below v3.heap.size v3 wx) => (⟨(hb.cell (World.block_lt_of_cell? _ _ ka_0)).trans ka_0, (hb.cell (World.block_lt_of_cell? _ _ ka_1)).trans ka_1, (hb.cell (World.block_lt_of_cell? _ _ ka_2)).trans ka_2, (hb.cell (World.block_lt_of_cell? _ _ kb_0)).trans kb_0, (hb.cell (World.block_lt_of_cell? _ _ kb_1)).trans kb_1, (hb.cell (World.block_lt_of_cell? _ _ kb_2)).trans kb_2, (hb.cell (World.block_lt_of_cell? _ _ kc_0)).trans kc_0, (hb.cell (World.block_lt_of_cell? _ _ kc_1)).trans kc_1, (hb.cell (World.block_lt_of_cell? _ _ kc_2)).trans kc_2⟩ : wx.cell? ⟨w.heap.size, 0, none⟩ = some (.bool sa) ∧ wx.cell? ⟨w.heap.size, 1, none⟩ = some (.slice Aa na ca) ∧ wx.cell? ⟨w.heap.size, 2, none⟩ = some (.slice Ba ma ea) ∧ wx.cell? ⟨w.heap.size + 1, 0, none⟩ = some (.bool sb) ∧ wx.cell? ⟨w.heap.size + 1, 1, none⟩ = some (.slice Ab nb cb) ∧ wx.cell? ⟨w.heap.size + 1, 2, none⟩ = some (.slice Bb mb eb) ∧ wx.cell? ⟨w.heap.size + 1 + 1, 0, none⟩ = some (.bool sc) ∧ wx.cell? ⟨w.heap.size + 1 + 1, 1, none⟩ = some (.slice Ac nc cc) ∧ wx.cell? ⟨w.heap.size + 1 + 1, 2, none⟩ = some (.slice Bc mc ec)))
  clear ka_0 ka_1 ka_2 kb_0 kb_1 kb_2 kc_0 kc_1 kc_2
  have hB := bel_drewN (Below.refl v3.heap.size v3) 1
  have ha := ha.below hB
  have hb := hb.below hB
  have hc := hc.below hB
  refine wp_region_held_drew (S := (fun wx => wx.cell? ⟨w.heap.size, 0, none⟩ = some (.bool sa) ∧ wx.cell? ⟨w.heap.size, 1, none⟩ = some (.slice Aa na ca) ∧ wx.cell? ⟨w.heap.size, 2, none⟩ = some (.slice Ba ma ea) ∧ wx.cell? ⟨w.heap.size + 1, 0, none⟩ = some (.bool sb) ∧ wx.cell? ⟨w.heap.size + 1, 1, none⟩ = some (.slice Ab nb cb) ∧ wx.cell? ⟨w.heap.size + 1, 2, none⟩ = some (.slice Bb mb eb) ∧ wx.cell? ⟨w.heap.size + 1 + 1, 0, none⟩ = some (.bool sc) ∧ wx.cell? ⟨w.heap.size + 1 + 1, 1, none⟩ = some (.slice Ac nc cc) ∧ wx.cell? ⟨w.heap.size + 1 + 1, 2, none⟩ = some (.slice Bc mc ec))) (by kernel_rfl) (hKeep.out _ hB) (fun hHeld => ?_)
  refine wpAnyH_take (i := 0) (v := .agg #[.bool sa, .slice Aa na ca, .slice Ba ma ea]) rfl (by kernel_rfl) (by kernel_rfl) (by kernel_rfl) (fun _ _ _ h => h) (Or.inl ⟨by kernel_rfl, by (intro w hSw; (try dsimp only at hSw); go_simp)⟩) hHeld ?_
  try simp only [Act.put, List.getElem_toArray, List.getElem_cons_succ, List.getElem_cons_zero, List.setIfInBounds_toArray, List.set_cons_zero, List.set_cons_succ]
  refine wpAnyH_take (i := 1) (v := .agg #[.bool sc, .slice Ac nc cc, .slice Bc mc ec]) rfl (by kernel_rfl) (by kernel_rfl) (by kernel_rfl) (fun _ _ _ h => h) (Or.inl ⟨by kernel_rfl, by (intro w hSw; (try dsimp only at hSw); go_simp)⟩) hHeld ?_
  try simp only [Act.put, List.getElem_toArray, List.getElem_cons_succ, List.getElem_cons_zero, List.setIfInBounds_toArray, List.set_cons_zero, List.set_cons_succ]
  refine wpAnyH_take (i := 3) (v := .agg #[.bool sb, .slice Ab nb cb, .slice Bb mb eb]) rfl (by kernel_rfl) (by kernel_rfl) (by kernel_rfl) (fun _ _ _ h => h) (Or.inl ⟨by kernel_rfl, by (intro w hSw; (try dsimp only at hSw); go_simp)⟩) hHeld ?_
  try simp only [Act.put, List.getElem_toArray, List.getElem_cons_succ, List.getElem_cons_zero, List.setIfInBounds_toArray, List.set_cons_zero, List.set_cons_succ]
  refine wpAnyH_take (i := 4) (v := .agg #[.bool sc, .slice Ac nc cc, .slice Bc mc ec]) rfl (by kernel_rfl) (by kernel_rfl) (by kernel_rfl) (fun _ _ _ h => h) (Or.inl ⟨by kernel_rfl, by (intro w hSw; (try dsimp only at hSw); go_simp)⟩) hHeld ?_
  try simp only [Act.put, List.getElem_toArray, List.getElem_cons_succ, List.getElem_cons_zero, List.setIfInBounds_toArray, List.set_cons_zero, List.set_cons_succ]
  refine wpAnyH_take (i := 7) (v := .int .i64 za) rfl (by kernel_rfl) (by kernel_rfl) (by kernel_rfl) (fun _ _ _ h => h) (Or.inl ⟨by kernel_rfl, by (intro w hSw; (try dsimp only at hSw); go_simp)⟩) hHeld ?_
  try simp only [Act.put, List.getElem_toArray, List.getElem_cons_succ, List.getElem_cons_zero, List.setIfInBounds_toArray, List.set_cons_zero, List.set_cons_succ]
  refine wpAnyH_ready (rs := [2]) (by kernel_rfl) (by simp) ?_
  refine AllReadyH.cons rfl (fun K hK => ?_) AllReadyH.nil
  go_simp
  refine (addQ _ _ _ _ 6 _ ha hc (by decide)).mono ?_
  rintro e v4 ⟨_, rfl, q4, hc4⟩
  have q4 := q4.le (show _ ≤ 90 by decide)
  obtain ⟨s4, A4, m4, c4, B4, n4, d4, rfl⟩ := q4.form
  have hB := hB.trans (hc4.mono hB.size)
  have ha := ha.below hc4
  have hb := hb.below hc4
  have hc := hc.below hc4
  go_wp2_with fail
  refine hK.out _ _ ?_ (fun hHeld => ?_)
  · exact hKeep.out _ hB
  clear hK K
  try simp only [Act.put, List.getElem_toArray, List.getElem_cons_succ, List.getElem_cons_zero, List.setIfInBounds_toArray, List.set_cons_zero, List.set_cons_succ]
  refine wpAnyH_ready (rs := [5]) (by kernel_rfl) (by simp) ?_
  refine AllReadyH.cons rfl (fun K hK => ?_) AllReadyH.nil
  go_simp
  refine (addQ _ _ _ _ 6 _ hb hc (by decide)).mono ?_
  rintro e v5 ⟨_, rfl, q5, hc5⟩
  have q5 := q5.le (show _ ≤ 90 by decide)
  obtain ⟨s5, A5, m5, c5, B5, n5, d5, rfl⟩ := q5.form
  have hB := hB.trans (hc5.mono hB.size)
  have ha := ha.below hc5
  have hb := hb.below hc5
  have hc := hc.below hc5
  have q4 := q4.below hc5
  go_wp2_with fail
  refine hK.out _ _ ?_ (fun hHeld => ?_)
  · exact hKeep.out _ hB
  clear hK K
  try simp only [Act.put, List.getElem_toArray, List.getElem_cons_succ, List.getElem_cons_zero, List.setIfInBounds_toArray, List.set_cons_zero, List.set_cons_succ]
  refine wpAnyH_ready (rs := [6]) (by kernel_rfl) (by simp) ?_
  refine AllReadyH.cons rfl (fun K hK => ?_) AllReadyH.nil
  go_simp
  refine (CmpQ _ _ _ _ 90 _ q4.af q5.af (by decide)).mono ?_
  rintro e v6 ⟨rfl, hc6⟩
  rw [hadd.out]
  have hB := hB.trans (hc6.mono hB.size)
  have ha := ha.below hc6
  have hb := hb.below hc6
  have hc := hc.below hc6
  have q4 := q4.below hc6
  have q5 := q5.below hc6
  go_wp2_with fail
  refine hK.out _ _ ?_ (fun hHeld => ?_)
  · exact hKeep.out _ hB
  clear hK K
  try simp only [Act.put, List.getElem_toArray, List.getElem_cons_succ, List.getElem_cons_zero, List.setIfInBounds_toArray, List.set_cons_zero, List.set_cons_succ]
  refine wpAnyH_take (i := 8) (v := .bool false) rfl (by kernel_rfl) (by kernel_rfl) (by kernel_rfl) (fun _ _ _ h => h) (Or.inl ⟨by kernel_rfl, by (intro w hSw; (try dsimp only at hSw); go_simp)⟩) hHeld ?_
  try simp only [Act.put, List.getElem_toArray, List.getElem_cons_succ, List.getElem_cons_zero, List.setIfInBounds_toArray, List.set_cons_zero, List.set_cons_succ]
  refine wpAnyH_take (i := 9) (v := .bool false) rfl (by kernel_rfl) (by kernel_rfl) (by kernel_rfl) (fun _ _ _ h => h) (Or.inl ⟨by kernel_rfl, by (intro w hSw; (try dsimp only at hSw); go_simp)⟩) hHeld ?_
  try simp only [Act.put, List.getElem_toArray, List.getElem_cons_succ, List.getElem_cons_zero, List.setIfInBounds_toArray, List.set_cons_zero, List.set_cons_succ]
  refine wpAnyH_take (i := 10) (v := .agg #[.bool sa, .slice Aa na ca, .slice Ba ma ea]) rfl (by kernel_rfl) (by kernel_rfl) (by kernel_rfl) (fun _ _ _ h => h) (Or.inl ⟨by kernel_rfl, by (intro w hSw; (try dsimp only at hSw); go_simp)⟩) hHeld ?_
  try simp only [Act.put, List.getElem_toArray, List.getElem_cons_succ, List.getElem_cons_zero, List.setIfInBounds_toArray, List.set_cons_zero, List.set_cons_succ]
  refine wpAnyH_take (i := 11) (v := .agg #[.bool sa, .slice Aa na ca, .slice Ba ma ea]) rfl (by kernel_rfl) (by kernel_rfl) (by kernel_rfl) (fun _ _ _ h => h) (Or.inl ⟨by kernel_rfl, by (intro w hSw; (try dsimp only at hSw); go_simp)⟩) hHeld ?_
  try simp only [Act.put, List.getElem_toArray, List.getElem_cons_succ, List.getElem_cons_zero, List.setIfInBounds_toArray, List.set_cons_zero, List.set_cons_succ]
  refine wpAnyH_ready (rs := [12]) (by kernel_rfl) (by simp) ?_
  refine AllReadyH.cons rfl (fun K hK => ?_) AllReadyH.nil
  go_simp
  refine (CmpQ _ _ _ _ 6 _ ha ha (by decide)).mono ?_
  rintro e v7 ⟨rfl, hc7⟩
  rw [cq_self]
  have hB := hB.trans (hc7.mono hB.size)
  have ha := ha.below hc7
  have hb := hb.below hc7
  have hc := hc.below hc7
  have q4 := q4.below hc7
  have q5 := q5.below hc7
  go_wp2_with fail
  refine hK.out _ _ ?_ (fun hHeld => ?_)
  · exact hKeep.out _ hB
  clear hK K
  try simp only [Act.put, List.getElem_toArray, List.getElem_cons_succ, List.getElem_cons_zero, List.setIfInBounds_toArray, List.set_cons_zero, List.set_cons_succ]
  refine wpAnyH_take (i := 13) (v := .bool false) rfl (by kernel_rfl) (by kernel_rfl) (by kernel_rfl) (fun _ _ _ h => h) (Or.inl ⟨by kernel_rfl, by (intro w hSw; (try dsimp only at hSw); go_simp)⟩) hHeld ?_
  try simp only [Act.put, List.getElem_toArray, List.getElem_cons_succ, List.getElem_cons_zero, List.setIfInBounds_toArray, List.set_cons_zero, List.set_cons_succ]
  refine wpAnyH_take (i := 14) (v := .bool false) rfl (by kernel_rfl) (by kernel_rfl) (by kernel_rfl) (fun _ _ _ h => h) (Or.inl ⟨by kernel_rfl, by (intro w hSw; (try dsimp only at hSw); go_simp)⟩) hHeld ?_
  try simp only [Act.put, List.getElem_toArray, List.getElem_cons_succ, List.getElem_cons_zero, List.setIfInBounds_toArray, List.set_cons_zero, List.set_cons_succ]
  refine wpAnyH_done (by kernel_rfl) ?_ _
  have hw := hw.trans (hB.mono hw.size)
  have Xa := Xa.below hB
  have Xb := Xb.below hB
  have Xc := Xc.below hB
  go_upto_region 8 with fail
  have ka_0 : v7.cell? ⟨w.heap.size, 0, none⟩ = some (.bool sa) := Xa.cell 0
  have ka_1 : v7.cell? ⟨w.heap.size, 1, none⟩ = some (.slice Aa na ca) := Xa.cell 1
  have ka_2 : v7.cell? ⟨w.heap.size, 2, none⟩ = some (.slice Ba ma ea) := Xa.cell 2
  have kb_0 : v7.cell? ⟨w.heap.size + 1, 0, none⟩ = some (.bool sb) := Xb.cell 0
  have kb_1 : v7.cell? ⟨w.heap.size + 1, 1, none⟩ = some (.slice Ab nb cb) := Xb.cell 1
  have kb_2 : v7.cell? ⟨w.heap.size + 1, 2, none⟩ = some (.slice Bb mb eb) := Xb.cell 2
  have kc_0 : v7.cell? ⟨w.heap.size + 1 + 1, 0, none⟩ = some (.bool sc) := Xc.cell 0
  have kc_1 : v7.cell? ⟨w.heap.size + 1 + 1, 1, none⟩ = some (.slice Ac nc cc) := Xc.cell 1
  have kc_2 : v7.cell? ⟨w.heap.size + 1 + 1, 2, none⟩ = some (.slice Bc mc ec) := Xc.cell 2
  have hKeep := Lib.hid (fun (wx : World) (hb : Below v7.heap.size v7 wx) => (⟨(hb.cell (World.block_lt_of_cell? _ _ ka_0)).trans ka_0, (hb.cell (World.block_lt_of_cell? _ _ ka_1)).trans ka_1, (hb.cell (World.block_lt_of_cell? _ _ ka_2)).trans ka_2, (hb.cell (World.block_lt_of_cell? _ _ kb_0)).trans kb_0, (hb.cell (World.block_lt_of_cell? _ _ kb_1)).trans kb_1, (hb.cell (World.block_lt_of_cell? _ _ kb_2)).trans kb_2, (hb.cell (World.block_lt_of_cell? _ _ kc_0)).trans kc_0, (hb.cell (World.block_lt_of_cell? _ _ kc_1)).trans kc_1, (hb.cell (World.block_lt_of_cell? _ _ kc_2)).trans kc_2⟩ : wx.cell? ⟨w.heap.size, 0, none⟩ = some (.bool sa) ∧ wx.cell? ⟨w.heap.size, 1, none⟩ = some (.slice Aa na ca) ∧ wx.cell? ⟨w.heap.size, 2, none⟩ = some (.slice Ba ma ea) ∧ wx.cell? ⟨w.heap.size + 1, 0, none⟩ = some (.bool sb) ∧ wx.cell? ⟨w.heap.size + 1, 1, none⟩ = some (.slice Ab nb cb) ∧ wx.cell? ⟨w.heap.size + 1, 2, none⟩ = some (.slice Bb mb eb) ∧ wx.cell? ⟨w.heap.size + 1 + 1, 0, none⟩ = some (.bool sc) ∧ wx.cell? ⟨w.heap.size + 1 + 1, 1, none⟩ = some (.slice Ac nc cc) ∧ wx.cell? ⟨w.heap.size + 1 + 1, 2, none⟩ = some (.slice Bc mc ec)))
  clear ka_0 ka_1 ka_2 kb_0 kb_1 kb_2 kc_0 kc_1 kc_2
  have hB := bel_drewN (Below.refl v7.heap.size v7) 1
  have ha := ha.below hB
  have hb := hb.below hB
  have hc := hc.below hB
  have q4 := q4.below hB
  have q5 := q5.below hB
  refine wp_region_held_drew (S := (fun wx => wx.cell? ⟨w.heap.size, 0, none⟩ = some (.bool sa) ∧ wx.cell? ⟨w.heap.size, 1, none⟩ = some (.slice Aa na ca) ∧ wx.cell? ⟨w.heap.size, 2, none⟩ = some (.slice Ba ma ea) ∧ wx.cell? ⟨w.heap.size + 1, 0, none⟩ = some (.bool sb) ∧ wx.cell? ⟨w.heap.size + 1, 1, none⟩ = some (.slice Ab nb cb) ∧ wx.cell? ⟨w.heap.size + 1, 2, none⟩ = some (.slice Bb mb eb) ∧ wx.cell? ⟨w.heap.size + 1 + 1, 0, none⟩ = some (.bool sc) ∧ wx.cell? ⟨w.heap.size + 1 + 1, 1, none⟩ = some (.slice Ac nc cc) ∧ wx.cell? ⟨w.heap.size + 1 + 1, 2, none⟩ = some (.slice Bc mc ec))) (by kernel_rfl) (hKeep.out _ hB) (fun hHeld => ?_)
  refine wpAnyH_take (i := 0) (v := .agg #[.bool sa, .slice Aa na ca, .slice Ba ma ea]) rfl (by kernel_rfl) (by kernel_rfl) (by kernel_rfl) (fun _ _ _ h => h) (Or.inl ⟨by kernel_rfl, by (intro w hSw; (try dsimp only at hSw); go_simp)⟩) hHeld ?_
  try simp only [Act.put, List.getElem_toArray, List.getElem_cons_succ, List.getElem_cons_zero, List.setIfInBounds_toArray, List.set_cons_zero, List.set_cons_succ]
  refine wpAnyH_take (i := 1) (v := .agg #[.bool sc, .slice Ac nc cc, .slice Bc mc ec]) rfl (by kernel_rfl) (by kernel_rfl) (by kernel_rfl) (fun _ _ _ h => h) (Or.inl ⟨by kernel_rfl, by (intro w hSw; (try dsimp only at hSw); go_simp)⟩) hHeld ?_
  try simp only [Act.put, List.getElem_toArray, List.getElem_cons_succ, List.getElem_cons_zero, List.setIfInBounds_toArray, List.set_cons_zero, List.set_cons_succ]
  refine wpAnyH_take (i := 3) (v := .agg #[.bool sb, .slice Ab nb cb, .slice Bb mb eb]) rfl (by kernel_rfl) (by kernel_rfl) (by kernel_rfl) (fun _ _ _ h => h) (Or.inl ⟨by kernel_rfl, by (intro w hSw; (try dsimp only at hSw); go_simp)⟩) hHeld ?_
  try simp only [Act.put, List.getElem_toArray, List.getElem_cons_succ, List.getElem_cons_zero, List.setIfInBounds_toArray, List.set_cons_zero, List.set_cons_succ]
  refine wpAnyH_take (i := 4) (v := .agg #[.bool sc, .slice Ac nc cc, .slice Bc mc ec]) rfl (by kernel_rfl) (by kernel_rfl) (by kernel_rfl) (fun _ _ _ h => h) (Or.inl ⟨by kernel_rfl, by (intro w hSw; (try dsimp only at hSw); go_simp)⟩) hHeld ?_
  try simp only [Act.put, List.getElem_toArray, List.getElem_cons_succ, List.getElem_cons_zero, List.setIfInBounds_toArray, List.set_cons_zero, List.set_cons_succ]
  refine wpAnyH_take (i := 7) (v := .int .i64 za) rfl (by kernel_rfl) (by kernel_rfl) (by kernel_rfl) (fun _ _ _ h => h) (Or.inl ⟨by kernel_rfl, by (intro w hSw; (try dsimp only at hSw); go_simp)⟩) hHeld ?_
  try simp only [Act.put, List.getElem_toArray, List.getElem_cons_succ, List.getElem_cons_zero, List.setIfInBounds_toArray, List.set_cons_zero, List.set_cons_succ]
  refine wpAnyH_take (i := 8) (v := .agg #[.bool sc, .slice Ac nc cc, .slice Bc mc ec]) rfl (by kernel_rfl) (by kernel_rfl) (by kernel_rfl) (fun _ _ _ h => h) (Or.inl ⟨by kernel_rfl, by (intro w hSw; (try dsimp only at hSw); go_simp)⟩) hHeld ?_
  try simp only [Act.put, List.getElem_toArray, List.getElem_cons_succ, List.getElem_cons_zero, List.setIfInBounds_toArray, List.set_cons_zero, List.set_cons_succ]
  refine wpAnyH_ready (rs := [2]) (by kernel_rfl) (by simp) ?_
  refine AllReadyH.cons rfl (fun K hK => ?_) AllReadyH.nil
  go_simp
  refine (mulQ _ _ _ _ 6 _ ha hc (by decide)).mono ?_
  rintro e v8 ⟨_, rfl, q8, hc8⟩
  have q8 := q8.le (show _ ≤ 52 by decide)
  obtain ⟨s8, A8, m8, c8, B8, n8, d8, rfl⟩ := q8.form
  have hB := hB.trans (hc8.mono hB.size)
  have ha := ha.below hc8
  have hb := hb.below hc8
  have hc := hc.below hc8
  have q4 := q4.below hc8
  have q5 := q5.below hc8
  go_wp2_with fail
  refine hK.out _ _ ?_ (fun hHeld => ?_)
  · exact hKeep.out _ hB
  clear hK K
  try simp only [Act.put, List.getElem_toArray, List.getElem_cons_succ, List.getElem_cons_zero, List.setIfInBounds_toArray, List.set_cons_zero, List.set_cons_succ]
  refine wpAnyH_ready (rs := [5]) (by kernel_rfl) (by simp) ?_
  refine AllReadyH.cons rfl (fun K hK => ?_) AllReadyH.nil
  go_simp
  refine (mulQ _ _ _ _ 6 _ hb hc (by decide)).mono ?_
  rintro e v9 ⟨_, rfl, q9, hc9⟩
  have q9 := q9.le (show _ ≤ 52 by decide)
  obtain ⟨s9, A9, m9, c9, B9, n9, d9, rfl⟩ := q9.form
  have hB := hB.trans (hc9.mono hB.size)
  have ha := ha.below hc9
  have hb := hb.below hc9
  have hc := hc.below hc9
  have q4 := q4.below hc9
  have q5 := q5.below hc9
  have q8 := q8.below hc9
  go_wp2_with fail
  refine hK.out _ _ ?_ (fun hHeld => ?_)
  · exact hKeep.out _ hB
  clear hK K
  try simp only [Act.put, List.getElem_toArray, List.getElem_cons_succ, List.getElem_cons_zero, List.setIfInBounds_toArray, List.set_cons_zero, List.set_cons_succ]
  refine wpAnyH_ready (rs := [6]) (by kernel_rfl) (by simp) ?_
  refine AllReadyH.cons rfl (fun K hK => ?_) AllReadyH.nil
  go_simp
  refine (CmpQ _ _ _ _ 52 _ q8.af q9.af (by decide)).mono ?_
  rintro e v10 ⟨rfl, hc10⟩
  rw [hmul.out]
  have hB := hB.trans (hc10.mono hB.size)
  have ha := ha.below hc10
  have hb := hb.below hc10
  have hc := hc.below hc10
  have q4 := q4.below hc10
  have q5 := q5.below hc10
  have q8 := q8.below hc10
  have q9 := q9.below hc10
  go_wp2_with fail
  refine hK.out _ _ ?_ (fun hHeld => ?_)
  · exact hKeep.out _ hB
  clear hK K
  try simp only [Act.put, List.getElem_toArray, List.getElem_cons_succ, List.getElem_cons_zero, List.setIfInBounds_toArray, List.set_cons_zero, List.set_cons_succ]
  refine wpAnyH_ready (rs := [9]) (by kernel_rfl) (by simp) ?_
  refine AllReadyH.cons rfl (fun K hK => ?_) AllReadyH.nil
  go_simp
  refine (SignQ _ _ 6 _ hc (by decide)).mono ?_
  rintro e v11 ⟨rfl, hc11⟩
  rw [hsc.out]
  have hB := hB.trans (hc11.mono hB.size)
  have ha := ha.below hc11
  have hb := hb.below hc11
  have hc := hc.below hc11
  have q4 := q4.below hc11
  have q5 := q5.below hc11
  have q8 := q8.below hc11
  have q9 := q9.below hc11
  go_wp2_with fail
  refine hK.out _ _ ?_ (fun hHeld => ?_)
  · exact hKeep.out _ hB
  clear hK K
  try simp only [Act.put, List.getElem_toArray, List.getElem_cons_succ, List.getElem_cons_zero, List.setIfInBounds_toArray, List.set_cons_zero, List.set_cons_succ]
  refine wpAnyH_take (i := 10) (v := .int .i64 pm) rfl (by kernel_rfl) (by kernel_rfl) (by kernel_rfl) (fun _ _ _ h => h) (Or.inl ⟨by kernel_rfl, by (intro w hSw; (try dsimp only at hSw); go_simp)⟩) hHeld ?_
  try simp only [Act.put, List.getElem_toArray, List.getElem_cons_succ, List.getElem_cons_zero, List.setIfInBounds_toArray, List.set_cons_zero, List.set_cons_succ]
  refine wpAnyH_take (i := 11) (v := .bool false) rfl (by kernel_rfl) (by kernel_rfl) (by kernel_rfl) (fun _ _ _ h => h) (Or.inl ⟨by kernel_rfl, by (intro w hSw; (try dsimp only at hSw); go_simp)⟩) hHeld ?_
  try simp only [Act.put, List.getElem_toArray, List.getElem_cons_succ, List.getElem_cons_zero, List.setIfInBounds_toArray, List.set_cons_zero, List.set_cons_succ]
  refine wpAnyH_done (by kernel_rfl) ?_ _
  have hw := hw.trans (hB.mono hw.size)
  have Xa := Xa.below hB
  have Xb := Xb.below hB
  have Xc := Xc.below hB
  go_upto_region 10 with fail
  have ka_0 : v11.cell? ⟨w.heap.size, 0, none⟩ = some (.bool sa) := Xa.cell 0
  have ka_1 : v11.cell? ⟨w.heap.size, 1, none⟩ = some (.slice Aa na ca) := Xa.cell 1
  have ka_2 : v11.cell? ⟨w.heap.size, 2, none⟩ = some (.slice Ba ma ea) := Xa.cell 2
  have kb_0 : v11.cell? ⟨w.heap.size + 1, 0, none⟩ = some (.bool sb) := Xb.cell 0
  have kb_1 : v11.cell? ⟨w.heap.size + 1, 1, none⟩ = some (.slice Ab nb cb) := Xb.cell 1
  have kb_2 : v11.cell? ⟨w.heap.size + 1, 2, none⟩ = some (.slice Bb mb eb) := Xb.cell 2
  have kc_0 : v11.cell? ⟨w.heap.size + 1 + 1, 0, none⟩ = some (.bool sc) := Xc.cell 0
  have kc_1 : v11.cell? ⟨w.heap.size + 1 + 1, 1, none⟩ = some (.slice Ac nc cc) := Xc.cell 1
  have kc_2 : v11.cell? ⟨w.heap.size + 1 + 1, 2, none⟩ = some (.slice Bc mc ec) := Xc.cell 2
  have hKeep := Lib.hid (fun (wx : World) (hb : Below v11.heap.size v11 wx) => (⟨(hb.cell (World.block_lt_of_cell? _ _ ka_0)).trans ka_0, (hb.cell (World.block_lt_of_cell? _ _ ka_1)).trans ka_1, (hb.cell (World.block_lt_of_cell? _ _ ka_2)).trans ka_2, (hb.cell (World.block_lt_of_cell? _ _ kb_0)).trans kb_0, (hb.cell (World.block_lt_of_cell? _ _ kb_1)).trans kb_1, (hb.cell (World.block_lt_of_cell? _ _ kb_2)).trans kb_2, (hb.cell (World.block_lt_of_cell? _ _ kc_0)).trans kc_0, (hb.cell (World.block_lt_of_cell? _ _ kc_1)).trans kc_1, (hb.cell (World.block_lt_of_cell? _ _ kc_2)).trans kc_2⟩ : wx.cell? ⟨w.heap.size, 0, none⟩ = some (.bool sa) ∧ wx.cell? ⟨w.heap.size, 1, none⟩ = some (.slice Aa na ca) ∧ wx.cell? ⟨w.heap.size, 2, none⟩ = some (.slice Ba ma ea) ∧ wx.cell? ⟨w.heap.size + 1, 0, none⟩ = some (.bool sb) ∧ wx.cell? ⟨w.heap.size + 1, 1, none⟩ = some (.slice Ab nb cb) ∧ wx.cell? ⟨w.heap.size + 1, 2, none⟩ = some (.slice Bb mb eb) ∧ wx.cell? ⟨w.heap.size + 1 + 1, 0, none⟩ = some (.bool sc) ∧ wx.cell? ⟨w.heap.size + 1 + 1, 1, none⟩ = some (.slice Ac nc cc) ∧ wx.cell? ⟨w.heap.size + 1 + 1, 2, none⟩ = some (.slice Bc mc ec)))
  clear ka_0 ka_1 ka_2 kb_0 kb_1 kb_2 kc_0 kc_1 kc_2
  have hB := bel_drewN (Below.refl v11.heap.size v11) 1
  have ha := ha.below hB
  have hb := hb.below hB
  have hc := hc.below hB
  have q4 := q4.below hB
  have q5 := q5.below hB
  have q8 := q8.below hB
  have q9 := q9.below hB
  refine wp_region_held_drew (S := (fun wx => wx.cell? ⟨w.heap.size, 0, none⟩ = some (.bool sa) ∧ wx.cell? ⟨w.heap.size, 1, none⟩ = some (.slice Aa na ca) ∧ wx.cell? ⟨w.heap.size, 2, none⟩ = some (.slice Ba ma ea) ∧ wx.cell? ⟨w.heap.size + 1, 0, none⟩ = some (.bool sb) ∧ wx.cell? ⟨w.heap.size + 1, 1, none⟩ = some (.slice Ab nb cb) ∧ wx.cell? ⟨w.heap.size + 1, 2, none⟩ = some (.slice Bb mb eb) ∧ wx.cell? ⟨w.heap.size + 1 + 1, 0, none⟩ = some (.bool sc) ∧ wx.cell? ⟨w.heap.size + 1 + 1, 1, none⟩ = some (.slice Ac nc cc) ∧ wx.cell? ⟨w.heap.size + 1 + 1, 2, none⟩ = some (.slice Bc mc ec))) (by kernel_rfl) (hKeep.out _ hB) (fun hHeld => ?_)
  refine wpAnyH_take (i := 0) (v := .int .i64 za) rfl (by kernel_rfl) (by kernel_rfl) (by kernel_rfl) (fun _ _ _ h => h) (Or.inl ⟨by kernel_rfl, by (intro w hSw; (try dsimp only at hSw); go_simp)⟩) hHeld ?_
  try simp only [Act.put, List.getElem_toArray, List.getElem_cons_succ, List.getElem_cons_zero, List.setIfInBounds_toArray, List.set_cons_zero, List.set_cons_succ]
  refine wpAnyH_take (i := 1) (v := .bool be) rfl (by kernel_rfl) (by kernel_rfl) (by kernel_rfl) (fun _ _ _ h => h) (Or.inl ⟨by kernel_rfl, by (intro w hSw; (try dsimp only at hSw); go_simp)⟩) hHeld ?_
  try simp only [Act.put, List.getElem_toArray, List.getElem_cons_succ, List.getElem_cons_zero, List.setIfInBounds_toArray, List.set_cons_zero, List.set_cons_succ]
  refine wpAnyH_take (i := 2) (v := .agg #[.bool sa, .slice Aa na ca, .slice Ba ma ea]) rfl (by kernel_rfl) (by kernel_rfl) (by kernel_rfl) (fun _ _ _ h => h) (Or.inl ⟨by kernel_rfl, by (intro w hSw; (try dsimp only at hSw); go_simp)⟩) hHeld ?_
  try simp only [Act.put, List.getElem_toArray, List.getElem_cons_succ, List.getElem_cons_zero, List.setIfInBounds_toArray, List.set_cons_zero, List.set_cons_succ]
  refine wpAnyH_take (i := 4) (v := .agg #[.bool sb, .slice Ab nb cb, .slice Bb mb eb]) rfl (by kernel_rfl) (by kernel_rfl) (by kernel_rfl) (fun _ _ _ h => h) (Or.inl ⟨by kernel_rfl, by (intro w hSw; (try dsimp only at hSw); go_simp)⟩) hHeld ?_
  try simp only [Act.put, List.getElem_toArray, List.getElem_cons_succ, List.getElem_cons_zero, List.setIfInBounds_toArray, List.set_cons_zero, List.set_cons_succ]
  refine wpAnyH_ready (rs := [3]) (by kernel_rfl) (by simp) ?_
  refine AllReadyH.cons rfl (fun K hK => ?_) AllReadyH.nil
  go_simp
  refine (canonQ _ _ 6 _ ha (by decide)).mono ?_
  rintro e v12 ⟨_, rfl, q12, hc12⟩
  have q12 := q12.le (show _ ≤ 26 by decide)
  obtain ⟨s12, A12, m12, c12, B12, n12, d12, rfl⟩ := q12.form
  have hB := hB.trans (hc12.mono hB.size)
  have ha := ha.below hc12
  have hb := hb.below hc12
  have hc := hc.below hc12
  have q4 := q4.below hc12
  have q5 := q5.below hc12
  have q8 := q8.below hc12
  have q9 := q9.below hc12
  go_wp2_with fail
  refine hK.out _ _ ?_ (fun hHeld => ?_)
  · exact hKeep.out _ hB
  clear hK K
  try simp only [Act.put, List.getElem_toArray, List.getElem_cons_succ, List.getElem_cons_zero, List.setIfInBounds_toArray, List.set_cons_zero, List.set_cons_succ]
  refine wpAnyH_ready (rs := [5]) (by kernel_rfl) (by simp) ?_
  refine AllReadyH.cons rfl (fun K hK => ?_) AllReadyH.nil
  go_simp
  refine (canonQ _ _ 6 _ hb (by decide)).mono ?_
  rintro e v13 ⟨_, rfl, q13, hc13⟩
  have q13 := q13.le (show _ ≤ 26 by decide)
  obtain ⟨s13, A13, m13, c13, B13, n13, d13, rfl⟩ := q13.form
  have hB := hB.trans (hc13.mono hB.size)
  have ha := ha.below hc13
  have hb := hb.below hc13
  have hc := hc.below hc13
  have q4 := q4.below hc13
  have q5 := q5.below hc13
  have q8 := q8.below hc13
  have q9 := q9.below hc13
  have q12 := q12.below hc13
  go_wp2_with fail
  refine hK.out _ _ ?_ (fun hHeld => ?_)
  · exact hKeep.out _ hB
  clear hK K
  try simp only [Act.put, List.getElem_toArray, List.getElem_cons_succ, List.getElem_cons_zero, List.setIfInBounds_toArray, List.set_cons_zero, List.set_cons_succ]
  refine wpAnyH_ready (rs := [6]) (by kernel_rfl) (by simp) ?_
  refine AllReadyH.cons rfl (fun K hK => ?_) AllReadyH.nil
  go_simp
  refine (sameQ _ _ qa qb _ _ _ q12 q13).mono ?_
  rintro e v14 ⟨rfl, hc14⟩
  rw [hbe.out]
  have hB := hB.trans (hc14.mono hB.size)
  have ha := ha.below hc14
  have hb := hb.below hc14
  have hc := hc.below hc14
  have q4 := q4.below hc14
  have q5 := q5.below hc14
  have q8 := q8.below hc14
  have q9 := q9.below hc14
  have q12 := q12.below hc14
  have q13 := q13.below hc14
  go_wp2_with fail
  refine hK.out _ _ ?_ (fun hHeld => ?_)
  · exact hKeep.out _ hB
  clear hK K
  try simp only [Act.put, List.getElem_toArray, List.getElem_cons_succ, List.getElem_cons_zero, List.setIfInBounds_toArray, List.set_cons_zero, List.set_cons_succ]
  refine wpAnyH_take (i := 7) (v := .bool true) rfl (by kernel_rfl) (by kernel_rfl) (by kernel_rfl) (fun _ _ _ h => h) (Or.inl ⟨by kernel_rfl, by (intro w hSw; (try dsimp only at hSw); go_simp)⟩) hHeld ?_
  try simp only [Act.put, List.getElem_toArray, List.getElem_cons_succ, List.getElem_cons_zero, List.setIfInBounds_toArray, List.set_cons_zero, List.set_cons_succ]
  refine wpAnyH_take (i := 8) (v := .bool true) rfl (by kernel_rfl) (by kernel_rfl) (by kernel_rfl) (fun _ _ _ h => h) (Or.inl ⟨by kernel_rfl, by (intro w hSw; (try dsimp only at hSw); go_simp)⟩) hHeld ?_
  try simp only [Act.put, List.getElem_toArray, List.getElem_cons_succ, List.getElem_cons_zero, List.setIfInBounds_toArray, List.set_cons_zero, List.set_cons_succ]
  refine wpAnyH_ready (rs := [9]) (by kernel_rfl) (by simp) ?_
  refine AllReadyH.cons rfl (fun K hK => ?_) AllReadyH.nil
  go_simp
  refine (known_true _ (hG.out.below (hw.trans (hB.mono hw.size)))).mono ?_
  rintro e v15 ⟨rfl, hc15⟩
  have hB := hB.trans (hc15.mono hB.size)
  have ha := ha.below hc15
  have hb := hb.below hc15
  have hc := hc.below hc15
  have q4 := q4.below hc15
  have q5 := q5.below hc15
  have q8 := q8.below hc15
  have q9 := q9.below hc15
  have q12 := q12.below hc15
  have q13 := q13.below hc15
  go_wp2_with fail
  refine hK.out _ _ ?_ (fun hHeld => ?_)
  · exact hKeep.out _ hB
  clear hK K
  try simp only [Act.put, List.getElem_toArray, List.getElem_cons_succ, List.getElem_cons_zero, List.setIfInBounds_toArray, List.set_cons_zero, List.set_cons_succ]
  refine wpAnyH_take (i := 10) (v := .bool true) rfl (by kernel_rfl) (by kernel_rfl) (by kernel_rfl) (fun _ _ _ h => h) (Or.inl ⟨by kernel_rfl, by (intro w hSw; (try dsimp only at hSw); go_simp)⟩) hHeld ?_
  try simp only [Act.put, List.getElem_toArray, List.getElem_cons_succ, List.getElem_cons_zero, List.setIfInBounds_toArray, List.set_cons_zero, List.set_cons_succ]
  refine wpAnyH_take (i := 11) (v := .bool true) rfl (by kernel_rfl) (by kernel_rfl) (by kernel_rfl) (fun _ _ _ h => h) (Or.inl ⟨by kernel_rfl, by (intro w hSw; (try dsimp only at hSw); go_simp)⟩) hHeld ?_
  try simp only [Act.put, List.getElem_toArray, List.getElem_cons_succ, List.getElem_cons_zero, List.setIfInBounds_toArray, List.set_cons_zero, List.set_cons_succ]
  refine wpAnyH_done (by kernel_rfl) ?_ _
  have hw := hw.trans (hB.mono hw.size)
  have Xa := Xa.below hB
  have Xb := Xb.below hB
  have Xc := Xc.below hB
  go_wp2
  go_ret
  exact ⟨rfl, hw⟩
end Go.Proofs.YtanaljnclajkdaaGreatDoor.Fr
