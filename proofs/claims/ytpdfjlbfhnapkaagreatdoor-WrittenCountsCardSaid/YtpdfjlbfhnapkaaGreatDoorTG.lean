/- The words of written sums of money. -/
import Derived.Test.YtpdfjlbfhnapkaaGreatDoorTE
namespace Go.Proofs.YtpdfjlbfhnapkaaGreatDoor
open Go.RowKit
set_option linter.unusedSimpArgs false
set_option linter.unusedVariables false
set_option maxRecDepth 100000

theorem cardI_lt {x : Str} (h : AllD x) : cardI x < 1000000000000 ∧ -1 ≤ cardI x := by
  unfold cardI
  split
  · rename_i hi
    unfold isCard at hi
    rw [Bool.and_eq_true] at hi
    have := valD_12 h (of_decide_eq_true hi.1)
    omega
  · omega
theorem fieldI_lt {x : Str} (h : AllD x) (n : Nat) : fieldI x n < (10 ^ n : Nat) ∧ -1 ≤ fieldI x n := by
  unfold fieldI
  split
  · rename_i hi
    have := valD_lt h
    rw [hi] at this
    omega
  · have : 0 < 10 ^ n := Nat.pow_pos (by decide)
    omega
def mnyI (d c : Int) : List Str := if d < 0 then [] else mnyW d.toNat c.toNat
def kMny (sh : Str) (ns : List Str) : List Str := if sh = [36, 48] then mnyI (cardI (ns.getD 0 [])) 0 else if sh = [36, 48, 46, 48] then (if fieldI (ns.getD 1 []) 2 < 1 then [] else mnyI (cardI (ns.getD 0 [])) (fieldI (ns.getD 1 []) 2)) else []
set_option maxHeartbeats 8000000 in
theorem moneySay_any (sh : Str) (ns : List Str) (A : Option Addr) (c : Nat) (w : World) (hT : WT w) (hS : Ss w A ns.length c ns) (hQ : PiQ sh ns) :
    Calls Tryz.prog 256 #[.agg #[], .agg #[.string ⟨sh.toArray⟩, .slice A ns.length c]] w (RetW (kMny sh ns) w) := by
  by_cases h1 : sh = [36, 48]
  · subst h1
    obtain ⟨x, rfl, hD, hne⟩ := ns_one hQ rfl rfl
    obtain ⟨ad, rfl, hc0, hap⟩ := one_cell hS
    have hF := Lib.hid (fun (w9 : World) => cardinalOf_any x hD hne w9)
    have hkw : kMny [36, 48] [x] = mnyI (cardI x) 0 := if_pos rfl
    have hlt := cardI_lt hD
    generalize cardI x = d at *
    clear hS hQ hne hD
    have hb0 := below_two w (.cells #[] 120) (.cells #[.string ⟨#[36, 48]⟩, .slice (some ad) 1 c] 87)
    have k1 : ((w.alloc (.cells #[] 120)).alloc (.cells #[.string ⟨#[36, 48]⟩, .slice (some ad) 1 c] 87)).cell? ⟨w.heap.size + 1, 1, none⟩ = some (.slice (some ad) 1 c) := by
      have h9 := (Blk.new (w.alloc (.cells #[] 120)) 87 #[.string ⟨#[36, 48]⟩, .slice (some ad) 1 c]).cell 1
      rw [World.size_alloc] at h9
      exact h9
    have k0 : ((w.alloc (.cells #[] 120)).alloc (.cells #[.string ⟨#[36, 48]⟩, .slice (some ad) 1 c] 87)).cell? ⟨w.heap.size + 1, 0, none⟩ = some (.string ⟨#[36, 48]⟩) := by
      have h9 := (Blk.new (w.alloc (.cells #[] 120)) 87 #[.string ⟨#[36, 48]⟩, .slice (some ad) 1 c]).cell 0
      rw [World.size_alloc] at h9
      exact h9
    have hzz : w.heap.size + 1 < ((w.alloc (.cells #[] 120)).alloc (.cells #[.string ⟨#[36, 48]⟩, .slice (some ad) 1 c] 87)).heap.size := by rw [World.size_alloc, World.size_alloc]; omega
    by_cases hd : d < 0
    · have hw := Lib.hid (show kMny [36, 48] [x] = [] from hkw.trans (if_pos hd))
      clear hkw
      go_enter Tryz.func256, Tryz.ntmps256
      go_wp2_with fail
      refine (hF.out _).mono ?_
      rintro e x1 ⟨rfl, hx1⟩
      have hb1 := hb0.trans (hx1.mono hb0.size)
      have k1' := (hx1.cell (p := ⟨w.heap.size + 1, 1, none⟩) hzz).trans k1
      have k0' := (hx1.cell (p := ⟨w.heap.size + 1, 0, none⟩) hzz).trans k0
      go_wp2
      go_ret
      rw [hw.out]
      exact ⟨_, rfl, World.ownsRow_nil _ _ _ _, hb1⟩
    · obtain ⟨N, rfl⟩ : ∃ N : Nat, d = (N : Int) := ⟨d.toNat, by omega⟩
      have hw := Lib.hid (show kMny [36, 48] [x] = mnyW N 0 by rw [hkw]; unfold mnyI; rw [if_neg hd, Int.toNat_natCast]; rfl)
      have hm := Lib.hid (fun (w9 : World) (h9 : WT w9) => (show Calls Tryz.prog 258 #[.int .i64 (N : Int), .int .i64 0] w9 (RetW (mnyW N 0) w9) from spokenMoney_any N 0 (by omega) (by decide) w9 h9))
      clear hkw
      go_enter Tryz.func256, Tryz.ntmps256
      go_wp2_with fail
      refine (hF.out _).mono ?_
      rintro e x1 ⟨rfl, hx1⟩
      have hb1 := hb0.trans (hx1.mono hb0.size)
      have k1' := (hx1.cell (p := ⟨w.heap.size + 1, 1, none⟩) hzz).trans k1
      have k0' := (hx1.cell (p := ⟨w.heap.size + 1, 0, none⟩) hzz).trans k0
      go_wp2_with fail
      refine (hm.out x1 (hT.below hb1)).mono ?_
      rintro e x2 h
      obtain ⟨V, rfl, hO, hb⟩ := RetW.up hb1 h
      go_wp2
      go_ret
      rw [hw.out]
      exact ⟨V, rfl, hO, hb⟩
  · have g1 : (sh == [36, 48]) = false := by rw [beq_eq_false_iff_ne]; exact h1
    by_cases h2 : sh = [36, 48, 46, 48]
    · subst h2
      obtain ⟨x, y, rfl, ⟨hD, hne⟩, hD2, hne2⟩ := ns_two hQ rfl rfl
      obtain ⟨ad, rfl, hc0, hc1, hap, hadd⟩ := two_cell hS
      have hF := Lib.hid (fun (w9 : World) => cardinalOf_any x hD hne w9)
      have hG : Hid (∀ w9 : World, Calls Tryz.prog 244 #[.string ⟨y.toArray⟩, .int .i64 2] w9 fun e w' => e = .returned (.int .i64 (fieldI y 2)) ∧ Below w9.heap.size w9 w') := fun (w9 : World) => fieldOf_any y 2 (by decide) (by decide) hD2 w9
      have hkw : kMny [36, 48, 46, 48] [x, y] = if fieldI y 2 < 1 then [] else mnyI (cardI x) (fieldI y 2) := by
        unfold kMny
        rw [if_neg h1, if_pos rfl]
        rfl
      have hlt := cardI_lt hD
      have hlt2 := fieldI_lt hD2 2
      generalize cardI x = d at *
      generalize fieldI y 2 = m at *
      rw [hadd] at hc1
      clear hS hQ hne hD hne2 hD2 hadd g1 h1
      have hb0 := below_two w (.cells #[] 120) (.cells #[.string ⟨#[36, 48, 46, 48]⟩, .slice (some ad) 2 c] 87)
      have k1 : ((w.alloc (.cells #[] 120)).alloc (.cells #[.string ⟨#[36, 48, 46, 48]⟩, .slice (some ad) 2 c] 87)).cell? ⟨w.heap.size + 1, 1, none⟩ = some (.slice (some ad) 2 c) := by
        have h9 := (Blk.new (w.alloc (.cells #[] 120)) 87 #[.string ⟨#[36, 48, 46, 48]⟩, .slice (some ad) 2 c]).cell 1
        rw [World.size_alloc] at h9
        exact h9
      have k0 : ((w.alloc (.cells #[] 120)).alloc (.cells #[.string ⟨#[36, 48, 46, 48]⟩, .slice (some ad) 2 c] 87)).cell? ⟨w.heap.size + 1, 0, none⟩ = some (.string ⟨#[36, 48, 46, 48]⟩) := by
        have h9 := (Blk.new (w.alloc (.cells #[] 120)) 87 #[.string ⟨#[36, 48, 46, 48]⟩, .slice (some ad) 2 c]).cell 0
        rw [World.size_alloc] at h9
        exact h9
      have hzz : w.heap.size + 1 < ((w.alloc (.cells #[] 120)).alloc (.cells #[.string ⟨#[36, 48, 46, 48]⟩, .slice (some ad) 2 c] 87)).heap.size := by rw [World.size_alloc, World.size_alloc]; omega
      have hap2 : ad.block < w.heap.size := hap
      by_cases hm1 : m < 1
      · have hw := Lib.hid (show kMny [36, 48, 46, 48] [x, y] = [] from hkw.trans (if_pos hm1))
        clear hkw
        go_enter Tryz.func256, Tryz.ntmps256
        go_wp2_with fail
        refine (hF.out _).mono ?_
        rintro e x1 ⟨rfl, hx1⟩
        have hb1 := hb0.trans (hx1.mono hb0.size)
        have k1' := (hx1.cell (p := ⟨w.heap.size + 1, 1, none⟩) hzz).trans k1
        have k0' := (hx1.cell (p := ⟨w.heap.size + 1, 0, none⟩) hzz).trans k0
        have c0' := (hb1.cell (p := ad) hap).trans hc0
        have c1' := (hb1.cell (p := ⟨ad.block, ad.off + 1, none⟩) hap).trans hc1
        go_wp2_with fail
        refine (hG.out _).mono ?_
        rintro e x2 ⟨rfl, hx2⟩
        have hb2 := hb1.trans (hx2.mono hb1.size)
        go_wp2
        go_ret
        rw [hw.out]
        exact ⟨_, rfl, World.ownsRow_nil _ _ _ _, hb2⟩
      · have hm2 : decide (m < 1) = false := decide_eq_false hm1
        by_cases hd : d < 0
        · have hw := Lib.hid (show kMny [36, 48, 46, 48] [x, y] = [] from hkw.trans ((if_neg hm1).trans (if_pos hd)))
          clear hkw
          go_enter Tryz.func256, Tryz.ntmps256
          go_wp2_with fail
          refine (hF.out _).mono ?_
          rintro e x1 ⟨rfl, hx1⟩
          have hb1 := hb0.trans (hx1.mono hb0.size)
          have k1' := (hx1.cell (p := ⟨w.heap.size + 1, 1, none⟩) hzz).trans k1
          have k0' := (hx1.cell (p := ⟨w.heap.size + 1, 0, none⟩) hzz).trans k0
          have c0' := (hb1.cell (p := ad) hap).trans hc0
          have c1' := (hb1.cell (p := ⟨ad.block, ad.off + 1, none⟩) hap).trans hc1
          go_wp2_with fail
          refine (hG.out _).mono ?_
          rintro e x2 ⟨rfl, hx2⟩
          have hb2 := hb1.trans (hx2.mono hb1.size)
          go_wp2
          go_ret
          rw [hw.out]
          exact ⟨_, rfl, World.ownsRow_nil _ _ _ _, hb2⟩
        · obtain ⟨N, rfl⟩ : ∃ N : Nat, d = (N : Int) := ⟨d.toNat, by omega⟩
          obtain ⟨M, rfl⟩ : ∃ M : Nat, m = (M : Int) := ⟨m.toNat, by omega⟩
          have hw := Lib.hid (show kMny [36, 48, 46, 48] [x, y] = mnyW N M by rw [hkw, if_neg hm1]; unfold mnyI; rw [if_neg hd, Int.toNat_natCast, Int.toNat_natCast])
          have hM : M < 100 := by have := hlt2.1; omega
          have hm := Lib.hid (fun (w9 : World) (h9 : WT w9) => spokenMoney_any N M (by omega) hM w9 h9)
          clear hkw
          go_enter Tryz.func256, Tryz.ntmps256
          go_wp2_with fail
          refine (hF.out _).mono ?_
          rintro e x1 ⟨rfl, hx1⟩
          have hb1 := hb0.trans (hx1.mono hb0.size)
          have k1' := (hx1.cell (p := ⟨w.heap.size + 1, 1, none⟩) hzz).trans k1
          have k0' := (hx1.cell (p := ⟨w.heap.size + 1, 0, none⟩) hzz).trans k0
          have c0' := (hb1.cell (p := ad) hap).trans hc0
          have c1' := (hb1.cell (p := ⟨ad.block, ad.off + 1, none⟩) hap).trans hc1
          go_wp2_with fail
          refine (hG.out _).mono ?_
          rintro e x2 ⟨rfl, hx2⟩
          have hb2 := hb1.trans (hx2.mono hb1.size)
          go_wp2_with fail
          refine (hm.out x2 (hT.below hb2)).mono ?_
          rintro e x3 h
          obtain ⟨V, rfl, hO, hb⟩ := RetW.up hb2 h
          go_wp2
          go_ret
          rw [hw.out]
          exact ⟨V, rfl, hO, hb⟩
    · have g2 : (sh == [36, 48, 46, 48]) = false := by rw [beq_eq_false_iff_ne]; exact h2
      have hw := Lib.hid (show kMny sh ns = [] by unfold kMny; rw [if_neg h1, if_neg h2])
      go_enter Tryz.func256, Tryz.ntmps256
      go_wp2
      go_ret
      rw [hw.out]
      exact ⟨_, rfl, World.ownsRow_nil _ _ _ _, below_two _ _ _⟩
end Go.Proofs.YtpdfjlbfhnapkaaGreatDoor

/- The words of written dates. -/
namespace Go.Proofs.YtpdfjlbfhnapkaaGreatDoor
open Go.RowKit
set_option linter.unusedSimpArgs false
set_option linter.unusedVariables false
set_option maxRecDepth 100000

theorem yrW_len (y : Nat) : (yrW y).length ≤ 402 := by
  have h1 := cntW_len y
  have h2 := cntW_len (y / 100)
  have h3 := pairW_len (y % 100)
  unfold yrW
  split
  · omega
  · split
    · rw [List.length_append]; simp; omega
    · rw [List.length_append]; omega
theorem cnt31 : ∀ n, n < 32 → ∀ x ∈ cntW n, x.length ≤ 100000 := by decide +kernel
theorem lastD_31 (y m : Int) : lastD y m ≤ 31 := by
  unfold lastD
  repeat' split
  all_goals omega
theorem dayB_true {y m d : Int} (h : dayB y m d = true) : (1000 ≤ y ∧ y ≤ 2999) ∧ (1 ≤ m ∧ m ≤ 12) ∧ 1 ≤ d ∧ d ≤ 31 := by
  unfold dayB wiI at h
  simp only [Bool.and_eq_true, decide_eq_true_eq] at h
  have := lastD_31 y m
  omega
/-- the words of a date -/
def datW (y m d : Int) : List Str := if dayB y m d = true then [[116, 104, 101]] ++ sordW d.toNat ++ [[111, 102], monthN m.toNat] ++ yrW y.toNat else []
def kDat (sh : Str) (ns : List Str) : List Str := if sh = [48, 45, 48, 45, 48] then datW (fieldI (ns.getD 0 []) 4) (fieldI (ns.getD 1 []) 2) (fieldI (ns.getD 2 []) 2) else []
theorem ns_three {sh : Str} {ns : List Str} (h : PiQ sh ns) (ha : sh.all ascB = true) (hc : sh.count 48 = 3) : ∃ x y z, ns = [x, y, z] ∧ AllD x ∧ AllD y ∧ AllD z := by
  have h1 := h.1 ha
  rw [hc] at h1
  match ns, h1, h with
  | [x, y, z], _, h => exact ⟨x, y, z, rfl, (h.2 x (by simp)).1, (h.2 y (by simp)).1, (h.2 z (by simp)).1⟩
theorem three_cell {w : World} {A : Option Addr} {c : Nat} {x y z : Str} (hS : Ss w A [x, y, z].length c [x, y, z]) : ∃ ad, A = some ad ∧ w.cell? ad = some (.string ⟨x.toArray⟩) ∧ w.cell? ⟨ad.block, ad.off + 1, none⟩ = some (.string ⟨y.toArray⟩) ∧ w.cell? ⟨ad.block, ad.off + 2, none⟩ = some (.string ⟨z.toArray⟩) ∧ ad.block < w.heap.size := by
  obtain ⟨ad, rfl, hc⟩ := hS.cell (by simp)
  have hc0 := hc 0 x rfl
  have hap : ad.block < w.heap.size := by have := blt_of_cell hc0; rw [block_of_add] at this; exact this
  rw [show ad.add 0 = ad from by unfold Addr.add; simp] at hc0
  have hc1 := hc 1 y rfl
  have hc2 := hc 2 z rfl
  rw [show ad.add 1 = ⟨ad.block, ad.off + 1, none⟩ from by unfold Addr.add; simp] at hc1
  rw [show ad.add 2 = ⟨ad.block, ad.off + 2, none⟩ from by unfold Addr.add; simp] at hc2
  exact ⟨ad, rfl, hc0, hc1, hc2, hap⟩
set_option maxHeartbeats 8000000 in
theorem dateSay_any (sh : Str) (ns : List Str) (A : Option Addr) (c : Nat) (w : World) (hT : WT w) (hS : Ss w A ns.length c ns) (hQ : PiQ sh ns) :
    Calls Tryz.prog 249 #[.agg #[], .agg #[.string ⟨sh.toArray⟩, .slice A ns.length c]] w (RetW (kDat sh ns) w) := by
  obtain ⟨i0, hi, hz0, hz1, hz2⟩ := info_parts info_str
  by_cases h1 : sh = [48, 45, 48, 45, 48]
  · subst h1
    obtain ⟨x, y, z, rfl, hD, hD2, hD3⟩ := ns_three hQ rfl rfl
    obtain ⟨ad, rfl, hc0, hc1, hc2, hap⟩ := three_cell hS
    have hF : Hid (∀ w9 : World, Calls Tryz.prog 244 #[.string ⟨x.toArray⟩, .int .i64 4] w9 fun e w' => e = .returned (.int .i64 (fieldI x 4)) ∧ Below w9.heap.size w9 w') := fun (w9 : World) => fieldOf_any x 4 (by decide) (by decide) hD w9
    have hG : Hid (∀ w9 : World, Calls Tryz.prog 244 #[.string ⟨y.toArray⟩, .int .i64 2] w9 fun e w' => e = .returned (.int .i64 (fieldI y 2)) ∧ Below w9.heap.size w9 w') := fun (w9 : World) => fieldOf_any y 2 (by decide) (by decide) hD2 w9
    have hH : Hid (∀ w9 : World, Calls Tryz.prog 244 #[.string ⟨z.toArray⟩, .int .i64 2] w9 fun e w' => e = .returned (.int .i64 (fieldI z 2)) ∧ Below w9.heap.size w9 w') := fun (w9 : World) => fieldOf_any z 2 (by decide) (by decide) hD3 w9
    have hkw := Lib.hid (show kDat [48, 45, 48, 45, 48] [x, y, z] = datW (fieldI x 4) (fieldI y 2) (fieldI z 2) from if_pos rfl)
    generalize fieldI x 4 = Y at *
    generalize fieldI y 2 = M at *
    generalize fieldI z 2 = D at *
    clear hS hQ hD hD2 hD3
    go_enter Tryz.func249, Tryz.ntmps249
    go_wp2_with fail
    have hb0 := below_two w (.cells #[] 119) (.cells #[.string ⟨#[48, 45, 48, 45, 48]⟩, .slice (some ad) 3 c] 87)
    have k1 : ((w.alloc (.cells #[] 119)).alloc (.cells #[.string ⟨#[48, 45, 48, 45, 48]⟩, .slice (some ad) 3 c] 87)).cell? ⟨w.heap.size + 1, 1, none⟩ = some (.slice (some ad) 3 c) := by
      have h9 := (Blk.new (w.alloc (.cells #[] 119)) 87 #[.string ⟨#[48, 45, 48, 45, 48]⟩, .slice (some ad) 3 c]).cell 1
      rw [World.size_alloc] at h9
      exact h9
    have k2 := (hb0.cell hap).trans hc0
    have k3 := (hb0.cell (p := ⟨ad.block, ad.off + 1, none⟩) hap).trans hc1
    have k4 := (hb0.cell (p := ⟨ad.block, ad.off + 2, none⟩) hap).trans hc2
    have hzz1 : w.heap.size + 1 < ((w.alloc (.cells #[] 119)).alloc (.cells #[.string ⟨#[48, 45, 48, 45, 48]⟩, .slice (some ad) 3 c] 87)).heap.size := by rw [World.size_alloc, World.size_alloc]; omega
    generalize (w.alloc (.cells #[] 119)).alloc (.cells #[.string ⟨#[48, 45, 48, 45, 48]⟩, .slice (some ad) 3 c] 87) = W1 at *
    obtain ⟨B1, hB1⟩ : ∃ B1, B1 = w.heap.size + 1 := ⟨_, rfl⟩
    rw [← hB1] at k1 hzz1 ⊢
    clear hB1
    have hl1 : (⟨B1, 1, none⟩ : Addr).block < W1.heap.size := hzz1
    have hl2 : ad.block < W1.heap.size := by have := hb0.size; omega
    have hH0 : (fun wx : World => wx.cell? ⟨B1, 1, none⟩ = some (.slice (some ad) 3 c) ∧ wx.cell? ad = some (.string ⟨x.toArray⟩) ∧ wx.cell? ⟨ad.block, ad.off + 1, none⟩ = some (.string ⟨y.toArray⟩) ∧ wx.cell? ⟨ad.block, ad.off + 2, none⟩ = some (.string ⟨z.toArray⟩)) W1.drew := ⟨k1, k2, k3, k4⟩
    refine wp_region_held_drew (S := (fun wx => wx.cell? ⟨B1, 1, none⟩ = some (.slice (some ad) 3 c) ∧ wx.cell? ad = some (.string ⟨x.toArray⟩) ∧ wx.cell? ⟨ad.block, ad.off + 1, none⟩ = some (.string ⟨y.toArray⟩) ∧ wx.cell? ⟨ad.block, ad.off + 2, none⟩ = some (.string ⟨z.toArray⟩))) (by kernel_rfl) hH0 (fun hHeld => ?_)
    have hc0' : Below W1.heap.size W1 (W1.drewN 1) := bel_drewN (Below.refl _ _) 1
    clear hH0 hc0 hc1 hc2
    refine wpAnyH_take (i := 0) (v := .pointer (some ⟨B1, 1, none⟩)) rfl (by kernel_rfl) (by kernel_rfl) (by kernel_rfl) (fun _ _ _ h => h) (Or.inl ⟨by kernel_rfl, by (intro w hSw; (try dsimp only at hSw); go_simp)⟩) hHeld ?_
    simp only [Act.put, List.getElem_toArray, List.getElem_cons_succ, List.getElem_cons_zero, List.setIfInBounds_toArray, List.set_cons_zero, List.set_cons_succ]
    refine wpAnyH_take (i := 1) (v := .slice (some ad) 3 c) rfl (by kernel_rfl) (by kernel_rfl) (by kernel_rfl) (fun _ _ _ h => h) (Or.inl ⟨by kernel_rfl, by (intro w hSw; (try dsimp only at hSw); go_simp)⟩) hHeld ?_
    simp only [Act.put, List.getElem_toArray, List.getElem_cons_succ, List.getElem_cons_zero, List.setIfInBounds_toArray, List.set_cons_zero, List.set_cons_succ]
    refine wpAnyH_take (i := 2) (v := .pointer (some ad)) rfl (by kernel_rfl) (by kernel_rfl) (by kernel_rfl) (fun _ _ _ h => h) (Or.inl ⟨by kernel_rfl, by (intro w hSw; (try dsimp only at hSw); go_simp)⟩) hHeld ?_
    simp only [Act.put, List.getElem_toArray, List.getElem_cons_succ, List.getElem_cons_zero, List.setIfInBounds_toArray, List.set_cons_zero, List.set_cons_succ]
    refine wpAnyH_take (i := 3) (v := .string ⟨x.toArray⟩) rfl (by kernel_rfl) (by kernel_rfl) (by kernel_rfl) (fun _ _ _ h => h) (Or.inl ⟨by kernel_rfl, by (intro w hSw; (try dsimp only at hSw); go_simp)⟩) hHeld ?_
    simp only [Act.put, List.getElem_toArray, List.getElem_cons_succ, List.getElem_cons_zero, List.setIfInBounds_toArray, List.set_cons_zero, List.set_cons_succ]
    refine wpAnyH_take (i := 5) (v := .pointer (some ⟨B1, 1, none⟩)) rfl (by kernel_rfl) (by kernel_rfl) (by kernel_rfl) (fun _ _ _ h => h) (Or.inl ⟨by kernel_rfl, by (intro w hSw; (try dsimp only at hSw); go_simp)⟩) hHeld ?_
    simp only [Act.put, List.getElem_toArray, List.getElem_cons_succ, List.getElem_cons_zero, List.setIfInBounds_toArray, List.set_cons_zero, List.set_cons_succ]
    refine wpAnyH_take (i := 6) (v := .slice (some ad) 3 c) rfl (by kernel_rfl) (by kernel_rfl) (by kernel_rfl) (fun _ _ _ h => h) (Or.inl ⟨by kernel_rfl, by (intro w hSw; (try dsimp only at hSw); go_simp)⟩) hHeld ?_
    simp only [Act.put, List.getElem_toArray, List.getElem_cons_succ, List.getElem_cons_zero, List.setIfInBounds_toArray, List.set_cons_zero, List.set_cons_succ]
    refine wpAnyH_take (i := 7) (v := .pointer (some ⟨ad.block, ad.off + 1, none⟩)) rfl (by kernel_rfl) (by kernel_rfl) (by kernel_rfl) (fun _ _ _ h => h) (Or.inl ⟨by kernel_rfl, by (intro w hSw; (try dsimp only at hSw); go_simp)⟩) hHeld ?_
    simp only [Act.put, List.getElem_toArray, List.getElem_cons_succ, List.getElem_cons_zero, List.setIfInBounds_toArray, List.set_cons_zero, List.set_cons_succ]
    refine wpAnyH_take (i := 8) (v := .string ⟨y.toArray⟩) rfl (by kernel_rfl) (by kernel_rfl) (by kernel_rfl) (fun _ _ _ h => h) (Or.inl ⟨by kernel_rfl, by (intro w hSw; (try dsimp only at hSw); go_simp)⟩) hHeld ?_
    simp only [Act.put, List.getElem_toArray, List.getElem_cons_succ, List.getElem_cons_zero, List.setIfInBounds_toArray, List.set_cons_zero, List.set_cons_succ]
    refine wpAnyH_take (i := 10) (v := .pointer (some ⟨B1, 1, none⟩)) rfl (by kernel_rfl) (by kernel_rfl) (by kernel_rfl) (fun _ _ _ h => h) (Or.inl ⟨by kernel_rfl, by (intro w hSw; (try dsimp only at hSw); go_simp)⟩) hHeld ?_
    simp only [Act.put, List.getElem_toArray, List.getElem_cons_succ, List.getElem_cons_zero, List.setIfInBounds_toArray, List.set_cons_zero, List.set_cons_succ]
    refine wpAnyH_take (i := 11) (v := .slice (some ad) 3 c) rfl (by kernel_rfl) (by kernel_rfl) (by kernel_rfl) (fun _ _ _ h => h) (Or.inl ⟨by kernel_rfl, by (intro w hSw; (try dsimp only at hSw); go_simp)⟩) hHeld ?_
    simp only [Act.put, List.getElem_toArray, List.getElem_cons_succ, List.getElem_cons_zero, List.setIfInBounds_toArray, List.set_cons_zero, List.set_cons_succ]
    refine wpAnyH_take (i := 12) (v := .pointer (some ⟨ad.block, ad.off + 2, none⟩)) rfl (by kernel_rfl) (by kernel_rfl) (by kernel_rfl) (fun _ _ _ h => h) (Or.inl ⟨by kernel_rfl, by (intro w hSw; (try dsimp only at hSw); go_simp)⟩) hHeld ?_
    simp only [Act.put, List.getElem_toArray, List.getElem_cons_succ, List.getElem_cons_zero, List.setIfInBounds_toArray, List.set_cons_zero, List.set_cons_succ]
    refine wpAnyH_take (i := 13) (v := .string ⟨z.toArray⟩) rfl (by kernel_rfl) (by kernel_rfl) (by kernel_rfl) (fun _ _ _ h => h) (Or.inl ⟨by kernel_rfl, by (intro w hSw; (try dsimp only at hSw); go_simp)⟩) hHeld ?_
    simp only [Act.put, List.getElem_toArray, List.getElem_cons_succ, List.getElem_cons_zero, List.setIfInBounds_toArray, List.set_cons_zero, List.set_cons_succ]
    refine wpAnyH_ready (rs := [4]) (by kernel_rfl) (by simp) ?_
    refine AllReadyH.cons rfl (fun K hK => ?_) AllReadyH.nil
    go_simp
    refine (hF.out _).mono ?_
    rintro e x1 ⟨rfl, hx1⟩
    have hc1' := hc0'.trans (hx1.mono hc0'.size)
    go_wp2_with fail
    refine hK.out _ _ ⟨(hc1'.cell (p := ⟨B1, 1, none⟩) hl1).trans k1, (hc1'.cell (p := ad) hl2).trans k2, (hc1'.cell (p := ⟨ad.block, ad.off + 1, none⟩) hl2).trans k3, (hc1'.cell (p := ⟨ad.block, ad.off + 2, none⟩) hl2).trans k4⟩ (fun hHeld => ?_)
    clear hK K
    try simp only [Act.put, List.getElem_toArray, List.getElem_cons_succ, List.getElem_cons_zero, List.setIfInBounds_toArray, List.set_cons_zero, List.set_cons_succ]
    refine wpAnyH_ready (rs := [9]) (by kernel_rfl) (by simp) ?_
    refine AllReadyH.cons rfl (fun K hK => ?_) AllReadyH.nil
    go_simp
    refine (hG.out _).mono ?_
    rintro e x2 ⟨rfl, hx2⟩
    have hc2' := hc1'.trans (hx2.mono hc1'.size)
    go_wp2_with fail
    refine hK.out _ _ ⟨(hc2'.cell (p := ⟨B1, 1, none⟩) hl1).trans k1, (hc2'.cell (p := ad) hl2).trans k2, (hc2'.cell (p := ⟨ad.block, ad.off + 1, none⟩) hl2).trans k3, (hc2'.cell (p := ⟨ad.block, ad.off + 2, none⟩) hl2).trans k4⟩ (fun hHeld => ?_)
    clear hK K
    try simp only [Act.put, List.getElem_toArray, List.getElem_cons_succ, List.getElem_cons_zero, List.setIfInBounds_toArray, List.set_cons_zero, List.set_cons_succ]
    refine wpAnyH_ready (rs := [14]) (by kernel_rfl) (by simp) ?_
    refine AllReadyH.cons rfl (fun K hK => ?_) AllReadyH.nil
    go_simp
    refine (hH.out _).mono ?_
    rintro e x3 ⟨rfl, hx3⟩
    have hc3' := hc2'.trans (hx3.mono hc2'.size)
    go_wp2_with fail
    refine hK.out _ _ ⟨(hc3'.cell (p := ⟨B1, 1, none⟩) hl1).trans k1, (hc3'.cell (p := ad) hl2).trans k2, (hc3'.cell (p := ⟨ad.block, ad.off + 1, none⟩) hl2).trans k3, (hc3'.cell (p := ⟨ad.block, ad.off + 2, none⟩) hl2).trans k4⟩ (fun hHeld => ?_)
    clear hK K
    try simp only [Act.put, List.getElem_toArray, List.getElem_cons_succ, List.getElem_cons_zero, List.setIfInBounds_toArray, List.set_cons_zero, List.set_cons_succ]
    refine wpAnyH_take (i := 15) (v := .int .i64 Y) rfl (by kernel_rfl) (by kernel_rfl) (by kernel_rfl) (fun _ _ _ h => h) (Or.inl ⟨by kernel_rfl, by (intro w hSw; (try dsimp only at hSw); go_simp)⟩) hHeld ?_
    simp only [Act.put, List.getElem_toArray, List.getElem_cons_succ, List.getElem_cons_zero, List.setIfInBounds_toArray, List.set_cons_zero, List.set_cons_succ]
    refine wpAnyH_take (i := 16) (v := .int .i64 M) rfl (by kernel_rfl) (by kernel_rfl) (by kernel_rfl) (fun _ _ _ h => h) (Or.inl ⟨by kernel_rfl, by (intro w hSw; (try dsimp only at hSw); go_simp)⟩) hHeld ?_
    simp only [Act.put, List.getElem_toArray, List.getElem_cons_succ, List.getElem_cons_zero, List.setIfInBounds_toArray, List.set_cons_zero, List.set_cons_succ]
    refine wpAnyH_take (i := 17) (v := .int .i64 D) rfl (by kernel_rfl) (by kernel_rfl) (by kernel_rfl) (fun _ _ _ h => h) (Or.inl ⟨by kernel_rfl, by (intro w hSw; (try dsimp only at hSw); go_simp)⟩) hHeld ?_
    simp only [Act.put, List.getElem_toArray, List.getElem_cons_succ, List.getElem_cons_zero, List.setIfInBounds_toArray, List.set_cons_zero, List.set_cons_succ]
    refine wpAnyH_done (by kernel_rfl) ?_ _
    clear hHeld k1 k2 k3 k4 hl1 hl2 hF hG hH
    have hb2 := hb0.trans (hc3'.mono hb0.size)
    have hT2 := hT.below hb2
    clear hc1' hc2' hc3' hx1 hx2 hx3
    have hdy := Lib.hid (fun w9 : World => day_any Y M D w9)
    cases hdb : dayB Y M D with
    | false =>
      rw [hdb] at hdy
      have hw := Lib.hid (show datW Y M D = [] by unfold datW; rw [hdb]; rfl)
      go_wp2_with fail
      refine (hdy.out _).mono ?_
      rintro e w' ⟨rfl, rfl⟩
      go_wp2
      go_ret
      rw [hkw.out, hw.out]
      exact ⟨_, rfl, World.ownsRow_nil _ _ _ _, hb2⟩
    | true =>
      rw [hdb] at hdy
      obtain ⟨⟨y1, y2⟩, ⟨m1, m2⟩, d1, d2⟩ := dayB_true hdb
      obtain ⟨yy, rfl⟩ : ∃ n : Nat, Y = (n : Int) := ⟨Y.toNat, by omega⟩
      obtain ⟨mm, rfl⟩ : ∃ n : Nat, M = (n : Int) := ⟨M.toNat, by omega⟩
      obtain ⟨dd, rfl⟩ : ∃ n : Nat, D = (n : Int) := ⟨D.toNat, by omega⟩
      have hw := Lib.hid (show datW yy mm dd = [[116, 104, 101]] ++ sordW dd ++ [[111, 102], monthN mm] ++ yrW yy by unfold datW; rw [hdb, if_pos rfl, Int.toNat_natCast, Int.toNat_natCast, Int.toNat_natCast])
      have ho := Lib.hid (fun (w9 : World) (h9 : WT w9) => spokenOrdinal_any dd (by omega) (cnt31 dd (by omega)) w9 h9)
      have hmn := Lib.hid (fun (w9 : World) (h9 : WT w9) => month_any mm (by omega) (by omega) w9 h9)
      have hyr := Lib.hid (fun (w9 : World) (h9 : WT w9) => spokenYear_any yy (by omega) w9 h9)
      have hl1 : (sordW dd).length ≤ 400 := by unfold sordW; rw [List.length_set]; exact cntW_len dd
      have hl2 := yrW_len yy
      clear hdb
      generalize sordW dd = OD at *
      generalize monthN mm = MN at *
      generalize yrW yy = YR at *
      go_wp2_with fail
      refine (hdy.out _).mono ?_
      rintro e w' ⟨rfl, rfl⟩
      have hA0 := (Below.refl x3.heap.size x3).alloc (Nat.le_refl _) (.cells #[.string ⟨#[116, 104, 101]⟩] 9)
      have hO0 := own_mono (own_lit x3 [[116, 104, 101]] (by simp)) hb2.size
      have hb3 := hb2.trans (hA0.mono hb2.size)
      go_wp2_with fail
      refine (ho.out _ (hT2.alloc _)).mono ?_
      rintro e x4 ⟨V4, rfl, hO4, hb4⟩
      obtain ⟨A4, c4, rfl, hS4⟩ := Src.of_own hO4 (oneCell_svs OD)
      have hOa := own_below hO0 hb4
      have hba := hb3.trans (hb4.mono hb3.size)
      go_wp2_with (at_builtin; refine wpList_append_any rfl (.tmp 32) (.tmp 34) 32 rfl w.heap.size 9 i0 (.string ⟨#[]⟩) 1 16 Tryz.underlying32 hi hz0 hz1 hz2 rfl (by decide) _ 1 (svs [[116, 104, 101]]) rfl hOa A4 OD.length c4 (svs OD) rfl hS4 (by unfold maxLen; omega) (by omega) hba.size ?_; intro V5 xV5 hOx hGx hZx; clear hZx)
      have hBA : Below w.heap.size w xV5 := bel_grown2 hba hGx (fun k9 e => (hOa.lt k9 e).1)
      have hWA := own_app hOx rfl rfl
      have hTA := hT.below hBA
      clear hOx hGx
      have hlA : ([[116, 104, 101]] ++ OD).length ≤ 401 := by rw [List.length_append]; simp; omega
      generalize [[116, 104, 101]] ++ OD = P at *
      go_wp2_with fail
      refine (hmn.out xV5 hTA).mono ?_
      rintro e w' ⟨rfl, rfl⟩
      have hA5 := (Below.refl xV5.heap.size xV5).alloc (Nat.le_refl _) (.cells #[.string ⟨#[111, 102]⟩, .string ⟨MN.toArray⟩] 9)
      have hO5 := own_below hWA hA5
      have hb5 := hBA.trans (hA5.mono hBA.size)
      have hlit := own_lit xV5 [[111, 102], MN] (by simp)
      obtain ⟨AL, cL, hLe, hSL⟩ := Src.of_own hlit (oneCell_svs _)
      injection hLe with hL1 hL2 hL3
      subst hL1
      subst hL3
      go_wp2_with (at_builtin; refine wpList_append_any rfl (.tmp 36) (.tmp 39) 32 rfl w.heap.size 9 i0 (.string ⟨#[]⟩) 1 16 Tryz.underlying32 hi hz0 hz1 hz2 rfl (by decide) V5 P.length (svs P) rfl hO5 _ 2 2 (svs [[111, 102], MN]) rfl hSL (by unfold maxLen; omega) (by omega) hb5.size ?_; intro V6 xV6 hOx hGx hZx; clear hZx)
      have hBB : Below w.heap.size w xV6 := bel_grown2 hb5 hGx (fun k9 e => (hO5.lt k9 e).1)
      have hWB := own_app hOx rfl rfl
      have hTB := hT.below hBB
      clear hOx hGx
      have hlB : (P ++ [[111, 102], MN]).length ≤ 403 := by rw [List.length_append]; simp; omega
      generalize P ++ [[111, 102], MN] = Q at *
      go_wp2_with fail
      refine (hyr.out xV6 hTB).mono ?_
      rintro e x7 ⟨V7, rfl, hO7, hb7⟩
      obtain ⟨A7, c7, rfl, hS7⟩ := Src.of_own hO7 (oneCell_svs YR)
      have hOc := own_below hWB hb7
      have hbc := hBB.trans (hb7.mono hBB.size)
      go_wp2_with (at_builtin; refine wpList_append_any rfl (.tmp 41) (.tmp 43) 32 rfl w.heap.size 9 i0 (.string ⟨#[]⟩) 1 16 Tryz.underlying32 hi hz0 hz1 hz2 rfl (by decide) V6 Q.length (svs Q) rfl hOc A7 YR.length c7 (svs YR) rfl hS7 (by unfold maxLen; omega) (by omega) hbc.size ?_; intro V8 xV8 hOx hGx hZx; clear hZx)
      have hBC : Below w.heap.size w xV8 := bel_grown2 hbc hGx (fun k9 e => (hOc.lt k9 e).1)
      have hWC := own_app hOx rfl rfl
      have hTC := hT.below hBC
      clear hOx hGx
      go_wp2
      go_ret
      rw [hkw.out, hw.out]
      exact ⟨V8, rfl, hWC, hBC⟩
  · have g1 : (sh == [48, 45, 48, 45, 48]) = false := by rw [beq_eq_false_iff_ne]; exact h1
    have hw := Lib.hid (show kDat sh ns = [] from if_neg h1)
    go_enter Tryz.func249, Tryz.ntmps249
    go_wp2
    go_ret
    rw [hw.out]
    exact ⟨_, rfl, World.ownsRow_nil _ _ _ _, below_two _ _ _⟩
end Go.Proofs.YtpdfjlbfhnapkaaGreatDoor
