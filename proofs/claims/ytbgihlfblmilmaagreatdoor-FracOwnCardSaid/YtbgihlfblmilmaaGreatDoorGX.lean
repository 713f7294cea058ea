/- The first greatest number of a list. -/
import Derived.Test.YtbgihlfblmilmaaGreatDoorGW
namespace Go.Proofs.YtbgihlfblmilmaaGreatDoor.Fr
open Go.RowKit Num

/-- the index of the first greatest one of the first k -/
def bst (qs : List Rat) : Nat → Int
  | 0 => -1
  | k + 1 => if bst qs k < 0 ∨ 0 < cq (qs.getD k 0) (qs.getD (bst qs k).toNat 0) then (k : Int) else bst qs k
theorem bst_bound (qs : List Rat) (k : Nat) : -1 ≤ bst qs k ∧ bst qs k < k := by
  induction k with
  | zero => simp [bst]
  | succ k ih => unfold bst; split <;> omega
theorem cq_bound (a b : Rat) : -1 ≤ cq a b ∧ cq a b ≤ 1 := by unfold cq; split <;> (try split) <;> omega

set_option maxHeartbeats 3200000 in
theorem best1Q (v1 v2 : Value) (q1 q2 : Rat) (L : Nat) (w : World) (h1 : RQ w v1 q1 L) (h2 : RQ w v2 q2 L) (hL : L ≤ 400000) : Calls Tryz.prog 105 #[v1, v2] w fun e w' => e = .returned (.int .i64 (cq q1 q2)) ∧ Below w.heap.size w w' := by
  obtain ⟨s1, A1, n1, c1, A2, n2, c2, rfl⟩ := h1.form
  obtain ⟨s2, A3, n3, c3, A4, n4, c4, rfl⟩ := h2.form
  obtain ⟨B1, B2, hw0⟩ := two_blk w 67 #[.bool s1, .slice A1 n1 c1, .slice A2 n2 c2] #[.bool s2, .slice A3 n3 c3, .slice A4 n4 c4]
  have h1 := h1.below hw0
  have h2 := h2.below hw0
  go_enter Tryz.func105, Tryz.ntmps105
  go_upto_region 1 with fail
  generalize (w.alloc (.cells #[.bool s1, .slice A1 n1 c1, .slice A2 n2 c2] 67)).alloc (.cells #[.bool s2, .slice A3 n3 c3, .slice A4 n4 c4] 67) = w1 at *
  have r0 := B1.cell 0
  have r1 := B1.cell 1
  have r2 := B1.cell 2
  have r3 := B2.cell 0
  have r4 := B2.cell 1
  have r5 := B2.cell 2
  go_wp2_with fail
  refine (cmpQ _ _ q1 q2 L _ h1 h2 hL).mono ?_
  rintro e w2 ⟨rfl, hb2⟩
  have hw2 := hw0.trans (hb2.mono hw0.size)
  go_wp2
  go_ret
  exact ⟨rfl, hw2⟩

set_option maxHeartbeats 12800000 in
set_option maxRecDepth 100000 in
theorem greatestQ (A : Option Addr) (n c L : Nat) (qs : List Rat) (w : World) (h : Ls RQ w A n c L qs) (hL : L ≤ 400000) :
    Calls Tryz.prog 104 #[.slice A n c, .func (.func 105) #[] #[]] w fun e w' => e = .returned (.int .i64 (bst qs n)) ∧ Below w.heap.size w w' := by
  have hc1 := h.cap
  have hc2 := h.top
  have hlen := Lib.hid h.len
  have hw0 := Below.refl w.heap.size w
  go_enter Tryz.func104, Tryz.ntmps104
  go_wp2_with fail
  go_loopw [5, 10] (fun bv iv wr => ∃ k : Nat, iv = .int .i64 k ∧ bv = .int .i64 (bst qs k) ∧ k ≤ n ∧ Below w.heap.size w wr) (fun _ iv _ => n - (intOf iv).toNat)
  case atStart => exact ⟨0, rfl, rfl, Nat.zero_le _, hw0⟩
  case round =>
    clear hw0
    obtain ⟨k, rfl, rfl, hkn, hb⟩ := hrel
    obtain ⟨bb1, bb2⟩ := bst_bound qs k
    by_cases hlt : k < n
    · obtain ⟨ad, s, A1, m1, c1, x1, A2, m2, c2, x2, N, D, rfl, k0, k1, k2, d1, n1, e1, l1, d2, n2, e2, l2, p1, g1, hf⟩ := (h.below bels_rq hb).rq hlt
      have hq : RQ wr (.agg #[.bool s, .slice A1 m1 c1, .slice A2 m2 c2]) (qs.getD k 0) L := ⟨s, N, D, ⟨_, _, rfl, NV.mk d1 n1 e1 l1, NV.mk d2 n2 e2 l2⟩, p1, g1, hf⟩
      have hba := (Below.refl wr.heap.size wr).alloc (Nat.le_refl _) (.cells #[.bool s, .slice A1 m1 c1, .slice A2 m2 c2] 67)
      have B5 := Blk.new wr 67 #[.bool s, .slice A1 m1 c1, .slice A2 m2 c2]
      have hq := hq.below hba
      have hb := hb.trans (hba.mono hb.size)
      have hstep := Lib.hid (show bst qs (k + 1) = if bst qs k < 0 ∨ 0 < cq (qs.getD k 0) (qs.getD (bst qs k).toNat 0) then (k : Int) else bst qs k from rfl)
      go_upto_region 5 with fail
      generalize wr.alloc (.cells #[.bool s, .slice A1 m1 c1, .slice A2 m2 c2] 67) = w5 at *
      by_cases hneg : bst qs k < 0
      · have hs := hstep.out
        rw [if_pos (.inl hneg)] at hs
        have hs := Lib.hid hs
        generalize bst qs k = bb at *
        have hd : decide (bb < 0) = true := decide_eq_true hneg
        go_quiet (fail)
        go_wp2
        go_roundw
        case rel => exact ⟨k + 1, by go_num, congrArg (Value.int .i64) hs.out.symm, hlt, bel_drewN hb nq⟩
        case measure => simp [intOf]; omega
      · obtain ⟨b, hbb⟩ : ∃ b : Nat, bst qs k = b := ⟨(bst qs k).toNat, by omega⟩
        rw [hbb] at hneg bb1 bb2 ⊢
        have hs := hstep.out
        rw [hbb, Int.toNat_natCast] at hs
        have hbk : b < n := by omega
        obtain ⟨ad2, s', A3, m3, c3, x3, A4, m4, c4, x4, N', D', hadd, k3, k4, k5, d3, n3, e3, l3, d4, n4, e4, l4, p2, g2, hf2⟩ := (h.below bels_rq hb).rq hbk
        injection hadd with hadd
        subst hadd
        have hq2 : RQ w5 (.agg #[.bool s', .slice A3 m3 c3, .slice A4 m4 c4]) (qs.getD b 0) L := ⟨s', N', D', ⟨_, _, rfl, NV.mk d3 n3 e3 l3, NV.mk d4 n4 e4 l4⟩, p2, g2, hf2⟩
        obtain ⟨cb1, cb2⟩ := cq_bound (qs.getD k 0) (qs.getD b 0)
        have hd : decide ((b : Int) < 0) = false := decide_eq_false hneg
        have r0 := B5.cell 0
        have r1 := B5.cell 1
        have r2 := B5.cell 2
        have hcall := Lib.hid (best1Q _ _ _ _ L w5.drew (hq.below (Below.refl _ _).drew) (hq2.below (Below.refl _ _).drew) hL)
        clear hq hq2 d3 d4 n3 n4 e3 e4 hf2 d1 d2 n1 n2 e1 e2 hf hbb
        generalize hcqv : cq (qs.getD k 0) (qs.getD b 0) = cv at *
        by_cases hcv : 0 < cv
        · have hs' : bst qs (k + 1) = (k : Int) := by rw [hs, if_pos (.inr hcv)]
          have hs' := Lib.hid hs'
          clear hs hstep hcqv
          have hdc : decide (0 < cv) = true := decide_eq_true hcv
          go_region_with (go_at_call 105; refine hcall.out.mono ?_; rintro e w6 ⟨rfl, hb6⟩)
          all_goals (have hb7 := hb.drew.trans (hb6.mono hb.drew.size))
          all_goals go_wp2
          all_goals go_roundw
          all_goals first
            | (simp [intOf]; omega)
            | exact ⟨k + 1, by go_num, congrArg (Value.int .i64) hs'.out.symm, hlt, hb7⟩
        · have hs' : bst qs (k + 1) = (b : Int) := by rw [hs, if_neg (by intro h; rcases h with h | h; exact hneg h; exact hcv h)]
          have hs' := Lib.hid hs'
          clear hs hstep hcqv
          have hdc : decide (0 < cv) = false := decide_eq_false hcv
          go_region_with (go_at_call 105; refine hcall.out.mono ?_; rintro e w6 ⟨rfl, hb6⟩)
          all_goals (have hb7 := hb.drew.trans (hb6.mono hb.drew.size))
          all_goals go_wp2
          all_goals go_roundw
          all_goals first
            | (simp [intOf]; omega)
            | exact ⟨k + 1, by go_num, congrArg (Value.int .i64) hs'.out.symm, hlt, hb7⟩
    · obtain rfl : k = n := by omega
      go_wp2
      go_ret
      exact ⟨rfl, hb⟩
set_option maxHeartbeats 1600000 in
theorem BestQ (A : Option Addr) (n c L : Nat) (qs : List Rat) (w : World) (h : Ls AF w A n c L qs) (hn : n ≤ 100000) (hL : 2 * L + 1 ≤ 400000) :
    Calls Tryz.prog 56 #[.slice A n c] w fun e w' => e = .returned (.int .i64 (bst qs n)) ∧ Below w.heap.size w w' := by
  have hw0 := Below.refl w.heap.size w
  go_enter Tryz.func56, Tryz.ntmps56
  go_wp2_with fail
  refine (loadAllQ _ _ _ L qs _ h hn (by omega)).mono ?_
  rintro e w2 ⟨A2, rfl, hl2, hw2⟩
  go_wp2_with fail
  refine (greatestQ _ _ _ (2 * L + 1) qs _ hl2 hL).mono ?_
  rintro e w3 ⟨rfl, hb3⟩
  have hw3 := hw2.trans (hb3.mono hw2.size)
  go_wp2
  go_ret
  exact ⟨rfl, hw3⟩
end Go.Proofs.YtbgihlfblmilmaaGreatDoor.Fr
