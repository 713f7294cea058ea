/- The words of times. -/
import Derived.Test.YtpdfjlbfhnapkaaGreatDoorTA
namespace Go.Proofs.YtpdfjlbfhnapkaaGreatDoor
open Go.RowKit
set_option linter.unusedSimpArgs false
set_option linter.unusedVariables false
set_option maxRecDepth 100000

/-- the words of a time -/
def clkW (h m : Int) : List Str := if (0 ≤ h ∧ h ≤ 23) ∧ (0 ≤ m ∧ m ≤ 59) then (if m = 0 then cntW h.toNat ++ [[104, 111, 117, 114, 115]] else cntW h.toNat ++ pairW m.toNat) else []
def kClk (sh : Str) (ns : List Str) : List Str := if sh = [48, 58, 48] then clkW (fieldI (ns.getD 0 []) 2) (fieldI (ns.getD 1 []) 2) else []
theorem two_cell {w : World} {A : Option Addr} {c : Nat} {x y : Str} (hS : Ss w A [x, y].length c [x, y]) : ∃ ad, A = some ad ∧ w.cell? ad = some (.string ⟨x.toArray⟩) ∧ w.cell? (ad.add 1) = some (.string ⟨y.toArray⟩) ∧ ad.block < w.heap.size ∧ ad.add 1 = ⟨ad.block, ad.off + 1, none⟩ := by
  obtain ⟨ad, rfl, hc⟩ := hS.cell (by simp)
  have hc0 := hc 0 x rfl
  have hap : ad.block < w.heap.size := by have := blt_of_cell hc0; rw [block_of_add] at this; exact this
  rw [show ad.add 0 = ad from by unfold Addr.add; simp] at hc0
  exact ⟨ad, rfl, hc0, hc 1 y rfl, hap, by unfold Addr.add; simp⟩
set_option maxHeartbeats 8000000 in
theorem clockSay_any (sh : Str) (ns : List Str) (A : Option Addr) (c : Nat) (w : World) (hT : WT w) (hS : Ss w A ns.length c ns) (hQ : PiQ sh ns) :
    Calls Tryz.prog 242 #[.agg #[], .agg #[.string ⟨sh.toArray⟩, .slice A ns.length c]] w (RetW (kClk sh ns) w) := by
  obtain ⟨i0, hi, hz0, hz1, hz2⟩ := info_parts info_str
  by_cases h1 : sh = [48, 58, 48]
  · subst h1
    obtain ⟨x, y, rfl, ⟨hD, hne⟩, hD2, hne2⟩ := ns_two hQ rfl rfl
    obtain ⟨ad, rfl, hc0, hc1, hap, hadd⟩ := two_cell hS
    have hF : Hid (∀ w9 : World, Calls Tryz.prog 244 #[.string ⟨x.toArray⟩, .int .i64 2] w9 fun e w' => e = .returned (.int .i64 (fieldI x 2)) ∧ Below w9.heap.size w9 w') := fun (w9 : World) => fieldOf_any x 2 (by decide) (by decide) hD w9
    have hG : Hid (∀ w9 : World, Calls Tryz.prog 244 #[.string ⟨y.toArray⟩, .int .i64 2] w9 fun e w' => e = .returned (.int .i64 (fieldI y 2)) ∧ Below w9.heap.size w9 w') := fun (w9 : World) => fieldOf_any y 2 (by decide) (by decide) hD2 w9
    have hkw := Lib.hid (show kClk [48, 58, 48] [x, y] = clkW (fieldI x 2) (fieldI y 2) from if_pos rfl)
    generalize fieldI x 2 = h at *
    generalize fieldI y 2 = m at *
    clear hS hQ hne hne2 hD hD2
    go_enter Tryz.func242, Tryz.ntmps242
    go_wp2_with fail
    have hb0 := below_two w (.cells #[] 118) (.cells #[.string ⟨#[48, 58, 48]⟩, .slice (some ad) 2 c] 87)
    have k1 : ((w.alloc (.cells #[] 118)).alloc (.cells #[.string ⟨#[48, 58, 48]⟩, .slice (some ad) 2 c] 87)).cell? ⟨w.heap.size + 1, 1, none⟩ = some (.slice (some ad) 2 c) := by
      have h9 := (Blk.new (w.alloc (.cells #[] 118)) 87 #[.string ⟨#[48, 58, 48]⟩, .slice (some ad) 2 c]).cell 1
      rw [World.size_alloc] at h9
      exact h9
    have k2 := (hb0.cell hap).trans hc0
    rw [show ad.add 1 = ⟨ad.block, ad.off + 1, none⟩ from hadd] at hc1
    have k3 := (hb0.cell (p := ⟨ad.block, ad.off + 1, none⟩) hap).trans hc1
    have hzz1 : w.heap.size + 1 < ((w.alloc (.cells #[] 118)).alloc (.cells #[.string ⟨#[48, 58, 48]⟩, .slice (some ad) 2 c] 87)).heap.size := by rw [World.size_alloc, World.size_alloc]; omega
    generalize (w.alloc (.cells #[] 118)).alloc (.cells #[.string ⟨#[48, 58, 48]⟩, .slice (some ad) 2 c] 87) = W1 at *
    obtain ⟨B1, hB1⟩ : ∃ B1, B1 = w.heap.size + 1 := ⟨_, rfl⟩
    rw [← hB1] at k1 hzz1 ⊢
    clear hB1
    have hw1d := bel_drewN hb0 1
    have hl1 : (⟨B1, 1, none⟩ : Addr).block < W1.heap.size := hzz1
    have hl2 : ad.block < W1.heap.size := by have := hb0.size; omega
    have hl3 : (⟨ad.block, ad.off + 1, none⟩ : Addr).block < W1.heap.size := hl2
    have hH0 : (fun wx : World => wx.cell? ⟨B1, 1, none⟩ = some (.slice (some ad) 2 c) ∧ wx.cell? ad = some (.string ⟨x.toArray⟩) ∧ wx.cell? ⟨ad.block, ad.off + 1, none⟩ = some (.string ⟨y.toArray⟩)) W1.drew := ⟨k1, k2, k3⟩
    refine wp_region_held_drew (S := (fun wx => wx.cell? ⟨B1, 1, none⟩ = some (.slice (some ad) 2 c) ∧ wx.cell? ad = some (.string ⟨x.toArray⟩) ∧ wx.cell? ⟨ad.block, ad.off + 1, none⟩ = some (.string ⟨y.toArray⟩))) (by kernel_rfl) hH0 (fun hHeld => ?_)
    have hc0' : Below W1.heap.size W1 (W1.drewN 1) := bel_drewN (Below.refl _ _) 1
    clear hH0 hc0 hc1 hadd
    refine wpAnyH_take (i := 0) (v := .pointer (some ⟨B1, 1, none⟩)) rfl (by kernel_rfl) (by kernel_rfl) (by kernel_rfl) (fun _ _ _ h => h) (Or.inl ⟨by kernel_rfl, by (intro w hSw; (try dsimp only at hSw); go_simp)⟩) hHeld ?_
    simp only [Act.put, List.getElem_toArray, List.getElem_cons_succ, List.getElem_cons_zero, List.setIfInBounds_toArray, List.set_cons_zero, List.set_cons_succ]
    refine wpAnyH_take (i := 1) (v := .slice (some ad) 2 c) rfl (by kernel_rfl) (by kernel_rfl) (by kernel_rfl) (fun _ _ _ h => h) (Or.inl ⟨by kernel_rfl, by (intro w hSw; (try dsimp only at hSw); go_simp)⟩) hHeld ?_
    simp only [Act.put, List.getElem_toArray, List.getElem_cons_succ, List.getElem_cons_zero, List.setIfInBounds_toArray, List.set_cons_zero, List.set_cons_succ]
    refine wpAnyH_take (i := 2) (v := .pointer (some ad)) rfl (by kernel_rfl) (by kernel_rfl) (by kernel_rfl) (fun _ _ _ h => h) (Or.inl ⟨by kernel_rfl, by (intro w hSw; (try dsimp only at hSw); go_simp)⟩) hHeld ?_
    simp only [Act.put, List.getElem_toArray, List.getElem_cons_succ, List.getElem_cons_zero, List.setIfInBounds_toArray, List.set_cons_zero, List.set_cons_succ]
    refine wpAnyH_take (i := 3) (v := .string ⟨x.toArray⟩) rfl (by kernel_rfl) (by kernel_rfl) (by kernel_rfl) (fun _ _ _ h => h) (Or.inl ⟨by kernel_rfl, by (intro w hSw; (try dsimp only at hSw); go_simp)⟩) hHeld ?_
    simp only [Act.put, List.getElem_toArray, List.getElem_cons_succ, List.getElem_cons_zero, List.setIfInBounds_toArray, List.set_cons_zero, List.set_cons_succ]
    refine wpAnyH_take (i := 5) (v := .pointer (some ⟨B1, 1, none⟩)) rfl (by kernel_rfl) (by kernel_rfl) (by kernel_rfl) (fun _ _ _ h => h) (Or.inl ⟨by kernel_rfl, by (intro w hSw; (try dsimp only at hSw); go_simp)⟩) hHeld ?_
    simp only [Act.put, List.getElem_toArray, List.getElem_cons_succ, List.getElem_cons_zero, List.setIfInBounds_toArray, List.set_cons_zero, List.set_cons_succ]
    refine wpAnyH_take (i := 6) (v := .slice (some ad) 2 c) rfl (by kernel_rfl) (by kernel_rfl) (by kernel_rfl) (fun _ _ _ h => h) (Or.inl ⟨by kernel_rfl, by (intro w hSw; (try dsimp only at hSw); go_simp)⟩) hHeld ?_
    simp only [Act.put, List.getElem_toArray, List.getElem_cons_succ, List.getElem_cons_zero, List.setIfInBounds_toArray, List.set_cons_zero, List.set_cons_succ]
    refine wpAnyH_take (i := 7) (v := .pointer (some ⟨ad.block, ad.off + 1, none⟩)) rfl (by kernel_rfl) (by kernel_rfl) (by kernel_rfl) (fun _ _ _ h => h) (Or.inl ⟨by kernel_rfl, by (intro w hSw; (try dsimp only at hSw); go_simp)⟩) hHeld ?_
    simp only [Act.put, List.getElem_toArray, List.getElem_cons_succ, List.getElem_cons_zero, List.setIfInBounds_toArray, List.set_cons_zero, List.set_cons_succ]
    refine wpAnyH_take (i := 8) (v := .string ⟨y.toArray⟩) rfl (by kernel_rfl) (by kernel_rfl) (by kernel_rfl) (fun _ _ _ h => h) (Or.inl ⟨by kernel_rfl, by (intro w hSw; (try dsimp only at hSw); go_simp)⟩) hHeld ?_
    simp only [Act.put, List.getElem_toArray, List.getElem_cons_succ, List.getElem_cons_zero, List.setIfInBounds_toArray, List.set_cons_zero, List.set_cons_succ]
    refine wpAnyH_ready (rs := [4]) (by kernel_rfl) (by simp) ?_
    refine AllReadyH.cons rfl (fun K hK => ?_) AllReadyH.nil
    go_simp
    refine (hF.out _).mono ?_
    rintro e x1 ⟨rfl, hx1⟩
    have hc1' := hc0'.trans (hx1.mono hc0'.size)
    go_wp2_with fail
    refine hK.out _ _ ⟨(hc1'.cell (p := ⟨B1, 1, none⟩) hl1).trans k1, (hc1'.cell (p := ad) hl2).trans k2, (hc1'.cell (p := ⟨ad.block, ad.off + 1, none⟩) hl3).trans k3⟩ (fun hHeld => ?_)
    clear hK K
    try simp only [Act.put, List.getElem_toArray, List.getElem_cons_succ, List.getElem_cons_zero, List.setIfInBounds_toArray, List.set_cons_zero, List.set_cons_succ]
    refine wpAnyH_ready (rs := [9]) (by kernel_rfl) (by simp) ?_
    refine AllReadyH.cons rfl (fun K hK => ?_) AllReadyH.nil
    go_simp
    refine (hG.out _).mono ?_
    rintro e x2 ⟨rfl, hx2⟩
    have hc2' := hc1'.trans (hx2.mono hc1'.size)
    go_wp2_with fail
    refine hK.out _ _ ⟨(hc2'.cell (p := ⟨B1, 1, none⟩) hl1).trans k1, (hc2'.cell (p := ad) hl2).trans k2, (hc2'.cell (p := ⟨ad.block, ad.off + 1, none⟩) hl3).trans k3⟩ (fun hHeld => ?_)
    clear hK K
    try simp only [Act.put, List.getElem_toArray, List.getElem_cons_succ, List.getElem_cons_zero, List.setIfInBounds_toArray, List.set_cons_zero, List.set_cons_succ]
    refine wpAnyH_take (i := 10) (v := .int .i64 h) rfl (by kernel_rfl) (by kernel_rfl) (by kernel_rfl) (fun _ _ _ h => h) (Or.inl ⟨by kernel_rfl, by (intro w hSw; (try dsimp only at hSw); go_simp)⟩) hHeld ?_
    simp only [Act.put, List.getElem_toArray, List.getElem_cons_succ, List.getElem_cons_zero, List.setIfInBounds_toArray, List.set_cons_zero, List.set_cons_succ]
    refine wpAnyH_take (i := 11) (v := .int .i64 m) rfl (by kernel_rfl) (by kernel_rfl) (by kernel_rfl) (fun _ _ _ h => h) (Or.inl ⟨by kernel_rfl, by (intro w hSw; (try dsimp only at hSw); go_simp)⟩) hHeld ?_
    simp only [Act.put, List.getElem_toArray, List.getElem_cons_succ, List.getElem_cons_zero, List.setIfInBounds_toArray, List.set_cons_zero, List.set_cons_succ]
    refine wpAnyH_done (by kernel_rfl) ?_ _
    clear hHeld k1 k2 k3 hl1 hl2 hl3 hF hG
    have hb2 := hb0.trans (hc2'.mono hb0.size)
    have hT2 := hT.below hb2
    have hw1 := Lib.hid (fun w9 : World => within_any h 0 23 w9)
    have hw2 := Lib.hid (fun w9 : World => within_any m 0 59 w9)
    by_cases g1 : 0 ≤ h ∧ h ≤ 23
    · rw [show (decide ((0 : Int) ≤ h) && decide (h ≤ 23)) = true by rw [decide_eq_true g1.1, decide_eq_true g1.2]; rfl] at hw1
      by_cases g2 : 0 ≤ m ∧ m ≤ 59
      · rw [show (decide ((0 : Int) ≤ m) && decide (m ≤ 59)) = true by rw [decide_eq_true g2.1, decide_eq_true g2.2]; rfl] at hw2
        obtain ⟨H, rfl⟩ : ∃ H : Nat, h = (H : Int) := ⟨h.toNat, by omega⟩
        obtain ⟨M, rfl⟩ : ∃ M : Nat, m = (M : Int) := ⟨m.toNat, by omega⟩
        have hw0 : clkW H M = if M = 0 then cntW H ++ [[104, 111, 117, 114, 115]] else cntW H ++ pairW M := by
          unfold clkW
          rw [if_pos ⟨g1, g2⟩, Int.toNat_natCast, Int.toNat_natCast]
          by_cases h9 : M = 0
          · rw [if_pos h9, if_pos (by omega)]
          · rw [if_neg h9, if_neg (by omega)]
        have hc := Lib.hid (fun (w9 : World) (h9 : WT w9) => sayCount_any H (by omega) w9 h9)
        have hp := Lib.hid (fun (w9 : World) (h9 : WT w9) => sayPair_any M (by omega) w9 h9)
        have hl := cntW_len H
        have hpl := pairW_len M
        generalize cntW H = Y at *
        generalize pairW M = Z at *
        by_cases h0 : M = 0
        · subst h0
          have hw := Lib.hid (show clkW H ((0 : Nat) : Int) = Y ++ [[104, 111, 117, 114, 115]] from hw0.trans (if_pos rfl))
          clear hw0 hp hpl
          go_wp2_with fail
          refine (hw1.out _).mono ?_
          rintro e w' ⟨rfl, rfl⟩
          go_wp2_with fail
          refine (hw2.out _).mono ?_
          rintro e w' ⟨rfl, rfl⟩
          go_wp2_with fail
          refine (hc.out _ hT2).mono ?_
          rintro e w2 ⟨V, rfl, hO, hb⟩
          have hb := hb2.trans (hb.mono hb2.size)
          have hO := own_mono hO hb2.size
          have hAl := (Below.refl w2.heap.size w2).alloc (Nat.le_refl _) (.cells #[.string ⟨#[104, 111, 117, 114, 115]⟩] 9)
          have hOl := own_below hO hAl
          have hSl := src_lit (x := [104, 111, 117, 114, 115]) (Blk.new w2 9 #[.string ⟨#[104, 111, 117, 114, 115]⟩])
          have hbl := hb.trans (hAl.mono hb.size)
          go_wp2_with (at_builtin; refine wpList_append_any rfl (.tmp 33) (.tmp 34) 32 rfl w.heap.size 9 i0 (.string ⟨#[]⟩) 1 16 Tryz.underlying32 hi hz0 hz1 hz2 rfl (by decide) V Y.length (svs Y) rfl hOl _ 1 1 (svs [[104, 111, 117, 114, 115]]) rfl hSl (by unfold maxLen; omega) (by omega) hbl.size ?_; intro V6 x6 hOx hGx hZx; clear hZx)
          have hb8 : Below w.heap.size w x6 := bel_grown2 hbl hGx (fun k9 e => (hOl.lt k9 e).1)
          have hO8 := own_app hOx rfl rfl
          go_wp2
          go_ret
          rw [hkw.out, hw.out]
          exact ⟨V6, rfl, hO8, hb8⟩
        · have hw := Lib.hid (show clkW H M = Y ++ Z from hw0.trans (if_neg h0))
          have g0 : ((M : Int) == 0) = false := by rw [beq_eq_false_iff_ne]; omega
          clear hw0
          go_wp2_with fail
          refine (hw1.out _).mono ?_
          rintro e w' ⟨rfl, rfl⟩
          go_wp2_with fail
          refine (hw2.out _).mono ?_
          rintro e w' ⟨rfl, rfl⟩
          go_wp2_with fail
          refine (hc.out _ hT2).mono ?_
          rintro e w2 ⟨V, rfl, hO, hb⟩
          have hb := hb2.trans (hb.mono hb2.size)
          have hO := own_mono hO hb2.size
          go_wp2_with fail
          refine (hp.out w2 (hT.below hb)).mono ?_
          rintro e w3 ⟨V3, rfl, hO3, hb3⟩
          obtain ⟨A3, c3, rfl, hS3⟩ := Src.of_own hO3 (oneCell_svs Z)
          have hOl := own_below hO hb3
          have hbl := hb.trans (hb3.mono hb.size)
          go_wp2_with (at_builtin; refine wpList_append_any rfl (.tmp 37) (.tmp 39) 32 rfl w.heap.size 9 i0 (.string ⟨#[]⟩) 1 16 Tryz.underlying32 hi hz0 hz1 hz2 rfl (by decide) V Y.length (svs Y) rfl hOl A3 Z.length c3 (svs Z) rfl hS3 (by unfold maxLen; omega) (by omega) hbl.size ?_; intro V6 x6 hOx hGx hZx; clear hZx)
          have hb8 : Below w.heap.size w x6 := bel_grown2 hbl hGx (fun k9 e => (hOl.lt k9 e).1)
          have hO8 := own_app hOx rfl rfl
          go_wp2
          go_ret
          rw [hkw.out, hw.out]
          exact ⟨V6, rfl, hO8, hb8⟩
      · rw [show (decide ((0 : Int) ≤ m) && decide (m ≤ 59)) = false by rw [Bool.and_eq_false_iff, decide_eq_false_iff_not, decide_eq_false_iff_not]; omega] at hw2
        have hw := Lib.hid (show clkW h m = [] from if_neg fun h9 => g2 h9.2)
        go_wp2_with fail
        refine (hw1.out _).mono ?_
        rintro e w' ⟨rfl, rfl⟩
        go_wp2_with fail
        refine (hw2.out _).mono ?_
        rintro e w' ⟨rfl, rfl⟩
        go_wp2
        go_ret
        rw [hkw.out, hw.out]
        exact ⟨_, rfl, World.ownsRow_nil _ _ _ _, hb2⟩
    · rw [show (decide ((0 : Int) ≤ h) && decide (h ≤ 23)) = false by rw [Bool.and_eq_false_iff, decide_eq_false_iff_not, decide_eq_false_iff_not]; omega] at hw1
      have hw := Lib.hid (show clkW h m = [] from if_neg fun h9 => g1 h9.1)
      go_wp2_with fail
      refine (hw1.out _).mono ?_
      rintro e w' ⟨rfl, rfl⟩
      go_wp2
      go_ret
      rw [hkw.out, hw.out]
      exact ⟨_, rfl, World.ownsRow_nil _ _ _ _, hb2⟩
  · have g1 : (sh == [48, 58, 48]) = false := by rw [beq_eq_false_iff_ne]; exact h1
    have hw := Lib.hid (show kClk sh ns = [] from if_neg h1)
    go_enter Tryz.func242, Tryz.ntmps242
    go_wp2
    go_ret
    rw [hw.out]
    exact ⟨_, rfl, World.ownsRow_nil _ _ _ _, below_two _ _ _⟩
end Go.Proofs.YtpdfjlbfhnapkaaGreatDoor

/- The words of sums of money. -/
namespace Go.Proofs.YtpdfjlbfhnapkaaGreatDoor
open Go.RowKit
set_option linter.unusedSimpArgs false
set_option linter.unusedVariables false
set_option maxRecDepth 100000

/-- the words of a sum of money -/
def mnyW (d c : Nat) : List Str := if c = 0 then cntW d ++ [countedN d [100, 111, 108, 108, 97, 114]] else if d = 0 then [] ++ cntW c ++ [countedN c [99, 101, 110, 116]] else cntW d ++ [countedN d [100, 111, 108, 108, 97, 114]] ++ [[97, 110, 100]] ++ cntW c ++ [countedN c [99, 101, 110, 116]]
set_option maxHeartbeats 8000000 in
theorem spokenMoney_any (d c : Nat) (hd : d < 1000000000000) (hc : c < 100) (w : World) (hT : WT w) : Calls Tryz.prog 258 #[.int .i64 (d : Int), .int .i64 (c : Int)] w (RetW (mnyW d c) w) := by
  obtain ⟨i0, hi, hz0, hz1, hz2⟩ := info_parts info_str
  have hcd := Lib.hid (sayCount_any d hd w hT)
  have hcc := Lib.hid (fun (w9 : World) (h9 : WT w9) => sayCount_any c (by omega) w9 h9)
  have hdd := Lib.hid (fun (w9 : World) => counted_any d [100, 111, 108, 108, 97, 114] w9 (by decide))
  have hdc := Lib.hid (fun (w9 : World) => counted_any c [99, 101, 110, 116] w9 (by decide))
  have hw0 : mnyW d c = if c = 0 then cntW d ++ [countedN d [100, 111, 108, 108, 97, 114]] else if d = 0 then [] ++ cntW c ++ [countedN c [99, 101, 110, 116]] else cntW d ++ [countedN d [100, 111, 108, 108, 97, 114]] ++ [[97, 110, 100]] ++ cntW c ++ [countedN c [99, 101, 110, 116]] := rfl
  have hl := cntW_len d
  have hl2 := cntW_len c
  generalize cntW d = Y at *
  generalize cntW c = Z at *
  generalize countedN d [100, 111, 108, 108, 97, 114] = D at *
  generalize countedN c [99, 101, 110, 116] = E at *
  by_cases h0 : c = 0
  · subst h0
    have hw := Lib.hid (show mnyW d 0 = Y ++ [D] from hw0.trans (if_pos rfl))
    clear hw0 hcc hdc hl2
    by_cases hd0 : d = 0
    · subst hd0
      go_enter Tryz.func258, Tryz.ntmps258
      go_wp2_with fail
      refine hcd.out.mono ?_
      rintro e w2 ⟨V, rfl, hO, hb⟩
      go_wp2_with fail
      refine (hdd.out w2).mono ?_
      rintro e w' ⟨rfl, rfl⟩
      have hAla := (Below.refl (w2).heap.size (w2)).alloc (Nat.le_refl _) (.cells #[.string ⟨D.toArray⟩] 9)
      have hOla := own_below hO hAla
      have hSla := src_lit (x := D) (Blk.new (w2) 9 #[.string ⟨D.toArray⟩])
      have hbla := hb.trans (hAla.mono hb.size)
      go_wp2_with (at_builtin; refine wpList_append_any rfl (.tmp 13) (.tmp 16) 32 rfl w.heap.size 9 i0 (.string ⟨#[]⟩) 1 16 Tryz.underlying32 hi hz0 hz1 hz2 rfl (by decide) V Y.length (svs Y) rfl hOla _ 1 1 (svs [D]) rfl hSla (by unfold maxLen; omega) (by omega) hbla.size ?_; intro V3 xV3 hOx hGx hZx; clear hZx)
      have hBA : Below w.heap.size w xV3 := bel_grown2 hbla hGx (fun k9 e => (hOla.lt k9 e).1)
      have hWA := own_app hOx rfl rfl
      have hTA := hT.below hBA
      clear hOx hGx
      have hlA : (Y ++ [D]).length ≤ 401 := by rw [List.length_append]; simp; omega
      generalize Y ++ [D] = P at *
      go_wp2
      go_ret
      rw [hw.out]
      exact ⟨V3, rfl, hWA, hBA⟩
    · have q1 : (0 : Int) < (d : Int) := by omega
      have q2 : decide ((0 : Int) < (d : Int)) = true := decide_eq_true q1
      go_enter Tryz.func258, Tryz.ntmps258
      go_wp2_with fail
      refine hcd.out.mono ?_
      rintro e w2 ⟨V, rfl, hO, hb⟩
      go_wp2_with fail
      refine (hdd.out w2).mono ?_
      rintro e w' ⟨rfl, rfl⟩
      have hAla := (Below.refl (w2).heap.size (w2)).alloc (Nat.le_refl _) (.cells #[.string ⟨D.toArray⟩] 9)
      have hOla := own_below hO hAla
      have hSla := src_lit (x := D) (Blk.new (w2) 9 #[.string ⟨D.toArray⟩])
      have hbla := hb.trans (hAla.mono hb.size)
      go_wp2_with (at_builtin; refine wpList_append_any rfl (.tmp 13) (.tmp 16) 32 rfl w.heap.size 9 i0 (.string ⟨#[]⟩) 1 16 Tryz.underlying32 hi hz0 hz1 hz2 rfl (by decide) V Y.length (svs Y) rfl hOla _ 1 1 (svs [D]) rfl hSla (by unfold maxLen; omega) (by omega) hbla.size ?_; intro V3 xV3 hOx hGx hZx; clear hZx)
      have hBA : Below w.heap.size w xV3 := bel_grown2 hbla hGx (fun k9 e => (hOla.lt k9 e).1)
      have hWA := own_app hOx rfl rfl
      have hTA := hT.below hBA
      clear hOx hGx
      have hlA : (Y ++ [D]).length ≤ 401 := by rw [List.length_append]; simp; omega
      generalize Y ++ [D] = P at *
      go_wp2
      go_ret
      rw [hw.out]
      exact ⟨V3, rfl, hWA, hBA⟩
  · have q3 : (0 : Int) < (c : Int) := by omega
    have q4 : decide ((0 : Int) < (c : Int)) = true := decide_eq_true q3
    have q5 : ((c : Int) == 0) = false := by rw [beq_eq_false_iff_ne]; omega
    by_cases hd0 : d = 0
    · subst hd0
      obtain ⟨N0, hN0⟩ : ∃ N0 : List Str, N0 = [] := ⟨[], rfl⟩
      have hw := Lib.hid (show mnyW 0 c = N0 ++ Z ++ [E] by rw [hN0]; exact hw0.trans ((if_neg h0).trans (if_pos rfl)))
      clear hw0 hcd hdd hl
      have hN : w.ownsRow w.heap.size 9 1 (.slice none 0 0) N0.length (svs N0) := by rw [hN0]; exact World.ownsRow_nil _ _ _ _
      have hBn := Below.refl w.heap.size w
      have hNl : N0.length ≤ 1 := by rw [hN0]; simp
      clear hN0
      go_enter Tryz.func258, Tryz.ntmps258
      go_wp2_with fail
      refine (hcc.out w hT).mono ?_
      rintro e w5 ⟨V5, rfl, hO5, hb5⟩
      obtain ⟨A5, c5, rfl, hS5⟩ := Src.of_own hO5 (oneCell_svs Z)
      have hOc := own_below hN hb5
      have hbc := hBn.trans (hb5.mono hBn.size)
      go_wp2_with (at_builtin; refine wpList_append_any rfl (.tmp 29) (.tmp 31) 32 rfl w.heap.size 9 i0 (.string ⟨#[]⟩) 1 16 Tryz.underlying32 hi hz0 hz1 hz2 rfl (by decide) (.slice none 0 0) (N0).length (svs (N0)) rfl hOc A5 Z.length c5 (svs Z) rfl hS5 (by unfold maxLen; omega) (by omega) hbc.size ?_; intro V6 xV6 hOx hGx hZx; clear hZx)
      have hBC : Below w.heap.size w xV6 := bel_grown2 hbc hGx (fun k9 e => (hOc.lt k9 e).1)
      have hWC := own_app hOx rfl rfl
      have hTC := hT.below hBC
      clear hOx hGx
      have hlC : (N0 ++ Z).length ≤ 900 := by rw [List.length_append]; omega
      generalize N0 ++ Z = Q at *
      go_wp2_with fail
      refine (hdc.out xV6).mono ?_
      rintro e w' ⟨rfl, rfl⟩
      have hAle := (Below.refl (xV6).heap.size (xV6)).alloc (Nat.le_refl _) (.cells #[.string ⟨E.toArray⟩] 9)
      have hOle := own_below hWC hAle
      have hSle := src_lit (x := E) (Blk.new (xV6) 9 #[.string ⟨E.toArray⟩])
      have hble := hBC.trans (hAle.mono hBC.size)
      go_wp2_with (at_builtin; refine wpList_append_any rfl (.tmp 32) (.tmp 35) 32 rfl w.heap.size 9 i0 (.string ⟨#[]⟩) 1 16 Tryz.underlying32 hi hz0 hz1 hz2 rfl (by decide) V6 Q.length (svs Q) rfl hOle _ 1 1 (svs [E]) rfl hSle (by unfold maxLen; omega) (by omega) hble.size ?_; intro V7 xV7 hOx hGx hZx; clear hZx)
      have hBF : Below w.heap.size w xV7 := bel_grown2 hble hGx (fun k9 e => (hOle.lt k9 e).1)
      have hWF := own_app hOx rfl rfl
      have hTF := hT.below hBF
      clear hOx hGx
      go_wp2
      go_ret
      rw [hw.out]
      exact ⟨V7, rfl, hWF, hBF⟩
    · have q1 : (0 : Int) < (d : Int) := by omega
      have q2 : decide ((0 : Int) < (d : Int)) = true := decide_eq_true q1
      have hw := Lib.hid (show mnyW d c = Y ++ [D] ++ [[97, 110, 100]] ++ Z ++ [E] from hw0.trans ((if_neg h0).trans (if_neg hd0)))
      clear hw0
      go_enter Tryz.func258, Tryz.ntmps258
      go_wp2_with fail
      refine hcd.out.mono ?_
      rintro e w2 ⟨V, rfl, hO, hb⟩
      go_wp2_with fail
      refine (hdd.out w2).mono ?_
      rintro e w' ⟨rfl, rfl⟩
      have hAla := (Below.refl (w2).heap.size (w2)).alloc (Nat.le_refl _) (.cells #[.string ⟨D.toArray⟩] 9)
      have hOla := own_below hO hAla
      have hSla := src_lit (x := D) (Blk.new (w2) 9 #[.string ⟨D.toArray⟩])
      have hbla := hb.trans (hAla.mono hb.size)
      go_wp2_with (at_builtin; first
        | (refine wpList_append_any rfl (.tmp 13) (.tmp 16) 32 rfl w.heap.size 9 i0 (.string ⟨#[]⟩) 1 16 Tryz.underlying32 hi hz0 hz1 hz2 rfl (by decide) V Y.length (svs Y) rfl hOla _ 1 1 (svs [D]) rfl hSla (by unfold maxLen; omega) (by omega) hbla.size ?_; intro V3 xV3 hOx hGx hZx; clear hZx
           have hBA : Below w.heap.size w xV3 := bel_grown2 hbla hGx (fun k9 e => (hOla.lt k9 e).1)
           have hWA := own_app hOx rfl rfl
           have hTA := hT.below hBA
           clear hOx hGx
           have hlA : (Y ++ [D]).length ≤ 401 := by rw [List.length_append]; simp; omega
           generalize Y ++ [D] = P at *
           have hAln := (Below.refl (xV3).heap.size (xV3)).alloc (Nat.le_refl _) (.cells #[.string ⟨#[97, 110, 100]⟩] 9)
           have hOln := own_below hWA hAln
           have hSln := src_lit (x := [97, 110, 100]) (Blk.new (xV3) 9 #[.string ⟨#[97, 110, 100]⟩])
           have hbln := hBA.trans (hAln.mono hBA.size))
        | (refine wpList_append_any rfl (.tmp 24) (.tmp 25) 32 rfl w.heap.size 9 i0 (.string ⟨#[]⟩) 1 16 Tryz.underlying32 hi hz0 hz1 hz2 rfl (by decide) V3 P.length (svs P) rfl hOln _ 1 1 (svs [[97, 110, 100]]) rfl hSln (by unfold maxLen; omega) (by omega) hbln.size ?_; intro V4 xV4 hOx hGx hZx; clear hZx))
      have hBN : Below w.heap.size w xV4 := bel_grown2 hbln hGx (fun k9 e => (hOln.lt k9 e).1)
      have hWN := own_app hOx rfl rfl
      have hTN := hT.below hBN
      clear hOx hGx
      have hlN : (P ++ [[97, 110, 100]]).length ≤ 402 := by rw [List.length_append]; simp; omega
      generalize P ++ [[97, 110, 100]] = R at *
      go_wp2_with fail
      refine (hcc.out xV4 hTN).mono ?_
      rintro e w5 ⟨V5, rfl, hO5, hb5⟩
      obtain ⟨A5, c5, rfl, hS5⟩ := Src.of_own hO5 (oneCell_svs Z)
      have hOc := own_below hWN hb5
      have hbc := hBN.trans (hb5.mono hBN.size)
      go_wp2_with (at_builtin; refine wpList_append_any rfl (.tmp 29) (.tmp 31) 32 rfl w.heap.size 9 i0 (.string ⟨#[]⟩) 1 16 Tryz.underlying32 hi hz0 hz1 hz2 rfl (by decide) V4 (R).length (svs (R)) rfl hOc A5 Z.length c5 (svs Z) rfl hS5 (by unfold maxLen; omega) (by omega) hbc.size ?_; intro V6 xV6 hOx hGx hZx; clear hZx)
      have hBC : Below w.heap.size w xV6 := bel_grown2 hbc hGx (fun k9 e => (hOc.lt k9 e).1)
      have hWC := own_app hOx rfl rfl
      have hTC := hT.below hBC
      clear hOx hGx
      have hlC : (R ++ Z).length ≤ 900 := by rw [List.length_append]; omega
      generalize R ++ Z = Q at *
      go_wp2_with fail
      refine (hdc.out xV6).mono ?_
      rintro e w' ⟨rfl, rfl⟩
      have hAle := (Below.refl (xV6).heap.size (xV6)).alloc (Nat.le_refl _) (.cells #[.string ⟨E.toArray⟩] 9)
      have hOle := own_below hWC hAle
      have hSle := src_lit (x := E) (Blk.new (xV6) 9 #[.string ⟨E.toArray⟩])
      have hble := hBC.trans (hAle.mono hBC.size)
      go_wp2_with (at_builtin; refine wpList_append_any rfl (.tmp 32) (.tmp 35) 32 rfl w.heap.size 9 i0 (.string ⟨#[]⟩) 1 16 Tryz.underlying32 hi hz0 hz1 hz2 rfl (by decide) V6 Q.length (svs Q) rfl hOle _ 1 1 (svs [E]) rfl hSle (by unfold maxLen; omega) (by omega) hble.size ?_; intro V7 xV7 hOx hGx hZx; clear hZx)
      have hBF : Below w.heap.size w xV7 := bel_grown2 hble hGx (fun k9 e => (hOle.lt k9 e).1)
      have hWF := own_app hOx rfl rfl
      have hTF := hT.below hBF
      clear hOx hGx
      go_wp2
      go_ret
      rw [hw.out]
      exact ⟨V7, rfl, hWF, hBF⟩
end Go.Proofs.YtpdfjlbfhnapkaaGreatDoor
