import Derived.Test.YtjpdgnbdbpgnmaaDoorY1
import Derived.Deep.DeepCutAuto
namespace Go.Proofs.YtjpdgnbdbpgnmaaDoor.Fr
open Go.RowKit Num

/-- the denominator that is written: none for 1 -/
def dw (D : Nat) : Nat := if D = 1 then 0 else D

set_option maxHeartbeats 3200000 in
set_option maxRecDepth 100000 in
theorem keep_any (s : Bool) (A A' : Option Addr) (n c n' c' : Nat) (xs ys : List Nat) (w : World) (h : Dg .u64 w A n c xs) (h' : Dg .u64 w A' n' c' ys) (hN : Nrm xs) (hN' : Nrm ys) (X Y : Nat) (hX : Hid (vl (bs .u64) xs = X)) (hY : Hid (vl (bs .u64) ys = Y)) (hn : n ≤ 100000) (hn' : n' ≤ 100000) :
    Calls Tryd.prog 96 #[.agg #[.bool s, .slice A n c, .slice A' n' c']] w
      fun e w' => ∃ v, e = .returned v ∧ FV w' v s X (dw Y) (2 * max n n') ∧ Below w.heap.size w w' := by
  have B1 := (Blk.new w 89 #[.bool s, .slice A n c, .slice A' n' c']).alloc (.cells #[.bool false, .slice none 0 0, .slice none 0 0] 75)
  have B2 := Blk.new (w.alloc (.cells #[.bool s, .slice A n c, .slice A' n' c'] 89)) 75 #[.bool false, .slice none 0 0, .slice none 0 0]
  have e1 : (w.alloc (.cells #[.bool s, .slice A n c, .slice A' n' c'] 89)).heap.size = w.heap.size + 1 := by simp
  have hw0 := ((Below.refl w.heap.size w).alloc (Nat.le_refl _) (.cells #[.bool s, .slice A n c, .slice A' n' c'] 89)).alloc (by rw [e1]; omega) (.cells #[.bool false, .slice none 0 0, .slice none 0 0] 75)
  rw [e1] at B2
  clear e1
  have h1 := h.below hw0
  have h2 := h'.below hw0
  go_enter Tryd.func96, Tryd.ntmps96
  go_upto_region 1 with fail
  generalize (w.alloc (.cells #[.bool s, .slice A n c, .slice A' n' c'] 89)).alloc (.cells #[.bool false, .slice none 0 0, .slice none 0 0] 75) = w1 at *
  have k0 : w1.cell? ⟨w.heap.size, 0, none⟩ = some (.bool s) := B1.cell 0
  have k1 : w1.cell? ⟨w.heap.size, 1, none⟩ = some (.slice A n c) := B1.cell 1
  have hB2lt := B2.lt
  go_cut [3] (fun v wx => ∃ g A5 m5 c5 us5, v = .pointer (some ⟨g, 0, none⟩) ∧ Blk wx g 75 #[.bool s, .slice A5 m5 c5, .slice none 0 0] ∧ Dg .u32 wx A5 m5 c5 us5 ∧ Nrm us5 ∧ Hid (vl (bs .u32) us5 = X) ∧ m5 ≤ 2 * n ∧
    Blk wx w.heap.size 89 #[.bool s, .slice A n c, .slice A' n' c'] ∧ Blk wx (w.heap.size + 1) 75 #[.bool false, .slice none 0 0, .slice none 0 0] ∧ w.heap.size + 1 < g ∧ Below w.heap.size w wx ∧
    Hid ((∀ ad, A5 = some ad → w.heap.size + 1 < ad.block) ∧ (0 < m5 → ∀ ad, A5 = some ad → ad.block ≠ g)) ∧ Dg .u64 wx A' n' c' ys)
  case first =>
    go_region_held3 (fun wx => wx.cell? ⟨w.heap.size, 0, none⟩ = some (.bool s) ∧ wx.cell? ⟨w.heap.size, 1, none⟩ = some (.slice A n c))
      (first | exact ⟨k0, k1⟩ | exact K5 | exact K8.out _ _ _ | go_keep)
      (first
        | (go_at_call 112; refine (digits_any _ _ _ _ _ (h1.drew) hN (by omega) X hX).mono ?_; rintro e w5 ⟨A5, m5, c5, us5, rfl, hD5, hN5, hv5, hm5, hb5, hf5⟩; have P1 := B1.drew.below hb5; have K5 : w5.cell? ⟨w.heap.size, 0, none⟩ = some (.bool s) ∧ w5.cell? ⟨w.heap.size, 1, none⟩ = some (.slice A n c) := ⟨P1.cell 0, P1.cell 1⟩; have tok1 : True := trivial)
        | (go_at_call 112; refine (digits_any _ _ _ _ _ ((h1.alloc (.cells #[.bool false, .slice none 0 0, .slice none 0 0] 75)).drew) hN (by omega) X hX).mono ?_; rintro e w5 ⟨A5, m5, c5, us5, rfl, hD5, hN5, hv5, hm5, hb5, hf5⟩; have P1 := (B1.alloc (.cells #[.bool false, .slice none 0 0, .slice none 0 0] 75)).drew.below hb5; have K5 : w5.cell? ⟨w.heap.size, 0, none⟩ = some (.bool s) ∧ w5.cell? ⟨w.heap.size, 1, none⟩ = some (.slice A n c) := ⟨P1.cell 0, P1.cell 1⟩; have P3 := (Blk.new w1 75 #[.bool false, .slice none 0 0, .slice none 0 0]).drew.below hb5; have r0 := P3.cell 0; have r1 := P3.cell 1; have r2 := P3.cell 2; have f0 := P3.frozen 0; have f1 := P3.frozen 1; have f2 := P3.frozen 2; have K8 := Lib.hid (show ∀ a b d, (((w5.setCell ⟨w1.heap.size, 0, none⟩ a).setCell ⟨w1.heap.size, 1, none⟩ b).setCell ⟨w1.heap.size, 2, none⟩ d).cell? ⟨w.heap.size, 0, none⟩ = some (.bool s) ∧ (((w5.setCell ⟨w1.heap.size, 0, none⟩ a).setCell ⟨w1.heap.size, 1, none⟩ b).setCell ⟨w1.heap.size, 2, none⟩ d).cell? ⟨w.heap.size, 1, none⟩ = some (.slice A n c) from fun a b d => ⟨(cell_set3 _ _ _ _ _ _ (by show w.heap.size ≠ _; omega)).trans K5.1, (cell_set3 _ _ _ _ _ _ (by show w.heap.size ≠ _; omega)).trans K5.2⟩); have tok2 : True := trivial))
    all_goals first
      | (have _t := tok1
         have hw5 := hw0.drew.trans (hb5.mono hw0.size)
         have hlt5 := hb5.size
         have hE := Lib.hid (show (∀ ad, A5 = some ad → w.heap.size + 1 < ad.block) ∧ (0 < m5 → ∀ ad, A5 = some ad → ad.block ≠ w5.heap.size) from ⟨fun ad he => Nat.lt_of_lt_of_le hB2lt (hf5.out ad he), fun hp ad he => Nat.ne_of_lt (hD5.blt hp ad he)⟩)
         have hg : w.heap.size + 1 < w5.heap.size := Nat.lt_of_lt_of_le hB2lt hlt5
         go_wp2_with fail
         go_meet
         exact ⟨_, A5, m5, c5, us5, rfl, Blk.new _ _ _, hD5.alloc _, hN5, hv5, hm5, P1.alloc _, (B2.drew.below hb5).alloc _, hg, hw5.alloc hw5.size _, hE, (h2.drew.below hb5).alloc _⟩)
      | (have _t := tok2
         have hwz := hw0.alloc hw0.size (.cells #[.bool false, .slice none 0 0, .slice none 0 0] 75)
         have hw5 := hwz.drew.trans (hb5.mono hwz.size)
         have hsz : (w1.alloc (.cells #[.bool false, .slice none 0 0, .slice none 0 0] 75)).heap.size = w1.heap.size + 1 := by simp
         have hfa := Lib.hid (show ∀ ad, A5 = some ad → w1.heap.size < ad.block from fun ad he => by have h9 := hf5.out ad he; rw [show (w1.alloc (.cells #[.bool false, .slice none 0 0, .slice none 0 0] 75)).drew.heap.size = (w1.alloc (.cells #[.bool false, .slice none 0 0, .slice none 0 0] 75)).heap.size from rfl, hsz] at h9; omega)
         have hE := Lib.hid (show (∀ ad, A5 = some ad → w.heap.size + 1 < ad.block) ∧ (0 < m5 → ∀ ad, A5 = some ad → ad.block ≠ w1.heap.size) from ⟨fun ad he => Nat.lt_trans hB2lt (hfa.out ad he), fun _ ad he => by have h9 := hfa.out ad he; omega⟩)
         have P2 := (B2.alloc (.cells #[.bool false, .slice none 0 0, .slice none 0 0] 75)).drew.below hb5
         have hD2 := (h2.alloc (.cells #[.bool false, .slice none 0 0, .slice none 0 0] 75)).drew.below hb5
         have hnA : w.heap.size ≠ w1.heap.size := by omega
         have hnB : w.heap.size + 1 ≠ w1.heap.size := by omega
         have hne2 := Lib.hid (show 0 < n' → ∀ ad, A' = some ad → ad.block ≠ w1.heap.size from fun hp ad he => Nat.ne_of_lt (h2.blt hp ad he))
         go_wp2_with fail
         go_meet
         exact ⟨_, A5, m5, c5, us5, rfl, ((P3.set_ 0 _).set_ 1 _).set_ 2 _, ((hD5.far hfa.out 0 _).far hfa.out 1 _).far hfa.out 2 _, hN5, hv5, hm5, ((P1.far (p := ⟨w1.heap.size, 0, none⟩) hnA _).far (p := ⟨w1.heap.size, 1, none⟩) hnA _).far (p := ⟨w1.heap.size, 2, none⟩) hnA _,
           ((P2.far (p := ⟨w1.heap.size, 0, none⟩) hnB _).far (p := ⟨w1.heap.size, 1, none⟩) hnB _).far (p := ⟨w1.heap.size, 2, none⟩) hnB _, hB2lt, bel_set3 hw5 (by omega) _ _ _, hE, ((hD2.farp hne2.out 0 _).farp hne2.out 1 _).farp hne2.out 2 _⟩)
  case rest =>
    clear h1 h2 k0 k1 B1 B2 hB2lt hw0 h h'
    obtain ⟨g, A5, m5, c5, us5, rfl, G1, D5, N5, V5, M5, P1, P2, hlt, hwc, hf, D2⟩ := hcut
    have p2 : wc.cell? ⟨w.heap.size, 2, none⟩ = some (.slice A' n' c') := P1.cell 2
    by_cases hY1 : Y = 1
    · have HY1 := Lib.hid hY1
      clear hY1
      go_wp2_with fail
      refine (isOne_any _ _ _ _ _ D2 hN' Y hY true (decide_eq_true HY1.out)).mono ?_
      rintro e w' ⟨rfl, rfl⟩
      have g0 : wc.cell? ⟨g, 0, none⟩ = some (.bool s) := G1.cell 0
      have g1 : wc.cell? ⟨g, 1, none⟩ = some (.slice A5 m5 c5) := G1.cell 1
      have g2 : wc.cell? ⟨g, 2, none⟩ = some (.slice none 0 0) := G1.cell 2
      have r0 := P2.cell 0
      have r1 := P2.cell 1
      have r2 := P2.cell 2
      have f0 := P2.frozen 0
      have f1 := P2.frozen 1
      have f2 := P2.frozen 2
      go_wp2
      exact ret_frac rfl rfl (((P2.set_ 0 _).set_ 1 _).set_ 2 _) rfl ⟨_, rfl, ⟨_, _, rfl, nv_far3 D5 N5 V5 (by omega) hf.out.1 _ _ _, by unfold dw; rw [if_pos HY1.out]; exact NV.mk (Dg.nil _ _) Nrm.nil rfl (Nat.zero_le _)⟩, bel_set3 hwc (by omega) _ _ _⟩
    · have HY1 := Lib.hid hY1
      clear hY1
      go_wp2_with fail
      refine (isOne_any _ _ _ _ _ D2 hN' Y hY false (decide_eq_false HY1.out)).mono ?_
      rintro e w' ⟨rfl, rfl⟩
      go_wp2_with fail
      refine (digits_any _ _ _ _ _ D2 hN' (by omega) Y hY).mono ?_
      rintro e w6 ⟨A6, m6, c6, us6, rfl, hD6, hN6, hv6, hm6, hb6, hf6⟩
      have G2 := G1.below hb6
      have P3 := P2.below hb6
      have D6 := D5.below hb6
      have hw6 := hwc.trans (hb6.mono hwc.size)
      have hgl := G1.lt
      have g0 : w6.cell? ⟨g, 0, none⟩ = some (.bool s) := G2.cell 0
      have g1 : w6.cell? ⟨g, 1, none⟩ = some (.slice A5 m5 c5) := G2.cell 1
      have g2 : w6.cell? ⟨g, 2, none⟩ = some (.slice none 0 0) := G2.cell 2
      have fg := G2.frozen 2
      have r0 := P3.cell 0
      have r1 := P3.cell 1
      have r2 := P3.cell 2
      have f0 := P3.frozen 0
      have f1 := P3.frozen 1
      have f2 := P3.frozen 2
      have hne : w.heap.size + 1 ≠ g := by omega
      have hfg := Lib.hid (show ∀ ad, A6 = some ad → g < ad.block ∧ w.heap.size + 1 < ad.block from fun ad he => by have h9 := hf6.out ad he; omega)
      go_wp2
      exact ret_frac rfl rfl ((((P3.far (p := ⟨g, 2, none⟩) hne _).set_ 0 _).set_ 1 _).set_ 2 _) rfl ⟨_, rfl, ⟨_, _, rfl, nv_far3 (D6.farp hf.out.2 2 _) N5 V5 (by omega) hf.out.1 _ _ _, by unfold dw; rw [if_neg HY1.out]; exact nv_far3 (hD6.far (fun ad he => (hfg.out ad he).1) 2 _) hN6 hv6 (by omega) (fun ad he => (hfg.out ad he).2) _ _ _⟩, bel_set3 (hw6.setCell (p := ⟨g, 2, none⟩) (by show _ ≤ g; omega) _) (by omega) _ _ _⟩
end Go.Proofs.YtjpdgnbdbpgnmaaDoor.Fr
