import Derived.Test.YtjpdgnbdbpgnmaaDoorPF
namespace Go.Proofs.YtjpdgnbdbpgnmaaDoor.Fr
open Go.RowKit Num

theorem nv_short {w : World} {A : Option Addr} {m c : Nat} {us ys : List Nat} {z y n : Nat} (hD : Dg .u64 w A m c us) (hN : Nrm us) (hv : Hid (vl (bs .u64) us = z)) (hy : Okd (bs .u64) ys) (hyl : ys.length = n) (hyv : vl (bs .u64) ys = y) (hle : z ≤ y) : NV .u64 w (.slice A m c) z n := by
  have h := len_le_of one_lt_bs64 hy hN (by rw [hv.out, hyv]; exact hle)
  rw [hD.len, hyl] at h
  exact NV.mk hD hN hv h

theorem NV.le {k : IntKind} {w : World} {v : Value} {x L L' : Nat} (h : NV k w v x L) (hl : L ≤ L') : NV k w v x L' := by
  obtain ⟨A, m, c, us, e, hD, h1, h2, h3⟩ := h
  exact ⟨A, m, c, us, e, hD, h1, h2, Nat.le_trans h3 hl⟩

set_option maxHeartbeats 1600000 in
set_option maxRecDepth 100000 in
theorem reduce_small (HD : Hid DivSaid) (s : Bool) (A A' : Option Addr) (n c n' c' : Nat) (xs ys : List Nat) (w : World) (h : Dg .u64 w A n c xs) (h' : Dg .u64 w A' n' c' ys) (hN : Nrm xs) (hN' : Nrm ys) (X Y : Nat) (hX : Hid (vl (bs .u64) xs = X)) (hY : Hid (vl (bs .u64) ys = Y))
    (hn : n ≤ 1) (hn' : n' ≤ 1) (hY0 : 0 < Y) :
    Calls Tryd.prog 91 #[.agg #[.bool s, .slice A n c, .slice A' n' c']] w (RetR w s (X / X.gcd Y) (Y / X.gcd Y) 1) := by
  have B1 := (Blk.new w 89 #[.bool s, .slice A n c, .slice A' n' c']).alloc (.cells #[.bool false, .slice none 0 0, .slice none 0 0] 89)
  have B2 := Blk.new (w.alloc (.cells #[.bool s, .slice A n c, .slice A' n' c'] 89)) 89 #[.bool false, .slice none 0 0, .slice none 0 0]
  have e1 : (w.alloc (.cells #[.bool s, .slice A n c, .slice A' n' c'] 89)).heap.size = w.heap.size + 1 := by simp
  have hw0 := ((Below.refl w.heap.size w).alloc (Nat.le_refl _) (.cells #[.bool s, .slice A n c, .slice A' n' c'] 89)).alloc (by rw [e1]; omega) (.cells #[.bool false, .slice none 0 0, .slice none 0 0] 89)
  rw [e1] at B2
  clear e1
  have h1 := h.below hw0
  have h2 := h'.below hw0
  have hG0 : 0 < X.gcd Y := Nat.gcd_pos_of_pos_right _ hY0
  go_enter Tryd.func91, Tryd.ntmps91
  go_upto_region 1 with fail
  generalize (w.alloc (.cells #[.bool s, .slice A n c, .slice A' n' c'] 89)).alloc (.cells #[.bool false, .slice none 0 0, .slice none 0 0] 89) = w1 at *
  have k0 : w1.cell? ⟨w.heap.size, 0, none⟩ = some (.bool s) := B1.cell 0
  have k1 : w1.cell? ⟨w.heap.size, 1, none⟩ = some (.slice A n c) := B1.cell 1
  have k2 : w1.cell? ⟨w.heap.size, 2, none⟩ = some (.slice A' n' c') := B1.cell 2
  go_wp2_with fail
  refine (gcd64_small HD _ _ _ _ _ _ _ _ _ h1 h2 hN hN' X Y hX hY (by omega) (by omega) (by omega)).mono ?_
  rintro e w2 ⟨A3, m3, c3, us3, rfl, hD3, hN3, hv3, hm3, hb2⟩
  have C1 := B1.below hb2
  have C2 := B2.below hb2
  have hw2 := hw0.trans (hb2.mono hw0.size)
  have q1 := h1.below hb2
  have q2 := h2.below hb2
  have k0 : w2.cell? ⟨w.heap.size, 0, none⟩ = some (.bool s) := C1.cell 0
  have k1 : w2.cell? ⟨w.heap.size, 1, none⟩ = some (.slice A n c) := C1.cell 1
  have k2 : w2.cell? ⟨w.heap.size, 2, none⟩ = some (.slice A' n' c') := C1.cell 2
  have hfx := Lib.hid (fun (hp : 0 < n) => h1.blt hp)
  by_cases hG1 : X.gcd Y = 1
  · have HG1 := Lib.hid hG1
    clear hG1
    go_wp2_with fail
    refine (isOne_any _ _ _ _ _ hD3 hN3 _ hv3 true (decide_eq_true HG1.out)).mono ?_
    rintro e w' ⟨rfl, rfl⟩
    have r0 := C2.cell 0
    have r1 := C2.cell 1
    have r2 := C2.cell 2
    have f0 := C2.frozen 0
    have f1 := C2.frozen 1
    have f2 := C2.frozen 2
    go_wp2
    have hne1 := Lib.hid (show 0 < n → ∀ ad, A = some ad → ad.block ≠ w.heap.size + 1 from fun hp ad he => by have := h.blt hp ad he; omega)
    have hne2 := Lib.hid (show 0 < n' → ∀ ad, A' = some ad → ad.block ≠ w.heap.size + 1 from fun hp ad he => by have := h'.blt hp ad he; omega)
    exact ret_rat rfl rfl (((C2.set_ 0 _).set_ 1 _).set_ 2 _) rfl ⟨_, rfl, ⟨_, _, rfl, NV.mk (((q1.farp hne1.out 0 _).farp hne1.out 1 _).farp hne1.out 2 _) hN (show _ = _ by rw [hX.out, HG1.out, Nat.div_one]) hn, NV.mk (((q2.farp hne2.out 0 _).farp hne2.out 1 _).farp hne2.out 2 _) hN' (show _ = _ by rw [hY.out, HG1.out, Nat.div_one]) hn'⟩, bel_set3 hw2 (by omega) _ _ _⟩
  · have HG1 := Lib.hid hG1
    clear hG1
    have hml : Hid (m3 ≤ 1) := by
      have h9 := len_le_of one_lt_bs64 h'.ok hN3 (by rw [hv3.out, hY.out]; exact Nat.le_of_dvd hY0 (Nat.gcd_dvd_right X Y))
      rw [hD3.len, h'.len] at h9
      show _ ≤ _; omega
    have hm1 : m3 = 1 := by
      have h9 := nz_len (b := bs .u64) (xs := us3) (by rw [hv3.out]; exact hG0)
      rw [hD3.len] at h9
      have := hml.out
      omega
    have Hm1 := Lib.hid hm1
    clear hm1
    go_wp2_with fail
    refine (isOne_any _ _ _ _ _ hD3 hN3 _ hv3 false (decide_eq_false HG1.out)).mono ?_
    rintro e w' ⟨rfl, rfl⟩
    go_wp2_with fail
    refine (divide_small HD _ _ _ _ _ _ _ _ _ q1 hD3 hN hN3 X _ hX hv3 (by omega) (.inr Hm1.out)).mono ?_
    rintro e w4 ⟨_, _, rfl, ⟨A4, m4, c4, us4, rfl, hD4, hN4, hv4, hm4⟩, ⟨A5, m5, c5, us5, rfl, _, _, _, _⟩, hb4, hf4⟩
    have D1 := C1.below hb4
    have D2 := C2.below hb4
    have hw4 := hw2.trans (hb4.mono hw2.size)
    have k0 : w4.cell? ⟨w.heap.size, 0, none⟩ = some (.bool s) := D1.cell 0
    have k2 : w4.cell? ⟨w.heap.size, 2, none⟩ = some (.slice A' n' c') := D1.cell 2
    go_wp2_with fail
    refine (divide_small HD _ _ _ _ _ _ _ _ _ (q2.below hb4) (hD3.below hb4) hN' hN3 Y _ hY hv3 (by omega) (.inr Hm1.out)).mono ?_
    rintro e w6 ⟨_, _, rfl, ⟨A6, m6, c6, us6, rfl, hD6, hN6, hv6, hm6⟩, ⟨A7, m7, c7, us7, rfl, _, _, _, _⟩, hb6, hf6⟩
    have E1 := D1.below hb6
    have E2 := D2.below hb6
    have hw6 := hw4.trans (hb6.mono hw4.size)
    have k0 : w6.cell? ⟨w.heap.size, 0, none⟩ = some (.bool s) := E1.cell 0
    have r0 := E2.cell 0
    have r1 := E2.cell 1
    have r2 := E2.cell 2
    have f0 := E2.frozen 0
    have f1 := E2.frozen 1
    have f2 := E2.frozen 2
    have hl2 := C2.lt
    have hs4 := hb4.size
    have g4 := Lib.hid (show ∀ ad, A4 = some ad → w.heap.size + 1 < ad.block from fun ad he => Nat.lt_of_lt_of_le hl2 (hf4.out _ _ _ rfl ad he))
    have g6 := Lib.hid (show ∀ ad, A6 = some ad → w.heap.size + 1 < ad.block from fun ad he => Nat.lt_of_lt_of_le hl2 (Nat.le_trans hs4 (hf6.out _ _ _ rfl ad he)))
    have hD4 := hD4.below hb6
    clear hf4 hf6
    go_wp2
    exact ret_rat rfl rfl (((E2.set_ 0 _).set_ 1 _).set_ 2 _) rfl ⟨_, rfl, ⟨_, _, rfl, nv_short (((hD4.far g4.out 0 _).far g4.out 1 _).far g4.out 2 _) hN4 hv4 h.ok rfl hX.out (Nat.div_le_self _ _) |>.le (by rw [h.len]; exact hn), nv_short (((hD6.far g6.out 0 _).far g6.out 1 _).far g6.out 2 _) hN6 hv6 h'.ok rfl hY.out (Nat.div_le_self _ _) |>.le (by rw [h'.len]; exact hn')⟩, bel_set3 hw6 (by omega) _ _ _⟩
end Go.Proofs.YtjpdgnbdbpgnmaaDoor.Fr
