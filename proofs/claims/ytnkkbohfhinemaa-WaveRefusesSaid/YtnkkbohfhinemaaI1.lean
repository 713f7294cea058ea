/- A listener that is fed with something that is no sample: the ways where all is right. -/
import Derived.Test.YtnkkbohfhinemaaI0
namespace Go.Proofs.Ytnkkbohfhinemaa
open Go.RowKit

theorem allB_app {lo hi : Int} {xs ys : List Int} (h : allB lo hi xs = true) (k : allB lo hi ys = true) : allB lo hi (xs ++ ys) = true := by
  unfold allB at *
  rw [List.all_append, h, k]; rfl
theorem below_blt {w w' : World} {A : Option Addr} {n c : Nat} {xs : List Int} (h : Sl .i64 w A n c xs) {g : Nat} (hg : w'.heap.size ≤ g) (hb : w.heap.size ≤ w'.heap.size) : 0 < n → ∀ ad, A = some ad → ad.block ≠ g := fun hn ad he => by
  have := h.blt hn ad he
  omega

set_option maxHeartbeats 1600000 in
set_option maxRecDepth 100000 in
theorem rf_ok (A0 : Option Addr) (n0 c0 : Nat) (xs : List Int) (A1 : Option Addr) (n1 c1 : Nat) (ws : List Int) (A2 : Option Addr) (n2 c2 : Nat) (ys : List Int) (G : Gt) (hG : G.Ok) (w : World) (hS0 : Sl .i64 w A0 n0 c0 xs) (hS1 : Sl .i64 w A1 n1 c1 ws) (hS2 : Sl .i64 w A2 n2 c2 ys)
    (hA0 : A0 = none → c0 = 0) (hA2 : A2 = none → c2 = 0) (h0 : n0 ≤ 500) (h1 : n1 ≤ 500) (h2 : n2 ≤ 500) (hx0 : allB (-32768) 32767 xs = true) (hx2 : allB (-32768) 32767 ys = true) (hx1 : allB (-32768) 32767 ws = false) :
    Calls Try.prog 17 #[.slice A0 n0 c0, .slice A1 n1 c1, .slice A2 n2 c2, gval G] w (YesI w) := by
  obtain ⟨i0, hi, hz0, hz1, hz2⟩ := info_parts info_int
  obtain ⟨j0, hj, hy0, hy1, hy2⟩ := info_parts info_seg
  have hcap0 := hS0.cap
  have htop0 := hS0.top
  have hcap1 := hS1.cap
  have htop1 := hS1.top
  have hcap2 := hS2.cap
  have htop2 := hS2.top
  have hl0 := Lib.hid hS0.len
  have hl1 := Lib.hid hS1.len
  have hl2 := Lib.hid hS2.len
  have hgV := Lib.hid (fun w => RGate_any G.B G.H G.L G.R G.F G.D G.X w)
  have hv := Lib.hid (gtB_of hG)
  have hLi := Lib.hid (fun w => Listen_any G hG w)
  have hSeg := Lib.hid (fun (A : Option Addr) n c zs w hS hn hx => Segments_own G hG A n c zs w hS hn hx)
  have hck := Lib.hid (show chk (-32768) 32767 ws = 2 by unfold chk; rw [if_neg (by rw [hl1.out]; omega), hx1]; rfl)
  have hx0 := Lib.hid hx0
  have hx1 := Lib.hid hx1
  have hx2 := Lib.hid hx2
  have hA0 := Lib.hid hA0
  have hA2 := Lib.hid hA2
  unfold gval gtV at *
  have hT0 := hS0.alloc (.cells #[.int .i64 G.B, .int .i64 G.H, .int .i64 G.L, .int .i64 G.R, .int .i64 G.F, .int .i64 G.D, .int .i64 G.X] 65)
  have hT1 := hS1.alloc (.cells #[.int .i64 G.B, .int .i64 G.H, .int .i64 G.L, .int .i64 G.R, .int .i64 G.F, .int .i64 G.D, .int .i64 G.X] 65)
  have hT2 := hS2.alloc (.cells #[.int .i64 G.B, .int .i64 G.H, .int .i64 G.L, .int .i64 G.R, .int .i64 G.F, .int .i64 G.D, .int .i64 G.X] 65)
  have hg : Blk (w.alloc (.cells #[.int .i64 G.B, .int .i64 G.H, .int .i64 G.L, .int .i64 G.R, .int .i64 G.F, .int .i64 G.D, .int .i64 G.X] 65)) w.heap.size 65 #[.int .i64 G.B, .int .i64 G.H, .int .i64 G.L, .int .i64 G.R, .int .i64 G.F, .int .i64 G.D, .int .i64 G.X] := Blk.new w _ _
  have hb1 : Below w.heap.size w (w.alloc (.cells #[.int .i64 G.B, .int .i64 G.H, .int .i64 G.L, .int .i64 G.R, .int .i64 G.F, .int .i64 G.D, .int .i64 G.X] 65)) := (Below.refl _ _).alloc (Nat.le_refl _) _
  go_enter Try.func17, Try.ntmps17
  go_wp2_with fail
  generalize w.alloc (.cells #[.int .i64 G.B, .int .i64 G.H, .int .i64 G.L, .int .i64 G.R, .int .i64 G.F, .int .i64 G.D, .int .i64 G.X] 65) = w1 at *
  refine (hgV.out _).mono ?_
  rintro e w2 ⟨he, hb2⟩
  rw [hv.out] at he
  subst he
  have hg2 := hg.below hb2
  have hb12 := hb1.trans (hb2.mono hb1.size)
  have hU0 := hT0.below hb2
  have hU1 := hT1.below hb2
  have hU2 := hT2.below hb2
  clear hT0 hT1 hT2 hS0 hS1 hS2 hg
  go_wp2_with fail
  refine (All_any _ _ _ _ _ _ _ hU0).mono ?_
  rintro e w5 ⟨he, rfl⟩
  rw [hx0.out] at he
  subst he
  go_wp2_with fail
  refine (All_any _ _ _ _ _ _ _ hU2).mono ?_
  rintro e w5 ⟨he, rfl⟩
  rw [hx2.out] at he
  subst he
  go_wp2_with fail
  refine (All_any _ _ _ _ _ _ _ hU1).mono ?_
  rintro e w5 ⟨he, rfl⟩
  rw [hx1.out] at he
  subst he
  have cl0 : w2.cell? ⟨w.heap.size, 0, none⟩ = some (.int .i64 G.B) := hg2.cell 0
  have cl1 : w2.cell? ⟨w.heap.size, 1, none⟩ = some (.int .i64 G.H) := hg2.cell 1
  have cl2 : w2.cell? ⟨w.heap.size, 2, none⟩ = some (.int .i64 G.L) := hg2.cell 2
  have cl3 : w2.cell? ⟨w.heap.size, 3, none⟩ = some (.int .i64 G.R) := hg2.cell 3
  have cl4 : w2.cell? ⟨w.heap.size, 4, none⟩ = some (.int .i64 G.F) := hg2.cell 4
  have cl5 : w2.cell? ⟨w.heap.size, 5, none⟩ = some (.int .i64 G.D) := hg2.cell 5
  have cl6 : w2.cell? ⟨w.heap.size, 6, none⟩ = some (.int .i64 G.X) := hg2.cell 6
  go_wp2_with fail
  refine (hLi.out _).mono ?_
  rintro e w3 ⟨g, gr, rfl, hL3, hb3, hgg, hgr⟩
  clear cl0 cl1 cl2 cl3 cl4 cl5 cl6
  have hb13 := hb12.trans (hb3.mono hb12.size)
  have hf0 := Lib.hid (show 0 < n0 → ∀ ad, A0 = some ad → ad.block ≠ g ∧ ad.block ≠ gr from fun hn ad he => ⟨below_blt hU0 hgg (Nat.le_refl _) hn ad he, below_blt hU0 hgr (Nat.le_refl _) hn ad he⟩)
  have hf1 := Lib.hid (show 0 < n1 → ∀ ad, A1 = some ad → ad.block ≠ g ∧ ad.block ≠ gr from fun hn ad he => ⟨below_blt hU1 hgg (Nat.le_refl _) hn ad he, below_blt hU1 hgr (Nat.le_refl _) hn ad he⟩)
  have hf2 := Lib.hid (show 0 < n2 → ∀ ad, A2 = some ad → ad.block ≠ g ∧ ad.block ≠ gr from fun hn ad he => ⟨below_blt hU2 hgg (Nat.le_refl _) hn ad he, below_blt hU2 hgr (Nat.le_refl _) hn ad he⟩)
  have hgw : w.heap.size < g ∧ w.heap.size < gr := by have := hg2.lt; omega
  have hg3 := hg2.below hb3
  have hV0 := hU0.below hb3
  have hV1 := hU1.below hb3
  have hV2 := hU2.below hb3
  have hlt3 := hL3.lt
  go_wp2_with fail
  refine (Feed_any g gr _ _ _ _ _ _ G hG hL3 hV0 (by omega) hx0.out (by simp; omega) hf0.out).mono ?_
  rintro e w4 ⟨v1, new1, rfl, hown1, hseg1, hL4, hT4⟩
  rw [List.nil_append] at hseg1 hL4
  have hg4 := hT4.blk hg3 (by omega) (by omega)
  have hX0 := hT4.sl hV0 hf0.out
  have hX1 := hT4.sl hV1 hf1.out
  have hX2 := hT4.sl hV2 hf2.out
  have hb14 := hb13.trans (hT4.below (B := w.heap.size) (by omega) (by omega) hb13.size)
  clear hV0 hV1 hV2 hU0 hU1 hU2 hg2 hg3
  go_wp2_with fail
  refine (Feed_bad g gr _ _ _ _ _ _ G hL4 hX1 2 hck.out rfl).mono ?_
  rintro e w5 ⟨rfl, rfl⟩
  go_wp2_with fail
  refine (Feed_any g gr _ _ _ _ _ _ G hG hL4 hX2 (by omega) hx2.out (by rw [hl0.out]; omega) hf2.out).mono ?_
  rintro e w6 ⟨v2, new2, rfl, hown2, hseg2, hL6, hT6⟩
  have hg6 := hT6.blk hg4 (by omega) (by omega)
  have hY0 := hT6.sl hX0 hf0.out
  have hY2 := hT6.sl hX2 hf2.out
  have hown1b := own_two hown1 hT6 hlt3.1 hlt3.2
  have hb16 := hb14.trans (hT6.below (B := w.heap.size) (by omega) (by omega) hb14.size)
  have hlt4 := hL4.lt
  have hnew1 : segs G xs = new1 := by have := hseg1.out; rw [show segs G [] = [] by unfold segs; rw [show ([] : List Int).length / G.B = 0 from Nat.zero_div _]; rfl, List.nil_append] at this; exact this
  have hnew1 := Lib.hid hnew1
  clear hseg1
  have hv1lt4 : ∀ k, v1.ownBlock = some k → k < w4.heap.size := fun k hk => (hown1.lt k hk).2
  have hv1lt4 := Lib.hid hv1lt4
  clear hX0 hX1 hX2 hg4 hown1
  go_wp2_with fail
  refine (Close_any g gr _ _ G hG hL6).mono ?_
  rintro e w8 ⟨A8, c8, rfl, hsrc8, hm8, hfr8, hC8, hT8⟩
  have hg8 := hT8.blk hg6 (by omega) (by omega)
  have hZ0 := hT8.sl hY0 hf0.out
  have hZ2 := hT8.sl hY2 hf2.out
  have hown1c := own_two hown1b hT8 hlt3.1 hlt3.2
  have hown2c := own_two hown2 hT8 hlt4.1 hlt4.2
  have hb18 := hb16.trans (hT8.below (B := w.heap.size) (by omega) (by omega) hb16.size)
  clear hY0 hY2 hg6 hown1b hown2
  have hs1 := Lib.hid (Src.of_sl (hZ0.drewN 1) hA0.out)
  have hs2 := Lib.hid (fun (wx : World) (hb : Below w8.heap.size w8 wx) => Src.of_sl (hZ2.below hb) hA2.out)
  have hKeep := Lib.hid (fun (wx : World) (hb : Below w8.heap.size w8 wx) => show (wx.cell? ⟨w.heap.size, 0, none⟩ = some (.int .i64 G.B) ∧ wx.cell? ⟨w.heap.size, 1, none⟩ = some (.int .i64 G.H) ∧ wx.cell? ⟨w.heap.size, 2, none⟩ = some (.int .i64 G.L) ∧ wx.cell? ⟨w.heap.size, 3, none⟩ = some (.int .i64 G.R) ∧ wx.cell? ⟨w.heap.size, 4, none⟩ = some (.int .i64 G.F) ∧ wx.cell? ⟨w.heap.size, 5, none⟩ = some (.int .i64 G.D) ∧ wx.cell? ⟨w.heap.size, 6, none⟩ = some (.int .i64 G.X)) from ⟨(hg8.below hb).cell 0, (hg8.below hb).cell 1, (hg8.below hb).cell 2, (hg8.below hb).cell 3, (hg8.below hb).cell 4, (hg8.below hb).cell 5, (hg8.below hb).cell 6⟩)
  have hbd : Below w8.heap.size w8 w8.drew := bel_drewN (Below.refl _ _) 1
  have hxy := Lib.hid (allB_app hx0.out hx2.out)
  have hv1lt := Lib.hid (fun k (hk : v1.ownBlock = some k) => (hown1c.lt k hk))
  obtain ⟨Av, cv, rfl, hsv2⟩ := Src.of_own hown2c (oneCell_sgv _)
  have hln1 := hown1c.1
  have hln2 := hown2c.1
  have hsz48 : w4.heap.size ≤ w6.heap.size ∧ w6.heap.size ≤ w8.heap.size := ⟨hT6.size, hT8.size⟩
  go_wp2_with fail
  go_region_held3 (fun wx => (wx.cell? ⟨w.heap.size, 0, none⟩ = some (.int .i64 G.B) ∧ wx.cell? ⟨w.heap.size, 1, none⟩ = some (.int .i64 G.H) ∧ wx.cell? ⟨w.heap.size, 2, none⟩ = some (.int .i64 G.L) ∧ wx.cell? ⟨w.heap.size, 3, none⟩ = some (.int .i64 G.R) ∧ wx.cell? ⟨w.heap.size, 4, none⟩ = some (.int .i64 G.F) ∧ wx.cell? ⟨w.heap.size, 5, none⟩ = some (.int .i64 G.D) ∧ wx.cell? ⟨w.heap.size, 6, none⟩ = some (.int .i64 G.X))) (first | exact hKeep.out _ hbd | exact hKeep.out _ hba | exact hKeep.out _ hbb | exact hKeep.out _ hb89 | go_keep)
    (first
      | (go_at_call 51; refine (hSeg.out Ab _ cb (xs ++ ys) _ hSb (by omega) hxy.out).mono ?_; rintro e w9 ⟨v9, rfl, hown9, hb9⟩; have hb89 : Below w8.heap.size w8 w9 := hbb.trans (hb9.mono hbb.size))
      | (refine step_append_any (by rfl) _ _ _ (by rfl) w8.heap.size 3 i0 (.int .i64 0) 1 8 Try.underlying22 hi hz0 hz1 hz2 (by rfl) (by decide) (.slice none 0 0) 0 [] (by rfl) (World.ownsRow_nil _ _ _ _) A0 n0 c0 (ivs .i64 xs) (by rfl) hs1.out (by unfold maxLen; omega) (by omega) (Nat.le_refl _) ?_; intro va wa howna hga _; simp only [Nat.zero_add, List.nil_append] at howna; have hba : Below w8.heap.size w8 wa := hbd.grown hga (Nat.le_refl _) (fun k hk => by cases hk))
      | (refine step_append_any (by rfl) _ _ _ (by rfl) w8.heap.size 3 i0 (.int .i64 0) 1 8 Try.underlying22 hi hz0 hz1 hz2 (by rfl) (by decide) va n0 (ivs .i64 xs) (by rfl) howna A2 n2 c2 (ivs .i64 ys) (by rfl) (hs2.out _ hba) (by unfold maxLen; omega) (by omega) hba.size ?_; intro vb wb hownb hgb _; have hbb : Below w8.heap.size w8 wb := hba.grown hgb hba.size (fun k hk => (howna.lt k hk).1); rw [← ivs_app] at hownb; obtain ⟨Ab, cb, rfl, hSb⟩ := Sl.of_own hownb))
  have hall : segs G (xs ++ ys) = new1 ++ new2 := by rw [hseg2.out, hnew1.out]
  have hN := segs_len G (xs ++ ys)
  rw [hall, List.length_append, List.length_append, hl0.out, hl2.out] at hN
  have hres := Lib.hid (show (new1 ++ new2) ++ lastS G (xs ++ ys) = segs G (xs ++ ys) ++ lastS G (xs ++ ys) by rw [hall])
  clear hall
  have hszb : w8.heap.size ≤ wb.heap.size ∧ wb.heap.size ≤ w9.heap.size := ⟨hbb.size, hb9.size⟩
  have hown1d := own_below hown1c hb89
  have hsv2d := hsv2.below hb89
  have hsrc9 := hsrc8.below hb89
  clear hs1 hs2 hKeep
  go_wp2_with (at_builtin; refine wpList_append_any rfl (.tmp 120) (.tmp 121) 66 rfl w3.heap.size 84 j0 (.agg #[.int .i64 0, .int .i64 0]) 2 16 Try.underlying66 hj hy0 hy1 hy2 rfl (by decide) v1 new1.length (sgv new1) rfl hown1d Av new2.length cv (sgv new2) rfl hsv2d ?k2 ?k3 ?k4 ?_)
  case k2 => unfold maxLen; omega
  case k3 => omega
  case k4 => have := hT4.size; omega
  intro va1 wc hownc hgc hbc
  have hsrcc := hsrc9.keep fun ad e hlt p hp => cell_grown hgc (by have := hsrc9; omega) (fun e2 => by
    have h3 := hv1lt4.out _ e2.symm
    have h4 := hfr8.out ad e
    omega)
  have hbcc := (hb18.trans (hb89.mono hb18.size)).grown hgc (by have := hb18.size; have := hb89.size; omega) (fun k hk => by have := (hv1lt.out k hk).1; have := hb13.size; omega)
  have hszc := hgc.size
  go_wp2_with (at_builtin; refine wpList_append_any rfl (.tmp 122) (.tmp 123) 66 rfl w3.heap.size 84 j0 (.agg #[.int .i64 0, .int .i64 0]) 2 16 Try.underlying66 hj hy0 hy1 hy2 rfl (by decide) va1 (new1.length + new2.length) (sgv new1 ++ sgv new2) rfl hownc A8 (lastS G (xs ++ ys)).length c8 (sgv (lastS G (xs ++ ys))) rfl hsrcc ?k2 ?k3 ?k4 ?_)
  case k2 => unfold maxLen; omega
  case k3 => omega
  case k4 => have := hT4.size; omega
  intro vr wd hownd hgd hbd2
  have hrow : ∀ k, va1.ownBlock = some k → k < w4.heap.size ∨ k = w9.heap.size := fun k hk => by
    rcases hbc with h9 | h9
    · exact .inl (hv1lt4.out k (by rw [← h9]; exact hk))
    · rw [h9] at hk
      injection hk with hk
      exact .inr hk.symm
  have hown9d : wd.ownsRow wb.heap.size 84 2 v9 (segs G (xs ++ ys) ++ lastS G (xs ++ ys)).length (sgv (segs G (xs ++ ys) ++ lastS G (xs ++ ys))) := by
    exact own_same hown9 (fun k hk hlt => (hgd.block k (by omega) (fun e => by
        rcases hrow k e.symm with h9 | h9 <;> omega)).trans (hgc.block k hlt (fun e => by have := hv1lt4.out k e.symm; omega)))
  have hbdd := hbcc.grown hgd (by have := hb18.size; have := hb89.size; omega) (fun k hk => by have := (hownc.lt k hk).1; have := hb13.size; omega)
  rw [← sgv_app, ← sgv_app, ← List.append_assoc, hres.out] at hownd
  have hlenr : new1.length + new2.length + (lastS G (xs ++ ys)).length = (segs G (xs ++ ys) ++ lastS G (xs ++ ys)).length := by rw [← hres.out, List.length_append, List.length_append]
  rw [hlenr] at hownd
  generalize hps : segs G (xs ++ ys) ++ lastS G (xs ++ ys) = ps at *
  obtain ⟨N, hNe⟩ : ∃ N, ps.length = N := ⟨_, rfl⟩
  rw [hNe] at hownd hown9d
  clear hlenr hres hNe hps
  obtain ⟨Ar, cr, rfl, hGr⟩ := Sg.of_own hownd
  obtain ⟨A9, c9, rfl, hG9⟩ := Sg.of_own hown9d
  clear hownd hown9d
  go_wp2_with fail
  refine (SameSegments_any _ _ _ _ _ _ _ _ _ hGr hG9).mono ?_
  rintro e we ⟨ke, he, rfl⟩
  rw [sameP_yes rfl] at he
  subst he
  have hbe := bel_drewN hbdd ke
  generalize wd.drewN ke = we at *
  go_wp2_with fail
  refine (known_any _).mono ?_
  rintro e wf ⟨rfl, hbf⟩
  go_wp2
  go_ret
  exact ⟨rfl, hbe.trans (hbf.mono hbe.size)⟩

theorem refuses_any (A0 : Option Addr) (n0 c0 : Nat) (xs : List Int) (A1 : Option Addr) (n1 c1 : Nat) (ws : List Int) (A2 : Option Addr) (n2 c2 : Nat) (ys : List Int) (b h l r f d x : Int) (w : World)
    (hS0 : Sl .i64 w A0 n0 c0 xs ∧ (A0 = none → c0 = 0)) (hS1 : Sl .i64 w A1 n1 c1 ws ∧ (A1 = none → c1 = 0)) (hS2 : Sl .i64 w A2 n2 c2 ys ∧ (A2 = none → c2 = 0)) :
    Calls Try.prog 17 #[.slice A0 n0 c0, .slice A1 n1 c1, .slice A2 n2 c2, gtV b h l r f d x] w (YesI w) := by
  obtain ⟨hS0, hA0⟩ := hS0
  obtain ⟨hS1, hA1⟩ := hS1
  obtain ⟨hS2, hA2⟩ := hS2
  rcases Nat.lt_or_ge 500 n0 with h0 | h0
  · exact rf_l0 A0 n0 c0 xs A1 n1 c1 ws A2 n2 c2 ys b h l r f d x w hS0 hS1 hS2 h0
  rcases Nat.lt_or_ge 500 n1 with h1 | h1
  · exact rf_l1 A0 n0 c0 xs A1 n1 c1 ws A2 n2 c2 ys b h l r f d x w hS0 hS1 hS2 h0 h1
  rcases Nat.lt_or_ge 500 n2 with h2 | h2
  · exact rf_l2 A0 n0 c0 xs A1 n1 c1 ws A2 n2 c2 ys b h l r f d x w hS0 hS1 hS2 h0 h1 h2
  cases hv : gtB b h l r f d x with
  | false => exact rf_g A0 n0 c0 xs A1 n1 c1 ws A2 n2 c2 ys b h l r f d x w hS0 hS1 hS2 h0 h1 h2 hv
  | true =>
    cases hx0 : allB (-32768) 32767 xs with
    | false => exact rf_x A0 n0 c0 xs A1 n1 c1 ws A2 n2 c2 ys b h l r f d x w hS0 hS1 hS2 h0 h1 h2 hv hx0
    | true =>
      cases hx2 : allB (-32768) 32767 ys with
      | false => exact rf_y A0 n0 c0 xs A1 n1 c1 ws A2 n2 c2 ys b h l r f d x w hS0 hS1 hS2 h0 h1 h2 hv hx0 hx2
      | true =>
        cases hx1 : allB (-32768) 32767 ws with
        | true => exact rf_w A0 n0 c0 xs A1 n1 c1 ws A2 n2 c2 ys b h l r f d x w hS0 hS1 hS2 h0 h1 h2 hv hx0 hx2 hx1
        | false =>
          obtain ⟨G, hG, rfl, rfl, rfl, rfl, rfl, rfl, rfl⟩ := gtB_ok hv
          exact rf_ok A0 n0 c0 xs A1 n1 c1 ws A2 n2 c2 ys G hG w hS0 hS1 hS2 hA0 hA2 h0 h1 h2 hx0 hx2 hx1
end Go.Proofs.Ytnkkbohfhinemaa
