/- The features of a recording, the document's. -/
import Derived.Test.YtoljffghaklpdaaGreatDoorED
import Derived.Test.YtoljffghaklpdaaGreatDoorEU
import Derived.Test.YtoljffghaklpdaaGreatDoorOC
import Derived.Test.YtoljffghaklpdaaGreatDoorZE0
namespace Go.Proofs.YtoljffghaklpdaaGreatDoor
open Go.RowKit

theorem RLog_i (x : Int) (w : World) (h0 : 0 ≤ x) (h1 : x ≤ 9223372036854775807) : Calls Tryz.prog 12 #[.int .i64 x] w fun e w' => e = .returned (.int .i64 (lg x.toNat)) ∧ Below w.heap.size w w' := by
  obtain ⟨k, rfl⟩ : ∃ k : Nat, x = (k : Int) := ⟨x.toNat, by omega⟩
  exact RLog_any k w (by omega)
theorem ivs_set (xs : List Int) (k : Nat) (v : Int) : (ivs .i64 xs).set k (.int .i64 v) = ivs .i64 (xs.set k v) := by unfold ivs; rw [List.map_set]

set_option linter.unusedSimpArgs false
set_option maxHeartbeats 20000000 in
set_option maxRecDepth 100000 in
theorem RExtract_ok (rate num den size step kind cep : Int) (p : Nat) (diff ctr : Bool) (A : Option Addr) (n c : Nat) (xs : List Int) (Ae : Option Addr) (m ce : Nat) (es : List Int) (w : World)
    (h : Sl .i64 w A n c xs) (he : Sl .i64 w Ae m ce es) (hT : Tab w) (hn : n ≤ 1000) (hx : allB (-32768) 32767 xs = true) (hR : RcP num den size step kind p cep es) :
    Calls Tryz.prog 17 #[.agg #[.int .i64 rate, .slice A n c], (rcV num den size step kind (p : Int) (.slice Ae m ce) cep diff ctr)] w (Ret2B w (featL num den size step kind p cep es diff ctr xs).length (featL num den size step kind p cep es diff ctr xs)) := by
  obtain ⟨⟨hd1, hd2⟩, ⟨hn1, hn2⟩, ⟨_, hp⟩, ⟨hs1, hs2⟩, ⟨ht1, ht2⟩, ⟨hk1, hk2⟩, h33, hE, hc1, hc2⟩ := id hR
  have hl := Lib.hid h.len
  have hle := Lib.hid he.len
  have hp : lenB p = true := by simpa using hp
  have hp64 := (lenB_le hp).2.1
  have hem := em_ok hd1 hd2 hn1 hn2 hx (by rw [hl.out]; omega)
  have hfr := fr_ok (size := size) (step := step) hs1 (by omega) ht1 ht2 hem.2.2 (by rw [em_len, hl.out]; omega)
  obtain ⟨N, hN⟩ : ∃ N, fcount (emF xs num den).length size.toNat step.toNat false = N := ⟨_, rfl⟩
  have hNl : N ≤ 1000 := by have := hfr.2; rw [hN, em_len, hl.out] at this; omega
  have hfrF : frF (emF xs num den) size step = (List.range N).map (frameL (emF xs num den) size.toNat step.toNat) := by unfold frF; rw [hN]
  have hrow : ∀ t, t < N → (frameL (emF xs num den) size.toNat step.toNat t).length = size.toNat ∧ allB (-65536) 65536 (frameL (emF xs num den) size.toNat step.toNat t) = true := fun t ht => fr_row hem.2.2 (size := size) (step := step) (by rw [hfrF]; exact List.mem_map_of_mem (List.mem_range.2 ht))
  have hE2 := hE.1
  have hm2 : 2 ≤ m := by rw [← hle.out]; exact hE2
  have hm33 : m ≤ 33 := by rw [← hle.out]; exact h33
  have hcapz := h.cap
  have htopz := h.top
  have hcape := he.cap
  have htope := he.top
  obtain ⟨i0, hi, hz0, hz1, hz2⟩ := info_parts info_sl
  have hb0 := ((Below.refl w.heap.size w).alloc (Nat.le_refl _) (.cells #[.int .i64 rate, .slice A n c] 30)).alloc (by simp) (.cells #[.int .i64 num, .int .i64 den, .int .i64 size, .int .i64 step, .int .i64 kind, .int .i64 (p : Int), .slice Ae m ce, .int .i64 cep, .bool diff, .bool ctr] 33)
  have hsz : ((w.alloc (.cells #[.int .i64 rate, .slice A n c] 30)).alloc (.cells #[.int .i64 num, .int .i64 den, .int .i64 size, .int .i64 step, .int .i64 kind, .int .i64 (p : Int), .slice Ae m ce, .int .i64 cep, .bool diff, .bool ctr] 33)).heap.size = w.heap.size + 2 := by simp
  have q1 : ((w.alloc (.cells #[.int .i64 rate, .slice A n c] 30)).alloc (.cells #[.int .i64 num, .int .i64 den, .int .i64 size, .int .i64 step, .int .i64 kind, .int .i64 (p : Int), .slice Ae m ce, .int .i64 cep, .bool diff, .bool ctr] 33)).cell? ⟨w.heap.size, 1, none⟩ = some (.slice A n c) := by simp
  have hC : RcC ((w.alloc (.cells #[.int .i64 rate, .slice A n c] 30)).alloc (.cells #[.int .i64 num, .int .i64 den, .int .i64 size, .int .i64 step, .int .i64 kind, .int .i64 (p : Int), .slice Ae m ce, .int .i64 cep, .bool diff, .bool ctr] 33)) (w.heap.size + 1) num den size step kind (p : Int) (.slice Ae m ce) cep diff ctr := ⟨by simp, by simp, by simp, by simp, by simp, by simp, by simp, by simp, by simp, by simp⟩
  have h2 := h.below hb0
  have he2 := he.below hb0
  have hT2 : Tab ((w.alloc (.cells #[.int .i64 rate, .slice A n c] 30)).alloc (.cells #[.int .i64 num, .int .i64 den, .int .i64 size, .int .i64 step, .int .i64 kind, .int .i64 (p : Int), .slice Ae m ce, .int .i64 cep, .bool diff, .bool ctr] 33)) := hT.below hb0
  have hx := Lib.hid hx
  have hem := Lib.hid hem
  have hfr := Lib.hid hfr
  have hN := Lib.hid hN
  have hrow := Lib.hid hrow
  have hfrF := Lib.hid hfrF
  have hp := Lib.hid hp
  have hR := Lib.hid hR
  clear hE hc2 hE2
  have hE := Lib.hid hR.out.2.2.2.2.2.2.2.1
  unfold rcV
  go_enter Tryz.func17, Tryz.ntmps17
  go_wp2_with fail
  have f0 := hC.c0
  have f1 := hC.c1
  go_wp2_with fail
  generalize ((w.alloc (.cells #[.int .i64 rate, .slice A n c] 30)).alloc (.cells #[.int .i64 num, .int .i64 den, .int .i64 size, .int .i64 step, .int .i64 kind, .int .i64 (p : Int), .slice Ae m ce, .int .i64 cep, .bool diff, .bool ctr] 33)) = w2 at *
  refine (Emphasis_false _ _ _ _ num den _ h2).mono ?_
  rintro e w3 ⟨A3, n3, c3, rfl, hs3, hb3⟩
  rw [hem.out.1] at hs3
  rw [hem.out.2.1]
  have hn3 : n3 ≤ 1000 := by have := hs3.len; rw [em_len, hl.out] at this; omega
  have hN3 := Lib.hid (show (if frC (emF xs num den) size step false = 0 then fcount n3 size.toNat step.toNat false else 0) = N by rw [if_pos hfr.out.1, ← hs3.len]; exact hN.out)
  have hC3 := hC.below hb3
  clear hC f0 f1
  have f2 := hC3.c2
  have f3 := hC3.c3
  go_wp2_with fail
  refine (RFrames_any _ _ _ _ size step false _ hs3).mono ?_
  rintro e w4 ⟨A4, c4, B4, L4, C4, rfl, hs4, hb4⟩
  rw [hN3.out] at hs4
  rw [hN3.out, hfr.out.1]
  have hC4 := hC3.below hb4
  clear hC3 f2 f3
  have hb04 := hb0.trans ((hb3.trans (hb4.mono hb3.size)).mono (by omega))
  have he4 := (he2.below hb3).below hb4
  have hT4 : Tab w4 := Tab.below (Tab.below hT2 hb3) hb4
  have hno : ¬ (10000 : Int) < (N : Int) := by omega
  have hno2 : ¬ 10000 < N := by omega
  have hnod : decide ((10000 : Int) < (N : Int)) = false := decide_eq_false hno
  have hnod2 : decide (10000 < N) = false := decide_eq_false hno2
  have hcap4 := hs4.cap
  have htop4 := hs4.top
  go_wp2
  clear hno hno2 hnod hnod2
  go_loopw [10, 11] (fun ov iv wr' => ∃ (t : Nat) (V : Value) (news : List Value) (wr : World), wr = wr' ∧ iv = .int .i64 (t : Int) ∧ V = ov ∧ t ≤ N ∧ OwnRr wr w4.heap.size V t news ((List.range t).map (fun i => ftF kind p es cep (frameL (emF xs num den) size.toNat step.toNat i))) ∧ Below w4.heap.size w4 wr) (fun _ iv _ => N - (intOf iv).toNat)
  case atStart => exact ⟨0, _, [], _, rfl, rfl, rfl, Nat.zero_le _, OwnRr.nil_ _ _, Below.refl _ _⟩
  case round =>
    obtain ⟨t, V, news, wr, rfl, rfl, rfl, htN, hO, hbel⟩ := hrel
    obtain ⟨AV, cV, rfl⟩ := own_slice hO.own
    rcases Nat.lt_or_ge t N with hlt | hge
    · obtain ⟨ad, rfl, hcell⟩ := hs4.cell (by omega)
      have hcr := cell_bel (hcell t hlt) hbel
      have hSr := (hs4.row t hlt).below hbel
      have hrw := hrow.out t hlt
      have hlr := hSr.len
      have hLr : L4 t = size.toNat := by rw [← hlr]; exact hrw.1
      rw [hLr] at hcr hSr
      obtain ⟨x, hxx⟩ : ∃ x, (frameL (emF xs num den) size.toNat step.toNat t) = x := ⟨_, rfl⟩
      rw [hxx] at hSr hrw
      have hxx := Lib.hid hxx
      obtain ⟨s, hs⟩ : ∃ s : Nat, size.toNat = s := ⟨_, rfl⟩
      rw [hs] at hcr hSr hrw
      have hs1' : 1 ≤ s := by omega
      have hsp : s ≤ p := by omega
      have hwg := Lib.hid (wg_ok hk1 hk2 (x := x) (by omega) (by omega) hrw.2)
      have hxl := Lib.hid hrw.1
      have hvx : valsB x = true := allB_wide hrw.2 (by decide) (by decide)
      have hvx := Lib.hid hvx
      clear hrw hlr hLr hs hcell
      have hCr := hC4.below hbel
      have hwnC : wnC kind (s : Int) = 0 := by unfold wnC; rw [okB_mk (by omega) (by omega), okB_mk hk1 hk2]; rfl
      have hwnL : wnL kind (s : Int) = tab s (wAt kind s) := by unfold wnL; rw [okB_mk (by omega) (by omega), okB_mk hk1 hk2]; rfl
      have hwnC := Lib.hid hwnC
      have hwnL := Lib.hid hwnL
      have j0 : (0 : Int) ≤ (t : Int) := by omega
      have j1 : (t : Int) < (N : Int) := by omega
      have hKeep := Lib.hid (fun (wx : World) (hb : Below wr.heap.size wr wx) => (⟨cell_bel hcr hb, cell_bel hCr.c4 hb⟩ : wx.cell? (ad.add t) = some (.slice (B4 t) s (C4 t)) ∧ wx.cell? ⟨w.heap.size + 1, 4, none⟩ = some (.int .i64 kind)))
      have hbr := Below.refl wr.heap.size wr
      have hbd := bel_drewN hbr 1
      have hSd : Sl .i64 wr.drew (B4 t) s (C4 t) x := hSr.below hbd
      go_wp2
      go_region_held3 (fun wx => wx.cell? (ad.add t) = some (.slice (B4 t) s (C4 t)) ∧ wx.cell? ⟨w.heap.size + 1, 4, none⟩ = some (.int .i64 kind)) (first | exact hKeep.out _ hbr | exact hKeep.out _ hbd | exact hKeep.out _ hb5 | go_keep)
        (first | (go_at_call 63; refine (RWeigh_ok _ _ _ _ kind _ hSd hs1' (by omega) hk1 hk2 hvx.out hwnL.out hwnC.out).mono ?_; rintro e w5 ⟨A5, n5, c5, rfl, hs5, hq5⟩; have hb5 : Below wr.heap.size wr w5 := hbd.trans (hq5.mono hbd.size)))
      have hwE : (tab s fun i => rnd (x.getD i 0 * wAt kind s i) 4096) = wgL x kind := by rw [hwg.out.2.2.2, hxl.out]; unfold wgAt; rw [hxl.out]
      rw [hwE] at hs5
      have hn5 : n5 = s := by rw [← hs5.len, hwg.out.2.1, hxl.out]
      subst hn5
      clear hwE
      have hCr5 := hCr.below hb5
      have hbel5 := hbel.trans (hb5.mono hbel.size)
      have hT5 : Tab w5 := Tab.below hT4 hbel5
      have he5 := he4.below hbel5
      have hO5 := hO.below hb5
      have hto := an_ok hp.out (x := wgL x kind) (by rw [hwg.out.2.1, hxl.out]; omega) hwg.out.2.2.1
      have hab := an_bd hp64 (x := wgL x kind) (by rw [hwg.out.2.1, hxl.out]; omega) hwg.out.2.2.1
      rw [hwg.out.2.1, hxl.out] at hto
      have hPb := Lib.hid (me_P hp64 hE.out hab.1 hab.2)
      have hanE := Lib.hid (show spL (wgL x kind ++ zs (p - n5)) = anF p (wgL x kind) by unfold anF; rw [hwg.out.2.1, hxl.out])
      have hto1 := Lib.hid hto.1
      have hto2 := Lib.hid hto.2
      have hab1 := Lib.hid hab.1
      clear hto hab hKeep hbd hbr hSd hcr hSr hCr
      have hKeep := Lib.hid (fun (wx : World) (hb : Below w5.heap.size w5 wx) => (⟨cell_bel hCr5.c5 hb, cell_bel hCr5.c6 hb⟩ : wx.cell? ⟨w.heap.size + 1, 5, none⟩ = some (.int .i64 (p : Int)) ∧ wx.cell? ⟨w.heap.size + 1, 6, none⟩ = some (.slice Ae m ce)))
      have hbr := Below.refl w5.heap.size w5
      have hbd := bel_drewN hbr 1
      have hSd := hs5.below hbd
      go_wp2
      go_region_held3 (fun wx => wx.cell? ⟨w.heap.size + 1, 5, none⟩ = some (.int .i64 (p : Int)) ∧ wx.cell? ⟨w.heap.size + 1, 6, none⟩ = some (.slice Ae m ce)) (first | exact hKeep.out _ hbr | exact hKeep.out _ hbd | exact hKeep.out _ hb8 | exact hKeep.out _ hb7 | exact hKeep.out _ hb6 | go_keep)
        (first
          | (go_at_call 66; refine (Rextended_any _ _ _ p _ _ hSd hs1' hsp (by omega)).mono ?_; rintro e w6 ⟨g6, rfl, hM6, hq6, hg6⟩; have hb6 : Below w5.heap.size w5 w6 := hbd.trans (hq6.mono hbd.size); have hS6 := hM6.sl hto2.out (by omega); have hT6 : Tab w6 := Tab.below hT5 hb6)
          | (go_at_call 65; refine (RSpectrum_any _ _ _ _ _ hS6 hT6 hto1.out).mono ?_; rintro e w7 ⟨g7, rfl, hM7, hq7, hg7⟩; have hb7 : Below w5.heap.size w5 w7 := hb6.trans (hq7.mono hb6.size); rw [hanE.out] at hM7; have hS7 := hM7.sl hab1.out (by omega); have he7 := he5.below hb7)
          | (go_at_call 64; refine (RBands_own _ _ _ _ _ _ _ _ _ hS7 he7 (by omega) hPb.out).mono ?_; rintro e w8 ⟨A8, c8, rfl, hown8, hq8⟩; have hb8 : Below w5.heap.size w5 w8 := hb7.trans (hq8.mono hb7.size)))
      have hbel7 := hbel5.trans (hb7.mono hbel5.size)
      have hO7 := hO5.below hb7
      have hC7 := hCr5.below hb7
      have hT7 : Tab w7 := Tab.below hT4 hbel7
      have he7 := he5.below hb7
      have hgb : w4.heap.size ≤ w7.heap.size := hbel7.size
      obtain ⟨q, hq⟩ : ∃ q, m - 1 = q := ⟨_, rfl⟩
      have hq1 : 1 ≤ q := by omega
      have hq33 : q ≤ 32 := by omega
      have hbL : bnL (anF p (wgL x kind)) es = upd q 0 (bnF (anF p (wgL x kind)) es) fun i => lg (bnF (anF p (wgL x kind)) es i).toNat := by unfold bnL; rw [hle.out, hq, upd_zero]
      have hmE := Lib.hid (show meF es (anF p (wgL x kind)) = tab q (fun i => lg (bnF (anF p (wgL x kind)) es i).toNat) by unfold meF; rw [hle.out, hq])
      have hmo := Lib.hid (me_ok hPb.out)
      have hbnd := Lib.hid (fun i (hi : i < q) => bn_bd hPb.out i (by rw [hle.out, hq]; exact hi))
      rw [hbL] at hown8
      rw [hq] at hown8 ⊢
      clear hbL
      have hqe := Lib.hid (show es.length - 1 = q by rw [hle.out, hq])
      have hq := Lib.hid hq
      obtain ⟨g8, rfl, hg8⟩ : ∃ g, A8 = some ⟨g, 0, none⟩ ∧ w7.heap.size ≤ g := by
        rcases hown8.2 with ⟨h9, h99⟩ | ⟨g, cap, cur, h9, hbg, _⟩
        · omega
        · injection h9 with h9; exact ⟨g, h9, hbg⟩
      have hown8 := own_mono hown8 hgb
      generalize hFF : bnF (anF p (wgL x kind)) es = F at *
      clear hFF
      clear hKeep hbr hbd hSd hS6 hS7 hM6 hM7 hT6 hO5 hCr5 hT5 he5 hs5
      go_wp2
      go_loopw [15] (fun iv wy' => ∃ (k : Nat) (wy : World), wy = wy' ∧ iv = .int .i64 (k : Int) ∧ k ≤ q ∧ wy.ownsRow w4.heap.size 3 1 (.slice (some ⟨g8, 0, none⟩) q c8) q (ivs .i64 (upd q k F fun i => lg (F i).toNat)) ∧ Below w7.heap.size w7 wy) (fun iv _ => q - (intOf iv).toNat)
      case atStart => exact ⟨0, _, rfl, rfl, Nat.zero_le _, hown8, hq8⟩
      case round =>
        obtain ⟨k, wy, rfl, rfl, hkq, hown, hby⟩ := hrel
        obtain ⟨A2, c2, e2, hS2⟩ := Sl.of_own hown
        injection e2 with e3 e4 e5
        subst e3 e5
        have hcap2 := hS2.cap
        have htop2 := hS2.top
        rcases Nat.lt_or_ge k q with hkl | hkg
        · have hck : wy.cell? ⟨g8, k, none⟩ = some (.int .i64 (F k)) := by
            have := hS2.cellAt hkl (x := F k) (by rw [upd_at hkl])
            rw [add_new] at this
            exact this
          obtain ⟨cur, hcur⟩ := own_cells hown
          have hfk : ∀ wz : World, Below wy.heap.size wy wz → wz.frozen? ⟨g8, k, none⟩ = false := fun wz hb => Blk.frozen (Blk.below hcur hb) k
          have hbk := hbnd.out k hkl
          have hset := Lib.hid (upd_set hkl F fun i => lg (F i).toNat)
          have hfk := Lib.hid hfk
          clear hcur hown8
          generalize hFk : F k = v at *
          have hFk := Lib.hid hFk
          go_wp2_with fail
          refine (RLog_i v _ hbk.1 hbk.2).mono ?_
          rintro e w10 ⟨rfl, hb10⟩
          have hck10 := cell_bel hck hb10
          have hfk10 := hfk.out w10 hb10
          have hown10 := ((own_bel hown hb10).stored k (.int .i64 (lg v.toNat))).1
          rw [ivs_set, hset.out] at hown10
          have hby10 := (hby.trans (hb10.mono hby.size)).setCell (p := ⟨g8, k, none⟩) hg8 (.int .i64 (lg v.toNat))
          have hown10 := Lib.hid hown10
          clear hown hS2
          go_wp2
          go_roundw
          case rel => exact ⟨k + 1, _, rfl, by go_num, hkl, hown10.out, hby10⟩
          case measure => simp [intOf]; omega
        · have hkq' : k = q := by omega
          subst hkq'
          rw [upd_all, ← hmE.out] at hown hS2
          have hOy := hO7.below hby
          have hCy := hC7.below hby
          have hTy : Tab wy := Tab.below hT7 hby
          have hely := hbel7.trans (hby.mono hbel7.size)
          have hrow9 := Lib.hid (fun q9 (hq9 : (Value.slice AV t cV).ownBlock = some q9) => (hOy.own.lt q9 hq9).1)
          have f7 := hCy.c7
          have hfT := Lib.hid (show (List.range (t + 1)).map (fun i => ftF kind p es cep (frameL (emF xs num den) size.toNat step.toNat i)) = (List.range t).map (fun i => ftF kind p es cep (frameL (emF xs num den) size.toNat step.toNat i)) ++ [ftF kind p es cep x] by rw [List.range_succ, List.map_append, List.map_singleton, hxx.out])
          clear hO7 hC7 hT7 hown8
          by_cases hc0 : cep = 0
          · have hno : ¬ (0 : Int) < cep := by omega
            have hnod : decide ((0 : Int) < cep) = false := decide_eq_false hno
            have hfe : ftF kind p es cep x = meF es (anF p (wgL x kind)) := by unfold ftF shF; rw [if_pos hc0]
            rw [← hfe] at hown
            have hfl : (ftF kind p es cep x).length = k := by rw [hfe, hmo.out.1, hqe.out]
            have hfl := Lib.hid hfl
            have hfe := Lib.hid hfe
            clear hc0
            have hsrc := Lib.hid (src_lit wy 28 (some ⟨g8, 0, none⟩) k c8)
            have hbz : w4.heap.size ≤ (wy.alloc (.cells #[.slice (some ⟨g8, 0, none⟩) k c8] 28)).heap.size := by have := hely.size; simp; omega
            go_wp2_with (at_builtin; refine wpList_append_any rfl (.tmp 87) (.tmp 89) 34 rfl w4.heap.size 28 i0 nilV 1 24 Tryz.underlying34 hi hz0 hz1 hz2 rfl (by decide) (.slice AV t cV) t news rfl (hOy.own.alloc _) (some ⟨wy.heap.size, 0, none⟩) 1 1 [.slice (some ⟨g8, 0, none⟩) k c8] rfl hsrc.out (by unfold maxLen; omega) (by omega) hbz ?_)
            intro V4 w11 a4 a5 a6
            have hO6 := OwnRr.push hOy (x := ftF kind p es cep x) (by rw [hfl.out]; exact hown) (by rw [hfl.out]; omega) a4 a5
            have hb11 : Below w4.heap.size w4 w11 := (hely.alloc hely.size _).grown a5 hbz hrow9.out
            rw [← hfT.out] at hO6
            clear a4 a5 hsrc hown hS2 hOy
            go_wp2
            go_roundw
            case rel => exact ⟨t + 1, V4, _, _, rfl, by go_num, rfl, hlt, hO6, hb11⟩
            case measure => simp [intOf]; omega
          · obtain ⟨mc, rfl⟩ : ∃ mc : Nat, cep = (mc : Int) := ⟨cep.toNat, by omega⟩
            have hyes : (0 : Int) < (mc : Int) := by omega
            have hyes2 : 0 < mc := by omega
            have hyd : decide ((0 : Int) < (mc : Int)) = true := decide_eq_true hyes
            have hc29 := hR.out.2.2.2.2.2.2.2.2.2
            rw [hqe.out] at hc29
            have hco := cp_ok (x := meF es (anF p (wgL x kind))) (cep := (mc : Int)) (by rw [hmo.out.1, hqe.out]; omega) (by rw [hmo.out.1, hqe.out]; omega) (by omega) (by rw [hmo.out.1, hqe.out]; exact hc29) hmo.out.2
            have hfe : ftF kind p es mc x = cpL (meF es (anF p (wgL x kind))) mc := by unfold ftF shF; rw [if_neg hc0]
            have hfl : (ftF kind p es mc x).length = mc := by rw [hfe, hco.2.1]; omega
            have hmc : mc ≤ 32 := by have := hco.2.2.2; omega
            have hco := Lib.hid hco.1
            have hfl := Lib.hid hfl
            have hfe := Lib.hid hfe
            clear hc0 hown hc29
            go_wp2_with fail
            refine (RCepstrum_own _ _ _ _ mc _ hS2 hTy hco.out).mono ?_
            rintro e w12 ⟨A12, c12, rfl, hown12, hb12⟩
            rw [← hfe.out] at hown12
            have hely12 := hely.trans (hb12.mono hely.size)
            have hown12 := own_mono hown12 hely.size
            have hO12 := hOy.below hb12
            have hsrc := Lib.hid (src_lit w12 28 A12 mc c12)
            have hbz : w4.heap.size ≤ (w12.alloc (.cells #[.slice A12 mc c12] 28)).heap.size := by have := hely12.size; simp; omega
            have hrow9 := Lib.hid (fun q9 (hq9 : (Value.slice AV t cV).ownBlock = some q9) => (hO12.own.lt q9 hq9).1)
            clear hOy hS2
            go_wp2_with (at_builtin; refine wpList_append_any rfl (.tmp 87) (.tmp 89) 34 rfl w4.heap.size 28 i0 nilV 1 24 Tryz.underlying34 hi hz0 hz1 hz2 rfl (by decide) (.slice AV t cV) t news rfl (hO12.own.alloc _) (some ⟨w12.heap.size, 0, none⟩) 1 1 [.slice A12 mc c12] rfl hsrc.out (by unfold maxLen; omega) (by omega) hbz ?_)
            intro V4 w11 a4 a5 a6
            have hO6 := OwnRr.push hO12 (x := ftF kind p es mc x) (by rw [hfl.out]; exact hown12) (by rw [hfl.out]; omega) a4 a5
            have hb11 : Below w4.heap.size w4 w11 := (hely12.alloc hely12.size _).grown a5 hbz hrow9.out
            rw [← hfT.out] at hO6
            clear a4 a5 hsrc hown12 hO12
            go_wp2
            go_roundw
            case rel => exact ⟨t + 1, V4, _, _, rfl, by go_num, rfl, hlt, hO6, hb11⟩
            case measure => simp [intOf]; omega
    · have htn : N = t := by omega
      subst htn
      obtain ⟨A9, c9, e9, hR9⟩ := hO.rr
      injection e9 with e91 e92 e93
      subst e91 e93
      have hst : (List.range N).map (fun i => ftF kind p es cep (frameL (emF xs num den) size.toNat step.toNat i)) = (frF (emF xs num den) size step).map (ftF kind p es cep) := by rw [hfrF.out, List.map_map]; rfl
      rw [hst] at hR9
      clear hst hO
      have hC9 := hC4.below hbel
      have hbw := hb04.trans (hbel.mono (by have := hb04.size; omega))
      have hV : VecM (ftN es cep) 128000 ((frF (emF xs num den) size step).map (ftF kind p es cep)) := by
        intro u hu
        rw [hfrF.out, List.map_map] at hu
        obtain ⟨i, hi9, rfl⟩ := List.mem_map.1 hu
        have hr := hrow.out i (List.mem_range.1 hi9)
        exact ft_ok hk1 hk2 (s := size.toNat) (by omega) (by omega) hp.out hE.out h33 hc1 hR.out.2.2.2.2.2.2.2.2.2 hr.1 hr.2
      have hfn := ftN_bd hE.out h33 hc1 hR.out.2.2.2.2.2.2.2.2.2
      have hlen := Lib.hid hR9.len
      obtain ⟨vs, hvs⟩ : ∃ vs, (frF (emF xs num den) size step).map (ftF kind p es cep) = vs := ⟨_, rfl⟩
      have hfin : featL num den size step kind p cep es diff ctr xs = (if ctr then cenL (if diff then difL vs else vs) else (if diff then difL vs else vs)) := by unfold featL; rw [hvs]
      rw [hvs] at hR9 hV hlen
      clear hvs
      have g8 := hC9.c8
      have g9 := hC9.c9
      have hV := Lib.hid hV
      obtain ⟨M7, m7, us, hus, hV7, hM7, hm7, hm72, hul⟩ : ∃ M m7 us, (if diff then difL vs else vs) = us ∧ VecM m7 M us ∧ (0 ≤ M ∧ M ≤ 256000) ∧ 1 ≤ m7 ∧ m7 ≤ 64 ∧ us.length = N := by
        cases diff with
        | false => exact ⟨128000, _, _, rfl, hV.out, by decide, hfn.1, by omega, hlen.out⟩
        | true => exact ⟨256000, _, _, rfl, dif_vec hV.out (by decide), by decide, by omega, by omega, by rw [← hlen.out]; exact dif_len vs⟩
      rw [hus] at hfin
      have hul := Lib.hid hul
      have hV7 := Lib.hid hV7
      have hfl := Lib.hid (show (featL num den size step kind p cep es diff ctr xs).length = N by rw [hfin]; cases ctr with | false => exact hul.out | true => rw [← hul.out]; exact cen_len us)
      have hfinH := Lib.hid hfin
      clear hfin
      cases diff with
      | false =>
        have hdu : vs = us := hus
        clear hus
        subst hdu
        cases ctr with
        | false =>
          go_wp2
          go_ret2
          exact ⟨_, _, by rw [hfl.out]; rfl, by rw [hfl.out, hfinH.out]; exact hR9, hbw⟩
        | true =>
          go_wp2_with fail
          refine (RCenter_any _ _ _ m7 _ _ hR9 (by omega) hm72 (hV7.out.vecS (by omega)) (fun h0 => hV7.out.head (by rw [hul.out]; exact h0))).mono ?_
          rintro e w13 ⟨A13, c13, rfl, hR13, hb13⟩
          have hbw13 := hbw.trans (hb13.mono hbw.size)
          go_wp2
          go_ret2
          exact ⟨_, _, by rw [hfl.out]; rfl, by rw [hfl.out, hfinH.out]; exact hR13, hbw13⟩
      | true =>
        have hdu : difL vs = us := hus
        have hdu := Lib.hid hdu
        clear hus
        go_wp2_with fail
        refine (RDifferences_any _ _ _ (ftN es cep) _ _ hR9 (by omega) (by omega) (hV.out.vecS (by omega)) (fun h0 => hV.out.head (by rw [hlen.out]; exact h0))).mono ?_
        rintro e w13 ⟨A13, c13, rfl, hR13, hb13⟩
        rw [hdu.out] at hR13
        have hbw13 := hbw.trans (hb13.mono hbw.size)
        have g9 := cell_bel g9 hb13
        cases ctr with
        | false =>
          go_wp2
          go_ret2
          exact ⟨_, _, by rw [hfl.out]; rfl, by rw [hfl.out, hfinH.out]; exact hR13, hbw13⟩
        | true =>
          go_wp2_with fail
          refine (RCenter_any _ _ _ m7 _ _ hR13 (by omega) hm72 (hV7.out.vecS (by omega)) (fun h0 => hV7.out.head (by rw [hul.out]; exact h0))).mono ?_
          rintro e w14 ⟨A14, c14, rfl, hR14, hb14⟩
          have hbw14 := hbw13.trans (hb14.mono hbw13.size)
          go_wp2
          go_ret2
          exact ⟨_, _, by rw [hfl.out]; rfl, by rw [hfl.out, hfinH.out]; exact hR14, hbw14⟩
end Go.Proofs.YtoljffghaklpdaaGreatDoor
