/- The features of any recording by any recipe: the law's walk. -/
import Derived.Test.YtoljffghaklpdaaGreatDoorEQ
namespace Go.Proofs.YtoljffghaklpdaaGreatDoor
open Go.RowKit

set_option linter.unusedSimpArgs false
set_option maxHeartbeats 8000000 in
set_option maxRecDepth 100000 in
theorem extracts_law (rate : Int) (A : Option Addr) (n c : Nat) (xs : List Int) (num den size step kind points : Int) (Ae : Option Addr) (m ce : Nat) (es : List Int) (cep : Int) (diff ctr : Bool) (w : World) (h : Sl .i64 w A n c xs) (hA : A = none → c = 0) (he : Sl .i64 w Ae m ce es) (hT : Tab w) :
    Calls Tryz.prog 4 #[.agg #[.int .i64 rate, .slice A n c], (rcV num den size step kind points (.slice Ae m ce) cep diff ctr)] w (YesF w) := by
  have hl := Lib.hid h.len
  have hle := Lib.hid he.len
  have hcapz := h.cap
  have htopz := h.top
  have hcape := he.cap
  have htope := he.top
  have hb0 := ((Below.refl w.heap.size w).alloc (Nat.le_refl _) (.cells #[.int .i64 rate, .slice A n c] 30)).alloc (by simp) (.cells #[.int .i64 num, .int .i64 den, .int .i64 size, .int .i64 step, .int .i64 kind, .int .i64 points, .slice Ae m ce, .int .i64 cep, .bool diff, .bool ctr] 33)
  have hsz : ((w.alloc (.cells #[.int .i64 rate, .slice A n c] 30)).alloc (.cells #[.int .i64 num, .int .i64 den, .int .i64 size, .int .i64 step, .int .i64 kind, .int .i64 points, .slice Ae m ce, .int .i64 cep, .bool diff, .bool ctr] 33)).heap.size = w.heap.size + 2 := by simp
  have q0 : ((w.alloc (.cells #[.int .i64 rate, .slice A n c] 30)).alloc (.cells #[.int .i64 num, .int .i64 den, .int .i64 size, .int .i64 step, .int .i64 kind, .int .i64 points, .slice Ae m ce, .int .i64 cep, .bool diff, .bool ctr] 33)).cell? ⟨w.heap.size, 0, none⟩ = some (.int .i64 rate) := by simp
  have q1 : ((w.alloc (.cells #[.int .i64 rate, .slice A n c] 30)).alloc (.cells #[.int .i64 num, .int .i64 den, .int .i64 size, .int .i64 step, .int .i64 kind, .int .i64 points, .slice Ae m ce, .int .i64 cep, .bool diff, .bool ctr] 33)).cell? ⟨w.heap.size, 1, none⟩ = some (.slice A n c) := by simp
  have hC : RcC ((w.alloc (.cells #[.int .i64 rate, .slice A n c] 30)).alloc (.cells #[.int .i64 num, .int .i64 den, .int .i64 size, .int .i64 step, .int .i64 kind, .int .i64 points, .slice Ae m ce, .int .i64 cep, .bool diff, .bool ctr] 33)) (w.heap.size + 1) num den size step kind points (.slice Ae m ce) cep diff ctr := ⟨by simp, by simp, by simp, by simp, by simp, by simp, by simp, by simp, by simp, by simp⟩
  have h2 := h.below hb0
  have he2 := he.below hb0
  have hT2 : Tab ((w.alloc (.cells #[.int .i64 rate, .slice A n c] 30)).alloc (.cells #[.int .i64 num, .int .i64 den, .int .i64 size, .int .i64 step, .int .i64 kind, .int .i64 points, .slice Ae m ce, .int .i64 cep, .bool diff, .bool ctr] 33)) := hT.below hb0
  have hXt := Lib.hid (fun (w : World) h he hT hn => Extract_any rate num den size step kind points cep diff ctr A n c xs Ae m ce es w h hA he hT hn)
  have hVb := Lib.hid (Valid_both num den size step kind points cep diff ctr Ae m ce es)
  obtain ⟨P, hP⟩ : ∃ P : Prop, RcP num den size step kind points cep es = P := ⟨_, rfl⟩
  rw [hP] at hXt hVb
  have hP := Lib.hid hP
  by_cases hbig : 300 < n ∨ 70 < m
  · have kfin : ∀ (wq : World), Below w.heap.size w wq → Calls Tryz.prog 11 #[] wq (YesF wq) := fun wq hb => known_any wq (hT.below hb)
    have kfin := Lib.hid kfin
    by_cases h3 : 300 < n
    · have c1 : (300 : Int) < (n : Int) := by omega
      have c2 : decide ((300 : Int) < (n : Int)) = true := decide_eq_true c1
      have c3 : decide (300 < n) = true := decide_eq_true h3
      clear hbig
      unfold rcV
      go_enter Tryz.func4, Tryz.ntmps4
      go_wp2_with fail
      generalize ((w.alloc (.cells #[.int .i64 rate, .slice A n c] 30)).alloc (.cells #[.int .i64 num, .int .i64 den, .int .i64 size, .int .i64 step, .int .i64 kind, .int .i64 points, .slice Ae m ce, .int .i64 cep, .bool diff, .bool ctr] 33)) = w2 at *
      have f6 := hC.c6
      go_wp2_with fail
      refine (kfin.out _ hb0).mono ?_
      rintro e w3 ⟨rfl, hb3⟩
      have hbz := hb0.trans (hb3.mono (by omega))
      go_wp2
      go_ret
      exact ⟨rfl, hbz⟩
    · have h70 : 70 < m := hbig.resolve_left h3
      have c0 : ¬ (300 : Int) < (n : Int) := by omega
      have c1 : decide ((300 : Int) < (n : Int)) = false := decide_eq_false c0
      have c3 : decide (300 < n) = false := decide_eq_false h3
      have d1 : (70 : Int) < (m : Int) := by omega
      have d2 : decide ((70 : Int) < (m : Int)) = true := decide_eq_true d1
      have d3 : decide (70 < m) = true := decide_eq_true h70
      clear hbig
      unfold rcV
      go_enter Tryz.func4, Tryz.ntmps4
      go_wp2_with fail
      generalize ((w.alloc (.cells #[.int .i64 rate, .slice A n c] 30)).alloc (.cells #[.int .i64 num, .int .i64 den, .int .i64 size, .int .i64 step, .int .i64 kind, .int .i64 points, .slice Ae m ce, .int .i64 cep, .bool diff, .bool ctr] 33)) = w2 at *
      have f6 := hC.c6
      go_wp2_with fail
      refine (kfin.out _ hb0).mono ?_
      rintro e w3 ⟨rfl, hb3⟩
      have hbz := hb0.trans (hb3.mono (by omega))
      go_wp2
      go_ret
      exact ⟨rfl, hbz⟩
  · have n3 : ¬ 300 < n := fun hh => hbig (.inl hh)
    have m7 : ¬ 70 < m := fun hh => hbig (.inr hh)
    have c0 : ¬ (300 : Int) < (n : Int) := by omega
    have c1 : decide ((300 : Int) < (n : Int)) = false := decide_eq_false c0
    have c3 : decide (300 < n) = false := decide_eq_false n3
    have d0 : ¬ (70 : Int) < (m : Int) := by omega
    have d1 : decide ((70 : Int) < (m : Int)) = false := decide_eq_false d0
    have d3 : decide (70 < m) = false := decide_eq_false m7
    clear hbig
    obtain ⟨vs, hvs⟩ : ∃ vs, featL num den size step kind points.toNat cep es diff ctr xs = vs := ⟨_, rfl⟩
    rw [hvs] at hXt
    have hvs := Lib.hid hvs
    obtain ⟨vb, hvb⟩ : ∃ vb, (okB 1 192000 rate && allB (-32768) 32767 xs) = vb := ⟨_, rfl⟩
    have hcR := Lib.hid (show chkR rate xs = 0 ↔ vb = true by rw [← hvb]; exact chkR_iff (by rw [hl.out]; omega))
    have hvb := Lib.hid hvb
    have hRX : chkR rate xs = 0 ∧ P → ∀ w1 : World, Sl .i64 w1 A n c xs → Sl .i64 w1 Ae m ce es → Tab w1 → Calls Tryz.prog 17 #[.agg #[.int .i64 rate, .slice A n c], (rcV num den size step kind points (.slice Ae m ce) cep diff ctr)] w1 (Ret2B w1 vs.length vs) := by
      intro hV w1 a1 a2 a3
      have hV2 : RcP num den size step kind points cep es := by rw [hP.out]; exact hV.2
      obtain ⟨p, hp⟩ : ∃ p : Nat, points = (p : Int) := ⟨points.toNat, by have := hV2.2.2.1.1; omega⟩
      subst hp
      have hx := (Bool.and_eq_true _ _ ▸ (chkR_iff (by rw [hl.out]; omega)).1 hV.1).2
      rw [← hvs.out]
      exact RExtract_ok rate num den size step kind cep p diff ctr A n c xs Ae m ce es w1 a1 a2 a3 (by omega) hx hV2
    have hRX := Lib.hid hRX
    unfold rcV at hXt hVb hRX ⊢
    have hRXz := hRX
    by_cases hPP : P
    · cases vb with
      | true =>
        have hVV := Lib.hid (show chkR rate xs = 0 ∧ P from ⟨hcR.out.2 rfl, hPP⟩)
        go_enter Tryz.func4, Tryz.ntmps4
        go_wp2_with fail
        generalize ((w.alloc (.cells #[.int .i64 rate, .slice A n c] 30)).alloc (.cells #[.int .i64 num, .int .i64 den, .int .i64 size, .int .i64 step, .int .i64 kind, .int .i64 points, .slice Ae m ce, .int .i64 cep, .bool diff, .bool ctr] 33)) = w2 at *
        have f6 := hC.c6
        obtain ⟨f0, f1, f2, f3, f4, f5, _, f7, f8, f9⟩ := id hC
        go_wp2_with fail
        refine (hXt.out _ h2 he2 hT2 (by omega)).mono ?_
        intro e w3 hE3
        obtain ⟨A3, c3, rfl, hR3, hb3⟩ := (hE3.resolve_right (fun hh => hh.1 hVV.out)).2
        clear hE3 f0 f1 f2 f3 f4 f5 f6 f7 f8 f9
        have hC3 := hC.below hb3
        have he3 := he2.below hb3
        have h3 := h2.below hb3
        have hT3 : Tab w3 := Tab.below hT2 hb3
        have q0 := cell_bel q0 hb3
        have q1 := cell_bel q1 hb3
        have hb03 := hb0.trans (hb3.mono (by omega))
        have hKeep := Lib.hid (fun (wx : World) (hb : Below w3.heap.size w3 wx) => (⟨cell_bel hC3.c0 hb, cell_bel hC3.c1 hb, cell_bel hC3.c2 hb, cell_bel hC3.c3 hb, cell_bel hC3.c4 hb, cell_bel hC3.c5 hb, cell_bel hC3.c6 hb, cell_bel hC3.c7 hb, cell_bel hC3.c8 hb, cell_bel hC3.c9 hb⟩ : wx.cell? ⟨w.heap.size + 1, 0, none⟩ = some (.int .i64 num) ∧ wx.cell? ⟨w.heap.size + 1, 1, none⟩ = some (.int .i64 den) ∧ wx.cell? ⟨w.heap.size + 1, 2, none⟩ = some (.int .i64 size) ∧ wx.cell? ⟨w.heap.size + 1, 3, none⟩ = some (.int .i64 step) ∧ wx.cell? ⟨w.heap.size + 1, 4, none⟩ = some (.int .i64 kind) ∧ wx.cell? ⟨w.heap.size + 1, 5, none⟩ = some (.int .i64 points) ∧ wx.cell? ⟨w.heap.size + 1, 6, none⟩ = some (.slice Ae m ce) ∧ wx.cell? ⟨w.heap.size + 1, 7, none⟩ = some (.int .i64 cep) ∧ wx.cell? ⟨w.heap.size + 1, 8, none⟩ = some (.bool diff) ∧ wx.cell? ⟨w.heap.size + 1, 9, none⟩ = some (.bool ctr)))
        have hbr := Below.refl w3.heap.size w3
        have hbd := bel_drewN hbr 1
        have hed := he3.below hbd
        have hcap3 := hR3.cap
        have htop3 := hR3.top
        go_wp2
        go_region_held3 (fun wx => wx.cell? ⟨w.heap.size + 1, 0, none⟩ = some (.int .i64 num) ∧ wx.cell? ⟨w.heap.size + 1, 1, none⟩ = some (.int .i64 den) ∧ wx.cell? ⟨w.heap.size + 1, 2, none⟩ = some (.int .i64 size) ∧ wx.cell? ⟨w.heap.size + 1, 3, none⟩ = some (.int .i64 step) ∧ wx.cell? ⟨w.heap.size + 1, 4, none⟩ = some (.int .i64 kind) ∧ wx.cell? ⟨w.heap.size + 1, 5, none⟩ = some (.int .i64 points) ∧ wx.cell? ⟨w.heap.size + 1, 6, none⟩ = some (.slice Ae m ce) ∧ wx.cell? ⟨w.heap.size + 1, 7, none⟩ = some (.int .i64 cep) ∧ wx.cell? ⟨w.heap.size + 1, 8, none⟩ = some (.bool diff) ∧ wx.cell? ⟨w.heap.size + 1, 9, none⟩ = some (.bool ctr)) (first | exact hKeep.out _ hbr | exact hKeep.out _ hbd | exact hKeep.out _ hb4 | exact hKeep.out _ hb5 | go_keep)
          (first
            | (go_at_call 14; refine (hVb.out.1 _ hed).mono ?_; rintro e w4 ⟨b4, rfl, hi4, hq4⟩; (obtain rfl : b4 = true := hi4.2 hPP); clear hi4; have hb4 : Below w3.heap.size w3 w4 := hbd.trans (hq4.mono hbd.size); have he4 := he3.below hb4)
            | (go_at_call 15; refine (hVb.out.2 _ he4).mono ?_; rintro e w5 ⟨b5, rfl, hi5, hq5⟩; (obtain rfl : b5 = true := hi5.2 hPP); clear hi5; have hb5 : Below w3.heap.size w3 w5 := hb4.trans (hq5.mono hb4.size)))
        have hC5 := hC3.below hb5
        have h5 := h3.below hb5
        have he5 := he3.below hb5
        have hT5 : Tab w5 := Tab.below hT3 hb5
        have q0 := cell_bel q0 hb5
        have q1 := cell_bel q1 hb5
        have hb05 := hb03.trans (hb5.mono hb03.size)
        clear hKeep hbd hbr hed he4
        go_wp2_with fail
        refine (wRValid_any _ _ _ _ _ _ h5 (by omega)).mono ?_
        rintro e w6 ⟨rfl, hb6⟩
        rw [hvb.out]
        obtain ⟨f0, f1, f2, f3, f4, f5, f6, f7, f8, f9⟩ := hC5.below hb6
        have q0 := cell_bel q0 hb6
        have q1 := cell_bel q1 hb6
        have h6 := h5.below hb6
        have he6 := he5.below hb6
        have hT6 : Tab w6 := Tab.below hT5 hb6
        have hb06 := hb05.trans (hb6.mono hb05.size)
        go_wp2_with fail
        refine (hVb.out.2 _ he6).mono ?_
        rintro e w7 ⟨b7, rfl, hi7, hb7⟩
        (obtain rfl : b7 = true := hi7.2 hPP)
        clear hi7
        have q0 := cell_bel q0 hb7
        have q1 := cell_bel q1 hb7
        have f0 := cell_bel f0 hb7
        have f1 := cell_bel f1 hb7
        have f2 := cell_bel f2 hb7
        have f3 := cell_bel f3 hb7
        have f4 := cell_bel f4 hb7
        have f5 := cell_bel f5 hb7
        have f6 := cell_bel f6 hb7
        have f7 := cell_bel f7 hb7
        have f8 := cell_bel f8 hb7
        have f9 := cell_bel f9 hb7
        have h7 := h6.below hb7
        have he7 := he6.below hb7
        have hT7 : Tab w7 := Tab.below hT6 hb7
        have hb07 := hb06.trans (hb7.mono hb06.size)
        go_wp2_with fail
        refine (hRX.out hVV.out _ h7 he7 hT7).mono ?_
        rintro e w8 ⟨A8, c8, rfl, hR8, hb8⟩
        have hcap8 := hR8.cap
        have htop8 := hR8.top
        have hb08 := hb07.trans (hb8.mono hb07.size)
        have hR38 := (((hR3.below hb5).below hb6).below hb7).below hb8
        have hT8 : Tab w8 := Tab.below hT7 hb8
        go_wp2_with fail
        refine (SameL_any _ _ _ _ _ _ _ _ _ hR38 hR8).mono ?_
        rintro e w9 ⟨b9, r9, rfl, hi9, hw9⟩
        obtain rfl : b9 = true := hi9.2 rfl
        clear hi9
        have hb9 : Below w8.heap.size w8 w9 := by rw [hw9]; exact bel_drewN (Below.refl _ _) r9
        clear hw9
        have hb09 := hb08.trans (hb9.mono hb08.size)
        go_wp2_with fail
        refine (known_any _ (Tab.below hT8 hb9)).mono ?_
        rintro e w10 ⟨rfl, hb10⟩
        have hbz := hb09.trans (hb10.mono hb09.size)
        go_wp2
        go_ret
        exact ⟨rfl, hbz⟩
      | false =>
        have hVV := Lib.hid (show ¬ (chkR rate xs = 0 ∧ P) from fun hh => by have := hcR.out.1 hh.1; cases this)
        go_enter Tryz.func4, Tryz.ntmps4
        go_wp2_with fail
        generalize ((w.alloc (.cells #[.int .i64 rate, .slice A n c] 30)).alloc (.cells #[.int .i64 num, .int .i64 den, .int .i64 size, .int .i64 step, .int .i64 kind, .int .i64 points, .slice Ae m ce, .int .i64 cep, .bool diff, .bool ctr] 33)) = w2 at *
        have f6 := hC.c6
        obtain ⟨f0, f1, f2, f3, f4, f5, _, f7, f8, f9⟩ := id hC
        go_wp2_with fail
        refine (hXt.out _ h2 he2 hT2 (by omega)).mono ?_
        intro e w3 hE3
        obtain ⟨rfl, hb3⟩ := (hE3.resolve_left (fun hh => hVV.out hh.1)).2
        clear hE3 f0 f1 f2 f3 f4 f5 f6 f7 f8 f9
        have hC3 := hC.below hb3
        have he3 := he2.below hb3
        have h3 := h2.below hb3
        have hT3 : Tab w3 := Tab.below hT2 hb3
        have q0 := cell_bel q0 hb3
        have q1 := cell_bel q1 hb3
        have hb03 := hb0.trans (hb3.mono (by omega))
        have hKeep := Lib.hid (fun (wx : World) (hb : Below w3.heap.size w3 wx) => (⟨cell_bel hC3.c0 hb, cell_bel hC3.c1 hb, cell_bel hC3.c2 hb, cell_bel hC3.c3 hb, cell_bel hC3.c4 hb, cell_bel hC3.c5 hb, cell_bel hC3.c6 hb, cell_bel hC3.c7 hb, cell_bel hC3.c8 hb, cell_bel hC3.c9 hb⟩ : wx.cell? ⟨w.heap.size + 1, 0, none⟩ = some (.int .i64 num) ∧ wx.cell? ⟨w.heap.size + 1, 1, none⟩ = some (.int .i64 den) ∧ wx.cell? ⟨w.heap.size + 1, 2, none⟩ = some (.int .i64 size) ∧ wx.cell? ⟨w.heap.size + 1, 3, none⟩ = some (.int .i64 step) ∧ wx.cell? ⟨w.heap.size + 1, 4, none⟩ = some (.int .i64 kind) ∧ wx.cell? ⟨w.heap.size + 1, 5, none⟩ = some (.int .i64 points) ∧ wx.cell? ⟨w.heap.size + 1, 6, none⟩ = some (.slice Ae m ce) ∧ wx.cell? ⟨w.heap.size + 1, 7, none⟩ = some (.int .i64 cep) ∧ wx.cell? ⟨w.heap.size + 1, 8, none⟩ = some (.bool diff) ∧ wx.cell? ⟨w.heap.size + 1, 9, none⟩ = some (.bool ctr)))
        have hbr := Below.refl w3.heap.size w3
        have hbd := bel_drewN hbr 1
        have hed := he3.below hbd
        go_wp2
        go_region_held3 (fun wx => wx.cell? ⟨w.heap.size + 1, 0, none⟩ = some (.int .i64 num) ∧ wx.cell? ⟨w.heap.size + 1, 1, none⟩ = some (.int .i64 den) ∧ wx.cell? ⟨w.heap.size + 1, 2, none⟩ = some (.int .i64 size) ∧ wx.cell? ⟨w.heap.size + 1, 3, none⟩ = some (.int .i64 step) ∧ wx.cell? ⟨w.heap.size + 1, 4, none⟩ = some (.int .i64 kind) ∧ wx.cell? ⟨w.heap.size + 1, 5, none⟩ = some (.int .i64 points) ∧ wx.cell? ⟨w.heap.size + 1, 6, none⟩ = some (.slice Ae m ce) ∧ wx.cell? ⟨w.heap.size + 1, 7, none⟩ = some (.int .i64 cep) ∧ wx.cell? ⟨w.heap.size + 1, 8, none⟩ = some (.bool diff) ∧ wx.cell? ⟨w.heap.size + 1, 9, none⟩ = some (.bool ctr)) (first | exact hKeep.out _ hbr | exact hKeep.out _ hbd | exact hKeep.out _ hb4 | exact hKeep.out _ hb5 | go_keep)
          (first
            | (go_at_call 14; refine (hVb.out.1 _ hed).mono ?_; rintro e w4 ⟨b4, rfl, hi4, hq4⟩; (obtain rfl : b4 = true := hi4.2 hPP); clear hi4; have hb4 : Below w3.heap.size w3 w4 := hbd.trans (hq4.mono hbd.size); have he4 := he3.below hb4)
            | (go_at_call 15; refine (hVb.out.2 _ he4).mono ?_; rintro e w5 ⟨b5, rfl, hi5, hq5⟩; (obtain rfl : b5 = true := hi5.2 hPP); clear hi5; have hb5 : Below w3.heap.size w3 w5 := hb4.trans (hq5.mono hb4.size)))
        have hC5 := hC3.below hb5
        have h5 := h3.below hb5
        have he5 := he3.below hb5
        have hT5 : Tab w5 := Tab.below hT3 hb5
        have q0 := cell_bel q0 hb5
        have q1 := cell_bel q1 hb5
        have hb05 := hb03.trans (hb5.mono hb03.size)
        clear hKeep hbd hbr hed he4
        go_wp2_with fail
        refine (wRValid_any _ _ _ _ _ _ h5 (by omega)).mono ?_
        rintro e w6 ⟨rfl, hb6⟩
        rw [hvb.out]
        obtain ⟨f0, f1, f2, f3, f4, f5, f6, f7, f8, f9⟩ := hC5.below hb6
        have q0 := cell_bel q0 hb6
        have q1 := cell_bel q1 hb6
        have h6 := h5.below hb6
        have he6 := he5.below hb6
        have hT6 : Tab w6 := Tab.below hT5 hb6
        have hb06 := hb05.trans (hb6.mono hb05.size)
        go_wp2_with fail
        refine (known_any _ hT6).mono ?_
        rintro e w10 ⟨rfl, hb10⟩
        have hbz := hb06.trans (hb10.mono hb06.size)
        go_wp2
        go_ret
        exact ⟨rfl, hbz⟩
    · cases vb with
      | true =>
        have hVV := Lib.hid (show ¬ (chkR rate xs = 0 ∧ P) from fun hh => hPP hh.2)
        go_enter Tryz.func4, Tryz.ntmps4
        go_wp2_with fail
        generalize ((w.alloc (.cells #[.int .i64 rate, .slice A n c] 30)).alloc (.cells #[.int .i64 num, .int .i64 den, .int .i64 size, .int .i64 step, .int .i64 kind, .int .i64 points, .slice Ae m ce, .int .i64 cep, .bool diff, .bool ctr] 33)) = w2 at *
        have f6 := hC.c6
        obtain ⟨f0, f1, f2, f3, f4, f5, _, f7, f8, f9⟩ := id hC
        go_wp2_with fail
        refine (hXt.out _ h2 he2 hT2 (by omega)).mono ?_
        intro e w3 hE3
        obtain ⟨rfl, hb3⟩ := (hE3.resolve_left (fun hh => hVV.out hh.1)).2
        clear hE3 f0 f1 f2 f3 f4 f5 f6 f7 f8 f9
        have hC3 := hC.below hb3
        have he3 := he2.below hb3
        have h3 := h2.below hb3
        have hT3 : Tab w3 := Tab.below hT2 hb3
        have q0 := cell_bel q0 hb3
        have q1 := cell_bel q1 hb3
        have hb03 := hb0.trans (hb3.mono (by omega))
        have hKeep := Lib.hid (fun (wx : World) (hb : Below w3.heap.size w3 wx) => (⟨cell_bel hC3.c0 hb, cell_bel hC3.c1 hb, cell_bel hC3.c2 hb, cell_bel hC3.c3 hb, cell_bel hC3.c4 hb, cell_bel hC3.c5 hb, cell_bel hC3.c6 hb, cell_bel hC3.c7 hb, cell_bel hC3.c8 hb, cell_bel hC3.c9 hb⟩ : wx.cell? ⟨w.heap.size + 1, 0, none⟩ = some (.int .i64 num) ∧ wx.cell? ⟨w.heap.size + 1, 1, none⟩ = some (.int .i64 den) ∧ wx.cell? ⟨w.heap.size + 1, 2, none⟩ = some (.int .i64 size) ∧ wx.cell? ⟨w.heap.size + 1, 3, none⟩ = some (.int .i64 step) ∧ wx.cell? ⟨w.heap.size + 1, 4, none⟩ = some (.int .i64 kind) ∧ wx.cell? ⟨w.heap.size + 1, 5, none⟩ = some (.int .i64 points) ∧ wx.cell? ⟨w.heap.size + 1, 6, none⟩ = some (.slice Ae m ce) ∧ wx.cell? ⟨w.heap.size + 1, 7, none⟩ = some (.int .i64 cep) ∧ wx.cell? ⟨w.heap.size + 1, 8, none⟩ = some (.bool diff) ∧ wx.cell? ⟨w.heap.size + 1, 9, none⟩ = some (.bool ctr)))
        have hbr := Below.refl w3.heap.size w3
        have hbd := bel_drewN hbr 1
        have hed := he3.below hbd
        go_wp2
        go_region_held3 (fun wx => wx.cell? ⟨w.heap.size + 1, 0, none⟩ = some (.int .i64 num) ∧ wx.cell? ⟨w.heap.size + 1, 1, none⟩ = some (.int .i64 den) ∧ wx.cell? ⟨w.heap.size + 1, 2, none⟩ = some (.int .i64 size) ∧ wx.cell? ⟨w.heap.size + 1, 3, none⟩ = some (.int .i64 step) ∧ wx.cell? ⟨w.heap.size + 1, 4, none⟩ = some (.int .i64 kind) ∧ wx.cell? ⟨w.heap.size + 1, 5, none⟩ = some (.int .i64 points) ∧ wx.cell? ⟨w.heap.size + 1, 6, none⟩ = some (.slice Ae m ce) ∧ wx.cell? ⟨w.heap.size + 1, 7, none⟩ = some (.int .i64 cep) ∧ wx.cell? ⟨w.heap.size + 1, 8, none⟩ = some (.bool diff) ∧ wx.cell? ⟨w.heap.size + 1, 9, none⟩ = some (.bool ctr)) (first | exact hKeep.out _ hbr | exact hKeep.out _ hbd | exact hKeep.out _ hb4 | exact hKeep.out _ hb5 | go_keep)
          (first
            | (go_at_call 14; refine (hVb.out.1 _ hed).mono ?_; rintro e w4 ⟨b4, rfl, hi4, hq4⟩; (obtain rfl : b4 = false := by cases b4 with | false => rfl | true => exact absurd (hi4.1 rfl) hPP); clear hi4; have hb4 : Below w3.heap.size w3 w4 := hbd.trans (hq4.mono hbd.size); have he4 := he3.below hb4)
            | (go_at_call 15; refine (hVb.out.2 _ he4).mono ?_; rintro e w5 ⟨b5, rfl, hi5, hq5⟩; (obtain rfl : b5 = false := by cases b5 with | false => rfl | true => exact absurd (hi5.1 rfl) hPP); clear hi5; have hb5 : Below w3.heap.size w3 w5 := hb4.trans (hq5.mono hb4.size)))
        have hC5 := hC3.below hb5
        have h5 := h3.below hb5
        have he5 := he3.below hb5
        have hT5 : Tab w5 := Tab.below hT3 hb5
        have q0 := cell_bel q0 hb5
        have q1 := cell_bel q1 hb5
        have hb05 := hb03.trans (hb5.mono hb03.size)
        clear hKeep hbd hbr hed he4
        go_wp2_with fail
        refine (wRValid_any _ _ _ _ _ _ h5 (by omega)).mono ?_
        rintro e w6 ⟨rfl, hb6⟩
        rw [hvb.out]
        obtain ⟨f0, f1, f2, f3, f4, f5, f6, f7, f8, f9⟩ := hC5.below hb6
        have q0 := cell_bel q0 hb6
        have q1 := cell_bel q1 hb6
        have h6 := h5.below hb6
        have he6 := he5.below hb6
        have hT6 : Tab w6 := Tab.below hT5 hb6
        have hb06 := hb05.trans (hb6.mono hb05.size)
        go_wp2_with fail
        refine (hVb.out.2 _ he6).mono ?_
        rintro e w7 ⟨b7, rfl, hi7, hb7⟩
        (obtain rfl : b7 = false := by cases b7 with | false => rfl | true => exact absurd (hi7.1 rfl) hPP)
        clear hi7
        have q0 := cell_bel q0 hb7
        have q1 := cell_bel q1 hb7
        have f0 := cell_bel f0 hb7
        have f1 := cell_bel f1 hb7
        have f2 := cell_bel f2 hb7
        have f3 := cell_bel f3 hb7
        have f4 := cell_bel f4 hb7
        have f5 := cell_bel f5 hb7
        have f6 := cell_bel f6 hb7
        have f7 := cell_bel f7 hb7
        have f8 := cell_bel f8 hb7
        have f9 := cell_bel f9 hb7
        have h7 := h6.below hb7
        have he7 := he6.below hb7
        have hT7 : Tab w7 := Tab.below hT6 hb7
        have hb07 := hb06.trans (hb7.mono hb06.size)
        go_wp2_with fail
        refine (known_any _ hT7).mono ?_
        rintro e w10 ⟨rfl, hb10⟩
        have hbz := hb07.trans (hb10.mono hb07.size)
        go_wp2
        go_ret
        exact ⟨rfl, hbz⟩
      | false =>
        have hVV := Lib.hid (show ¬ (chkR rate xs = 0 ∧ P) from fun hh => hPP hh.2)
        go_enter Tryz.func4, Tryz.ntmps4
        go_wp2_with fail
        generalize ((w.alloc (.cells #[.int .i64 rate, .slice A n c] 30)).alloc (.cells #[.int .i64 num, .int .i64 den, .int .i64 size, .int .i64 step, .int .i64 kind, .int .i64 points, .slice Ae m ce, .int .i64 cep, .bool diff, .bool ctr] 33)) = w2 at *
        have f6 := hC.c6
        obtain ⟨f0, f1, f2, f3, f4, f5, _, f7, f8, f9⟩ := id hC
        go_wp2_with fail
        refine (hXt.out _ h2 he2 hT2 (by omega)).mono ?_
        intro e w3 hE3
        obtain ⟨rfl, hb3⟩ := (hE3.resolve_left (fun hh => hVV.out hh.1)).2
        clear hE3 f0 f1 f2 f3 f4 f5 f6 f7 f8 f9
        have hC3 := hC.below hb3
        have he3 := he2.below hb3
        have h3 := h2.below hb3
        have hT3 : Tab w3 := Tab.below hT2 hb3
        have q0 := cell_bel q0 hb3
        have q1 := cell_bel q1 hb3
        have hb03 := hb0.trans (hb3.mono (by omega))
        have hKeep := Lib.hid (fun (wx : World) (hb : Below w3.heap.size w3 wx) => (⟨cell_bel hC3.c0 hb, cell_bel hC3.c1 hb, cell_bel hC3.c2 hb, cell_bel hC3.c3 hb, cell_bel hC3.c4 hb, cell_bel hC3.c5 hb, cell_bel hC3.c6 hb, cell_bel hC3.c7 hb, cell_bel hC3.c8 hb, cell_bel hC3.c9 hb⟩ : wx.cell? ⟨w.heap.size + 1, 0, none⟩ = some (.int .i64 num) ∧ wx.cell? ⟨w.heap.size + 1, 1, none⟩ = some (.int .i64 den) ∧ wx.cell? ⟨w.heap.size + 1, 2, none⟩ = some (.int .i64 size) ∧ wx.cell? ⟨w.heap.size + 1, 3, none⟩ = some (.int .i64 step) ∧ wx.cell? ⟨w.heap.size + 1, 4, none⟩ = some (.int .i64 kind) ∧ wx.cell? ⟨w.heap.size + 1, 5, none⟩ = some (.int .i64 points) ∧ wx.cell? ⟨w.heap.size + 1, 6, none⟩ = some (.slice Ae m ce) ∧ wx.cell? ⟨w.heap.size + 1, 7, none⟩ = some (.int .i64 cep) ∧ wx.cell? ⟨w.heap.size + 1, 8, none⟩ = some (.bool diff) ∧ wx.cell? ⟨w.heap.size + 1, 9, none⟩ = some (.bool ctr)))
        have hbr := Below.refl w3.heap.size w3
        have hbd := bel_drewN hbr 1
        have hed := he3.below hbd
        go_wp2
        go_region_held3 (fun wx => wx.cell? ⟨w.heap.size + 1, 0, none⟩ = some (.int .i64 num) ∧ wx.cell? ⟨w.heap.size + 1, 1, none⟩ = some (.int .i64 den) ∧ wx.cell? ⟨w.heap.size + 1, 2, none⟩ = some (.int .i64 size) ∧ wx.cell? ⟨w.heap.size + 1, 3, none⟩ = some (.int .i64 step) ∧ wx.cell? ⟨w.heap.size + 1, 4, none⟩ = some (.int .i64 kind) ∧ wx.cell? ⟨w.heap.size + 1, 5, none⟩ = some (.int .i64 points) ∧ wx.cell? ⟨w.heap.size + 1, 6, none⟩ = some (.slice Ae m ce) ∧ wx.cell? ⟨w.heap.size + 1, 7, none⟩ = some (.int .i64 cep) ∧ wx.cell? ⟨w.heap.size + 1, 8, none⟩ = some (.bool diff) ∧ wx.cell? ⟨w.heap.size + 1, 9, none⟩ = some (.bool ctr)) (first | exact hKeep.out _ hbr | exact hKeep.out _ hbd | exact hKeep.out _ hb4 | exact hKeep.out _ hb5 | go_keep)
          (first
            | (go_at_call 14; refine (hVb.out.1 _ hed).mono ?_; rintro e w4 ⟨b4, rfl, hi4, hq4⟩; (obtain rfl : b4 = false := by cases b4 with | false => rfl | true => exact absurd (hi4.1 rfl) hPP); clear hi4; have hb4 : Below w3.heap.size w3 w4 := hbd.trans (hq4.mono hbd.size); have he4 := he3.below hb4)
            | (go_at_call 15; refine (hVb.out.2 _ he4).mono ?_; rintro e w5 ⟨b5, rfl, hi5, hq5⟩; (obtain rfl : b5 = false := by cases b5 with | false => rfl | true => exact absurd (hi5.1 rfl) hPP); clear hi5; have hb5 : Below w3.heap.size w3 w5 := hb4.trans (hq5.mono hb4.size)))
        have hC5 := hC3.below hb5
        have h5 := h3.below hb5
        have he5 := he3.below hb5
        have hT5 : Tab w5 := Tab.below hT3 hb5
        have q0 := cell_bel q0 hb5
        have q1 := cell_bel q1 hb5
        have hb05 := hb03.trans (hb5.mono hb03.size)
        clear hKeep hbd hbr hed he4
        go_wp2_with fail
        refine (wRValid_any _ _ _ _ _ _ h5 (by omega)).mono ?_
        rintro e w6 ⟨rfl, hb6⟩
        rw [hvb.out]
        obtain ⟨f0, f1, f2, f3, f4, f5, f6, f7, f8, f9⟩ := hC5.below hb6
        have q0 := cell_bel q0 hb6
        have q1 := cell_bel q1 hb6
        have h6 := h5.below hb6
        have he6 := he5.below hb6
        have hT6 : Tab w6 := Tab.below hT5 hb6
        have hb06 := hb05.trans (hb6.mono hb05.size)
        go_wp2_with fail
        refine (known_any _ hT6).mono ?_
        rintro e w10 ⟨rfl, hb10⟩
        have hbz := hb06.trans (hb10.mono hb06.size)
        go_wp2
        go_ret
        exact ⟨rfl, hbz⟩
end Go.Proofs.YtoljffghaklpdaaGreatDoor
