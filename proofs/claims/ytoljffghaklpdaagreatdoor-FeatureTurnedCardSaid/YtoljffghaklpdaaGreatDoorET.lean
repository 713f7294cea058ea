/- Features where all samples change their signs, and of a longer recording: the law's walk. -/
import Derived.Test.YtoljffghaklpdaaGreatDoorEU
import Derived.Test.YtoljffghaklpdaaGreatDoorES
namespace Go.Proofs.YtoljffghaklpdaaGreatDoor
open Go.RowKit

/-- the beginning of a list of rows -/
theorem Rr.take {w : World} {A : Option Addr} {n c k : Nat} {vs : List (List Int)} (h : Rr w A n c vs) (hk : k ≤ n) : Rr w A k c (vs.take k) := by
  obtain ⟨news, h1, h2⟩ := h.ex
  have hl := h1.len
  have hcap := h.cap
  refine ⟨by omega, h.top, news.take k, ⟨by rw [List.length_take]; omega, fun e => ⟨by have := (h1.none_ e).1; omega, (h1.none_ e).2⟩, fun ad e j u hu => ?_, fun u hu => h1.one u (List.mem_of_mem_take hu)⟩, ⟨by rw [List.length_take, List.length_take, h2.1], fun i v hv => ?_⟩⟩
  · rw [List.getElem?_take] at hu
    split at hu
    · exact h1.cell ad e j u hu
    · cases hu
  · rw [List.getElem?_take] at hv
    split at hv
    · rename_i hik
      obtain ⟨B, L, C, x, e, hx, hrest⟩ := h2.2 i v hv
      exact ⟨B, L, C, x, e, by rw [List.getElem?_take, if_pos hik]; exact hx, hrest⟩
    · cases hv

set_option linter.unusedSimpArgs false
set_option maxHeartbeats 16000000 in
set_option maxRecDepth 100000 in
theorem turned_law (rate : Int) (A : Option Addr) (n c : Nat) (xs : List Int) (num den size step kind points : Int) (Ae : Option Addr) (m ce : Nat) (es : List Int) (cep : Int) (diff ctr : Bool) (A2 : Option Addr) (m2 c2 : Nat) (ys : List Int) (w : World) (h : Sl .i64 w A n c xs) (hA : A = none → c = 0) (he : Sl .i64 w Ae m ce es) (hm : Sl .i64 w A2 m2 c2 ys) (hA2 : A2 = none → c2 = 0) (hT : Tab w) :
    Calls Tryz.prog 5 #[.agg #[.int .i64 rate, .slice A n c], (rcV num den size step kind points (.slice Ae m ce) cep diff ctr), .slice A2 m2 c2] w (YesF w) := by
  have hl := Lib.hid h.len
  have hle := Lib.hid he.len
  have hlm := Lib.hid hm.len
  have hcapz := h.cap
  have htopz := h.top
  have hcape := he.cap
  have htope := he.top
  have hcapm := hm.cap
  have htopm := hm.top
  have hb0 := ((Below.refl w.heap.size w).alloc (Nat.le_refl _) (.cells #[.int .i64 rate, .slice A n c] 30)).alloc (by simp) (.cells #[.int .i64 num, .int .i64 den, .int .i64 size, .int .i64 step, .int .i64 kind, .int .i64 points, .slice Ae m ce, .int .i64 cep, .bool diff, .bool ctr] 33)
  have hsz : ((w.alloc (.cells #[.int .i64 rate, .slice A n c] 30)).alloc (.cells #[.int .i64 num, .int .i64 den, .int .i64 size, .int .i64 step, .int .i64 kind, .int .i64 points, .slice Ae m ce, .int .i64 cep, .bool diff, .bool ctr] 33)).heap.size = w.heap.size + 2 := by simp
  have q0 : ((w.alloc (.cells #[.int .i64 rate, .slice A n c] 30)).alloc (.cells #[.int .i64 num, .int .i64 den, .int .i64 size, .int .i64 step, .int .i64 kind, .int .i64 points, .slice Ae m ce, .int .i64 cep, .bool diff, .bool ctr] 33)).cell? ⟨w.heap.size, 0, none⟩ = some (.int .i64 rate) := by simp
  have q1 : ((w.alloc (.cells #[.int .i64 rate, .slice A n c] 30)).alloc (.cells #[.int .i64 num, .int .i64 den, .int .i64 size, .int .i64 step, .int .i64 kind, .int .i64 points, .slice Ae m ce, .int .i64 cep, .bool diff, .bool ctr] 33)).cell? ⟨w.heap.size, 1, none⟩ = some (.slice A n c) := by simp
  have hC : RcC ((w.alloc (.cells #[.int .i64 rate, .slice A n c] 30)).alloc (.cells #[.int .i64 num, .int .i64 den, .int .i64 size, .int .i64 step, .int .i64 kind, .int .i64 points, .slice Ae m ce, .int .i64 cep, .bool diff, .bool ctr] 33)) (w.heap.size + 1) num den size step kind points (.slice Ae m ce) cep diff ctr := ⟨by simp, by simp, by simp, by simp, by simp, by simp, by simp, by simp, by simp, by simp⟩
  have h2 := h.below hb0
  have he2 := he.below hb0
  have hm2 := hm.below hb0
  have hT2 : Tab ((w.alloc (.cells #[.int .i64 rate, .slice A n c] 30)).alloc (.cells #[.int .i64 num, .int .i64 den, .int .i64 size, .int .i64 step, .int .i64 kind, .int .i64 points, .slice Ae m ce, .int .i64 cep, .bool diff, .bool ctr] 33)) := hT.below hb0
  have hVb := Lib.hid (Valid_both num den size step kind points cep diff ctr Ae m ce es)
  obtain ⟨P, hP⟩ : ∃ P : Prop, RcP num den size step kind points cep es = P := ⟨_, rfl⟩
  rw [hP] at hVb
  have hP := Lib.hid hP
  obtain ⟨vb, hvb⟩ : ∃ vb, (okB 1 192000 rate && allB (-32768) 32767 xs) = vb := ⟨_, rfl⟩
  have hvb := Lib.hid hvb
  obtain ⟨ab, hab⟩ : ∃ ab, allB (-32767) 32767 xs = ab := ⟨_, rfl⟩
  have hab := Lib.hid hab
  obtain ⟨bb, hbb⟩ : ∃ bb, allB (-32768) 32767 ys = bb := ⟨_, rfl⟩
  have hbb := Lib.hid hbb
  have kfin := Lib.hid (fun (wq : World) (hb : Below w.heap.size w wq) => known_any wq (hT.below hb))
  unfold rcV at hVb ⊢
  by_cases n3 : 300 < n
  · have cn1 : (300 : Int) < (n : Int) := by omega
    have cn2 : decide ((300 : Int) < (n : Int)) = true := decide_eq_true cn1
    have cn3 : decide (300 < n) = true := decide_eq_true n3
    go_enter Tryz.func5, Tryz.ntmps5
    go_wp2_with fail
    generalize ((w.alloc (.cells #[.int .i64 rate, .slice A n c] 30)).alloc (.cells #[.int .i64 num, .int .i64 den, .int .i64 size, .int .i64 step, .int .i64 kind, .int .i64 points, .slice Ae m ce, .int .i64 cep, .bool diff, .bool ctr] 33)) = w2 at *
    obtain ⟨f0, f1, f2, f3, f4, f5, f6, f7, f8, f9⟩ := id hC
    go_wp2_with fail
    refine (kfin.out _ hb0).mono ?_
    rintro e w99 ⟨rfl, hb99⟩
    have hbz := hb0.trans (hb99.mono hb0.size)
    go_wp2
    go_ret
    exact ⟨rfl, hbz⟩
  have cn1 : ¬ (300 : Int) < (n : Int) := by omega
  have cn2 : decide ((300 : Int) < (n : Int)) = false := decide_eq_false cn1
  have cn3 : decide (300 < n) = false := decide_eq_false n3
  by_cases m3 : 100 < m2
  · have d1 : (100 : Int) < (m2 : Int) := by omega
    have d2 : decide ((100 : Int) < (m2 : Int)) = true := decide_eq_true d1
    have d3 : decide (100 < m2) = true := decide_eq_true m3
    go_enter Tryz.func5, Tryz.ntmps5
    go_wp2_with fail
    generalize ((w.alloc (.cells #[.int .i64 rate, .slice A n c] 30)).alloc (.cells #[.int .i64 num, .int .i64 den, .int .i64 size, .int .i64 step, .int .i64 kind, .int .i64 points, .slice Ae m ce, .int .i64 cep, .bool diff, .bool ctr] 33)) = w2 at *
    obtain ⟨f0, f1, f2, f3, f4, f5, f6, f7, f8, f9⟩ := id hC
    go_wp2_with fail
    refine (kfin.out _ hb0).mono ?_
    rintro e w99 ⟨rfl, hb99⟩
    have hbz := hb0.trans (hb99.mono hb0.size)
    go_wp2
    go_ret
    exact ⟨rfl, hbz⟩
  have d1 : ¬ (100 : Int) < (m2 : Int) := by omega
  have d2 : decide ((100 : Int) < (m2 : Int)) = false := decide_eq_false d1
  have d3 : decide (100 < m2) = false := decide_eq_false m3
  cases vb with
  | false =>
    go_enter Tryz.func5, Tryz.ntmps5
    go_wp2_with fail
    generalize ((w.alloc (.cells #[.int .i64 rate, .slice A n c] 30)).alloc (.cells #[.int .i64 num, .int .i64 den, .int .i64 size, .int .i64 step, .int .i64 kind, .int .i64 points, .slice Ae m ce, .int .i64 cep, .bool diff, .bool ctr] 33)) = w2 at *
    obtain ⟨f0, f1, f2, f3, f4, f5, f6, f7, f8, f9⟩ := id hC
    go_wp2_with fail
    refine (wRValid_any _ _ _ _ _ _ h2 (by omega)).mono ?_
    rintro e w3 ⟨rfl, hb3⟩
    rw [hvb.out]
    have q0 := cell_bel q0 hb3
    have q1 := cell_bel q1 hb3
    obtain ⟨f0, f1, f2, f3, f4, f5, f6, f7, f8, f9⟩ := hC.below hb3
    have hC3 := hC.below hb3
    have he3 := he2.below hb3
    have h3 := h2.below hb3
    have hm3 := hm2.below hb3
    have hT3 : Tab w3 := Tab.below hT2 hb3
    have hb03 := hb0.trans (hb3.mono (by omega))
    go_wp2_with fail
    refine (kfin.out _ hb03).mono ?_
    rintro e w99 ⟨rfl, hb99⟩
    have hbz := hb03.trans (hb99.mono hb03.size)
    go_wp2
    go_ret
    exact ⟨rfl, hbz⟩
  | true =>
  by_cases hPP : P
  case neg =>
    go_enter Tryz.func5, Tryz.ntmps5
    go_wp2_with fail
    generalize ((w.alloc (.cells #[.int .i64 rate, .slice A n c] 30)).alloc (.cells #[.int .i64 num, .int .i64 den, .int .i64 size, .int .i64 step, .int .i64 kind, .int .i64 points, .slice Ae m ce, .int .i64 cep, .bool diff, .bool ctr] 33)) = w2 at *
    obtain ⟨f0, f1, f2, f3, f4, f5, f6, f7, f8, f9⟩ := id hC
    go_wp2_with fail
    refine (wRValid_any _ _ _ _ _ _ h2 (by omega)).mono ?_
    rintro e w3 ⟨rfl, hb3⟩
    rw [hvb.out]
    have q0 := cell_bel q0 hb3
    have q1 := cell_bel q1 hb3
    obtain ⟨f0, f1, f2, f3, f4, f5, f6, f7, f8, f9⟩ := hC.below hb3
    have hC3 := hC.below hb3
    have he3 := he2.below hb3
    have h3 := h2.below hb3
    have hm3 := hm2.below hb3
    have hT3 : Tab w3 := Tab.below hT2 hb3
    have hb03 := hb0.trans (hb3.mono (by omega))
    go_wp2_with fail
    refine (hVb.out.2 _ he3).mono ?_
    rintro e w4 ⟨b4, rfl, hi4, hb4⟩
    (obtain rfl : b4 = false := by cases b4 with | false => rfl | true => exact absurd (hi4.1 rfl) hPP)
    clear hi4
    have q0 := cell_bel q0 hb4
    have q1 := cell_bel q1 hb4
    obtain ⟨f0, f1, f2, f3, f4, f5, f6, f7, f8, f9⟩ := hC3.below hb4
    have hC4 := hC3.below hb4
    have he4 := he3.below hb4
    have h4 := h3.below hb4
    have hm4 := hm3.below hb4
    have hT4 : Tab w4 := Tab.below hT3 hb4
    have hb04 := hb03.trans (hb4.mono hb03.size)
    go_wp2_with fail
    refine (kfin.out _ hb04).mono ?_
    rintro e w99 ⟨rfl, hb99⟩
    have hbz := hb04.trans (hb99.mono hb04.size)
    go_wp2
    go_ret
    exact ⟨rfl, hbz⟩
  cases ab with
  | false =>
    go_enter Tryz.func5, Tryz.ntmps5
    go_wp2_with fail
    generalize ((w.alloc (.cells #[.int .i64 rate, .slice A n c] 30)).alloc (.cells #[.int .i64 num, .int .i64 den, .int .i64 size, .int .i64 step, .int .i64 kind, .int .i64 points, .slice Ae m ce, .int .i64 cep, .bool diff, .bool ctr] 33)) = w2 at *
    obtain ⟨f0, f1, f2, f3, f4, f5, f6, f7, f8, f9⟩ := id hC
    go_wp2_with fail
    refine (wRValid_any _ _ _ _ _ _ h2 (by omega)).mono ?_
    rintro e w3 ⟨rfl, hb3⟩
    rw [hvb.out]
    have q0 := cell_bel q0 hb3
    have q1 := cell_bel q1 hb3
    obtain ⟨f0, f1, f2, f3, f4, f5, f6, f7, f8, f9⟩ := hC.below hb3
    have hC3 := hC.below hb3
    have he3 := he2.below hb3
    have h3 := h2.below hb3
    have hm3 := hm2.below hb3
    have hT3 : Tab w3 := Tab.below hT2 hb3
    have hb03 := hb0.trans (hb3.mono (by omega))
    go_wp2_with fail
    refine (hVb.out.2 _ he3).mono ?_
    rintro e w4 ⟨b4, rfl, hi4, hb4⟩
    (obtain rfl : b4 = true := hi4.2 hPP)
    clear hi4
    have q0 := cell_bel q0 hb4
    have q1 := cell_bel q1 hb4
    obtain ⟨f0, f1, f2, f3, f4, f5, f6, f7, f8, f9⟩ := hC3.below hb4
    have hC4 := hC3.below hb4
    have he4 := he3.below hb4
    have h4 := h3.below hb4
    have hm4 := hm3.below hb4
    have hT4 : Tab w4 := Tab.below hT3 hb4
    have hb04 := hb03.trans (hb4.mono hb03.size)
    go_wp2_with fail
    refine (All_any _ _ _ _ _ _ _ h4).mono ?_
    rintro e w' ⟨rfl, rfl⟩
    rw [hab.out]
    go_wp2_with fail
    refine (kfin.out _ hb04).mono ?_
    rintro e w99 ⟨rfl, hb99⟩
    have hbz := hb04.trans (hb99.mono hb04.size)
    go_wp2
    go_ret
    exact ⟨rfl, hbz⟩
  | true =>
  cases bb with
  | false =>
    go_enter Tryz.func5, Tryz.ntmps5
    go_wp2_with fail
    generalize ((w.alloc (.cells #[.int .i64 rate, .slice A n c] 30)).alloc (.cells #[.int .i64 num, .int .i64 den, .int .i64 size, .int .i64 step, .int .i64 kind, .int .i64 points, .slice Ae m ce, .int .i64 cep, .bool diff, .bool ctr] 33)) = w2 at *
    obtain ⟨f0, f1, f2, f3, f4, f5, f6, f7, f8, f9⟩ := id hC
    go_wp2_with fail
    refine (wRValid_any _ _ _ _ _ _ h2 (by omega)).mono ?_
    rintro e w3 ⟨rfl, hb3⟩
    rw [hvb.out]
    have q0 := cell_bel q0 hb3
    have q1 := cell_bel q1 hb3
    obtain ⟨f0, f1, f2, f3, f4, f5, f6, f7, f8, f9⟩ := hC.below hb3
    have hC3 := hC.below hb3
    have he3 := he2.below hb3
    have h3 := h2.below hb3
    have hm3 := hm2.below hb3
    have hT3 : Tab w3 := Tab.below hT2 hb3
    have hb03 := hb0.trans (hb3.mono (by omega))
    go_wp2_with fail
    refine (hVb.out.2 _ he3).mono ?_
    rintro e w4 ⟨b4, rfl, hi4, hb4⟩
    (obtain rfl : b4 = true := hi4.2 hPP)
    clear hi4
    have q0 := cell_bel q0 hb4
    have q1 := cell_bel q1 hb4
    obtain ⟨f0, f1, f2, f3, f4, f5, f6, f7, f8, f9⟩ := hC3.below hb4
    have hC4 := hC3.below hb4
    have he4 := he3.below hb4
    have h4 := h3.below hb4
    have hm4 := hm3.below hb4
    have hT4 : Tab w4 := Tab.below hT3 hb4
    have hb04 := hb03.trans (hb4.mono hb03.size)
    go_wp2_with fail
    refine (All_any _ _ _ _ _ _ _ h4).mono ?_
    rintro e w' ⟨rfl, rfl⟩
    rw [hab.out]
    go_wp2_with fail
    refine (All_any _ _ _ _ _ _ _ hm4).mono ?_
    rintro e w' ⟨rfl, rfl⟩
    rw [hbb.out]
    go_wp2_with fail
    refine (kfin.out _ hb04).mono ?_
    rintro e w99 ⟨rfl, hb99⟩
    have hbz := hb04.trans (hb99.mono hb04.size)
    go_wp2
    go_ret
    exact ⟨rfl, hbz⟩
  | true =>
  have hx := (Bool.and_eq_true _ _ ▸ hvb.out).2
  have hrt := (Bool.and_eq_true _ _ ▸ hvb.out).1
  have hR : RcP num den size step kind points cep es := by rw [hP.out]; exact hPP
  obtain ⟨p, hp⟩ : ∃ p : Nat, points = (p : Int) := ⟨points.toNat, by have := hR.2.2.1.1; omega⟩
  subst hp
  have hpn : ((p : Int)).toNat = p := Int.toNat_natCast p
  have hlen' : lenB p = true := by have := hR.2.2.1.2; rw [hpn] at this; exact this
  have hp64 := (lenB_le hlen').2.1
  obtain ⟨hd1, hd2⟩ := hR.1
  obtain ⟨hn1, hn2⟩ := hR.2.1
  obtain ⟨hs1, hs2⟩ := hR.2.2.2.1
  obtain ⟨ht1, ht2⟩ := hR.2.2.2.2.1
  obtain ⟨hk1, hk2⟩ := hR.2.2.2.2.2.1
  obtain ⟨vs, hvs⟩ : ∃ vs, featL num den size step kind p cep es diff ctr xs = vs := ⟨_, rfl⟩
  have hXok := fun (A9 : Option Addr) (n9 c9 : Nat) (zs9 : List Int) (hz : allB (-32768) 32767 zs9 = true) (hzn : n9 ≤ 1000) (w9 : World) (a1 : Sl .i64 w9 A9 n9 c9 zs9) (a2 : A9 = none → c9 = 0) (a3 : Sl .i64 w9 Ae m ce es) (a4 : Tab w9) =>
    Extract_ok rate num den size step kind cep p diff ctr A9 n9 c9 zs9 Ae m ce es w9 a1 a2 a3 a4 hzn ((chkR_iff (by rw [a1.len]; omega)).2 (by rw [hrt, hz]; rfl)) hz hR
  have hXa := fun w9 a1 a2 a3 => hXok A n c xs hx (by omega) w9 a1 hA a2 a3
  rw [hvs] at hXa
  have hng : allB (-32768) 32767 (ngL xs) = true := allB_wide (allB_ng hab.out) (by decide) (by decide)
  have hXb := fun (A9 : Option Addr) (c9 : Nat) w9 (a1 : Sl .i64 w9 A9 n c9 (ngL xs)) a0 a2 a3 => hXok A9 n c9 (ngL xs) hng (by omega) w9 a1 a0 a2 a3
  rw [feat_ng diff ctr hd1 hd2 hn1 hn2 hs1 (by omega) hk1 hk2 hx (by rw [hl.out]; omega), hvs] at hXb
  have happ : allB (-32768) 32767 (xs ++ ys) = true := by rw [allB_app, hx, hbb.out]; rfl
  have hXc := fun (A9 : Option Addr) (c9 : Nat) w9 (a1 : Sl .i64 w9 A9 (n + m2) c9 (xs ++ ys)) a0 a2 a3 => hXok A9 (n + m2) c9 (xs ++ ys) happ (by omega) w9 a1 a0 a2 a3
  obtain ⟨N, hN⟩ : ∃ N, fcount n size.toNat step.toNat false = N := ⟨_, rfl⟩
  have hvN : vs.length = N := by rw [← hvs, feat_len, hl.out, hN]
  obtain ⟨us, hus⟩ : ∃ us, featL num den size step kind p cep es diff ctr (xs ++ ys) = us := ⟨_, rfl⟩
  have huN : N ≤ us.length := by rw [← hus, feat_len, ← hN, List.length_append, hl.out]; exact fcount_mono (by omega)
  have hpr : diff = false → ctr = false → us.take N = vs := by
    rintro rfl rfl
    have := feat_pre (num := num) (den := den) (kind := kind) (cep := cep) (p := p) (es := es) (size := size) (step := step) xs ys hs1 ht1
    rw [hl.out, hN, hus, hvs] at this
    exact this
  rw [hus] at hXc
  have hNn := hN
  rw [fcount_nopad] at hNn
  obtain ⟨sz, hsz9⟩ : ∃ sz : Nat, size = (sz : Int) := ⟨size.toNat, by omega⟩
  obtain ⟨st, hst9⟩ : ∃ st : Nat, step = (st : Int) := ⟨step.toNat, by omega⟩
  subst hsz9
  subst hst9
  rw [Int.toNat_natCast, Int.toNat_natCast] at hNn
  have hvs := Lib.hid hvs
  have hus := Lib.hid hus
  have hXa := Lib.hid hXa
  have hXb := Lib.hid hXb
  have hXc := Lib.hid hXc
  have hx := Lib.hid hx
  have hrt := Lib.hid hrt
  have hR := Lib.hid hR
  have hN := Lib.hid hN
  have hNn := Lib.hid hNn
  have hvN := Lib.hid hvN
  have hpr := Lib.hid hpr
  have hab := hab
  clear hXok hng happ hlen' hpn
  obtain ⟨j0, hj, hj0, hj1, hj2⟩ := info_parts info_int
  unfold rcV at hXa hXb hXc
  go_enter Tryz.func5, Tryz.ntmps5
  go_wp2_with fail
  generalize ((w.alloc (.cells #[.int .i64 rate, .slice A n c] 30)).alloc (.cells #[.int .i64 num, .int .i64 den, .int .i64 (sz : Int), .int .i64 (st : Int), .int .i64 kind, .int .i64 (p : Int), .slice Ae m ce, .int .i64 cep, .bool diff, .bool ctr] 33)) = w2 at *
  obtain ⟨f0, f1, f2, f3, f4, f5, f6, f7, f8, f9⟩ := id hC
  go_wp2_with fail
  refine (wRValid_any _ _ _ _ _ _ h2 (by omega)).mono ?_
  rintro e w3 ⟨rfl, hb3⟩
  rw [hvb.out]
  have q0 := cell_bel q0 hb3
  have q1 := cell_bel q1 hb3
  obtain ⟨f0, f1, f2, f3, f4, f5, f6, f7, f8, f9⟩ := hC.below hb3
  have hC3 := hC.below hb3
  have he3 := he2.below hb3
  have h3 := h2.below hb3
  have hm3 := hm2.below hb3
  have hT3 : Tab w3 := Tab.below hT2 hb3
  have hb03 := hb0.trans (hb3.mono (by omega))
  go_wp2_with fail
  refine (hVb.out.2 _ he3).mono ?_
  rintro e w4 ⟨b4, rfl, hi4, hb4⟩
  (obtain rfl : b4 = true := hi4.2 hPP)
  clear hi4
  have q0 := cell_bel q0 hb4
  have q1 := cell_bel q1 hb4
  obtain ⟨f0, f1, f2, f3, f4, f5, f6, f7, f8, f9⟩ := hC3.below hb4
  have hC4 := hC3.below hb4
  have he4 := he3.below hb4
  have h4 := h3.below hb4
  have hm4 := hm3.below hb4
  have hT4 : Tab w4 := Tab.below hT3 hb4
  have hb04 := hb03.trans (hb4.mono hb03.size)
  go_wp2_with fail
  refine (All_any _ _ _ _ _ _ _ h4).mono ?_
  rintro e w' ⟨rfl, rfl⟩
  rw [hab.out]
  go_wp2_with fail
  refine (All_any _ _ _ _ _ _ _ hm4).mono ?_
  rintro e w' ⟨rfl, rfl⟩
  rw [hbb.out]
  clear f0 f1 f2 f3 f4 f5 f6 f7 f8 f9
  have hab4 := hab.out
  have hab4 := Lib.hid hab4
  go_wp2
  go_loopw [7, 8] (fun ov iv wr' => ∃ (k : Nat) (V : Value) (wr : World), wr = wr' ∧ iv = .int .i64 (k : Int) ∧ V = ov ∧ k ≤ n ∧ wr.ownsRow w4.heap.size 3 1 V k (ivs .i64 (tab k fun i => -xs.getD i 0)) ∧ Below w4.heap.size w4 wr) (fun _ iv _ => n - (intOf iv).toNat)
  case atStart => exact ⟨0, _, _, rfl, rfl, rfl, Nat.zero_le _, World.ownsRow_nil _ _ _ _, Below.refl _ _⟩
  case round =>
    obtain ⟨k, V, wr, rfl, rfl, rfl, hkn, hown, hbel⟩ := hrel
    have q0 := cell_bel q0 hbel
    have q1 := cell_bel q1 hbel
    rcases Nat.lt_or_ge k n with hlt | hge
    · obtain ⟨ad, x, rfl, hcx, hxx⟩ := (h4.below hbel).at_ hlt
      have hxb := allB_get hab4.out (by rw [hl.out]; exact hlt) hxx.out
      have hxb1 := hxb.1
      have hxb2 := hxb.2
      clear hxb
      have hwn : IntKind.i64.wrap (-x) = -x := IntWalk.i64_in _ (by omega)
      have hsn := Lib.hid (show (tab (k + 1) fun i => -xs.getD i 0) = (tab k fun i => -xs.getD i 0) ++ [-x] by rw [tab_succ, hxx.out])
      have hbs := hbel.size
      go_wp2_with (at_builtin; refine wpList_append_own _ rfl (.tmp 54) (.tmp 61) 28 rfl w4.heap.size 3 j0 (.int .i64 0) 1 8 Tryz.underlying28 hj hj0 hj1 hj2 rfl (by decide) V k (ivs .i64 (tab k fun i => -xs.getD i 0)) rfl (hown.alloc _) ⟨wr.heap.size, 0, none⟩ 1 1 [.int .i64 (-x)] rfl rfl (news_one _ _ _) (oneCell1 _) ?ha3 ?ha4 ?ha5 ?_)
      case ha3 => unfold maxLen; omega
      case ha4 => omega
      case ha5 => simp; omega
      intro v1 w5 hown5 hg5 _
      have hown6 : w5.ownsRow w4.heap.size 3 1 v1 (k + 1) (ivs .i64 (tab (k + 1) fun i => -xs.getD i 0)) := by rw [hsn.out, ivs_snoc]; exact hown5
      have hb5 : Below w4.heap.size w4 w5 := (hbel.alloc hbs _).grown hg5 (by simp; omega) (fun q hq => (hown.lt q hq).1)
      clear hown5 hg5
      go_wp2
      go_roundw
      case rel => exact ⟨k + 1, v1, _, rfl, by go_num, rfl, by omega, hown6, hb5⟩
      case measure => simp [intOf]; omega
    · have hkn' : n = k := by omega
      subst hkn'
      have htb : (tab n fun i => -xs.getD i 0) = ngL xs := by
        unfold ngL
        apply List.ext_getElem
        · rw [tab_len, List.length_map, hl.out]
        · intro i a1 a2
          rw [List.length_map] at a2
          simp [tab, List.getD_eq_getElem?_getD, a2]
      rw [htb] at hown
      clear htb
      have hnn := fun (A9 : Option Addr) (c9 : Nat) (e : V = .slice A9 n c9) => own_nn (A := A9) (c := c9) (e ▸ hown)
      obtain ⟨A7, c7, rfl, hS7⟩ := Sl.of_own hown
      have hnn := hnn A7 c7 rfl
      have hcap7 := hS7.cap
      have htop7 := hS7.top
      have hb0r := hb04.trans (hbel.mono hb04.size)
      have h5 := h4.below hbel
      have he5 := he4.below hbel
      have hm5 := hm4.below hbel
      have hT5 : Tab wr := Tab.below hT4 hbel
      have hC5 := hC4.below hbel
      obtain ⟨f0, f1, f2, f3, f4, f5, f6, f7, f8, f9⟩ := id hC5
      clear hown
      go_wp2_with fail
      refine (hXa.out _ h5 he5 hT5).mono ?_
      rintro e w6 ⟨A9, c9, rfl, hR9, hb6⟩
      rw [hvN.out] at hR9 ⊢
      have q0 := cell_bel q0 hb6
      have q1 := cell_bel q1 hb6
      obtain ⟨f0, f1, f2, f3, f4, f5, f6, f7, f8, f9⟩ := hC5.below hb6
      have hC6 := hC5.below hb6
      have he6 := he5.below hb6
      have h6 := h5.below hb6
      have hm6 := hm5.below hb6
      have hS76 := hS7.below hb6
      have hT6 : Tab w6 := Tab.below hT5 hb6
      have hb06 := hb0r.trans (hb6.mono hb0r.size)
      go_wp2_with fail
      refine (hXb.out _ _ _ hS76 hnn he6 hT6).mono ?_
      rintro e w7 ⟨A11, c11, rfl, hR11, hb7⟩
      rw [hvN.out] at hR11 ⊢
      have q0 := cell_bel q0 hb7
      have q1 := cell_bel q1 hb7
      obtain ⟨f0, f1, f2, f3, f4, f5, f6, f7, f8, f9⟩ := hC6.below hb7
      have hC7 := hC6.below hb7
      have he7 := he6.below hb7
      have h7 := h6.below hb7
      have hm7 := hm6.below hb7
      have hT7 : Tab w7 := Tab.below hT6 hb7
      have hb07 := hb06.trans (hb7.mono hb06.size)
      have hR97 := hR9.below hb7
      go_wp2_with fail
      refine (SameL_any _ _ _ _ _ _ _ _ _ hR97 hR11).mono ?_
      rintro e w8 ⟨b8, r8, rfl, hi8, hw8⟩
      obtain rfl : b8 = true := hi8.2 rfl
      clear hi8
      have hb8 : Below w7.heap.size w7 w8 := by rw [hw8]; exact bel_drewN (Below.refl _ _) r8
      clear hw8
      have q0 := cell_bel q0 hb8
      have q1 := cell_bel q1 hb8
      obtain ⟨f0, f1, f2, f3, f4, f5, f6, f7, f8, f9⟩ := hC7.below hb8
      have hC8 := hC7.below hb8
      have he8 := he7.below hb8
      have h8 := h7.below hb8
      have hm8 := hm7.below hb8
      have hT8 : Tab w8 := Tab.below hT7 hb8
      have hb08 := hb07.trans (hb8.mono hb07.size)
      have hR98 := hR97.below hb8
      have hcap9 := hR98.cap
      have htop9 := hR98.top
      have hNb : N ≤ 1000 := by
        have := hN.out
        have := fcount_le (n := n) (s := ((sz : Int)).toNat) (p := ((st : Int)).toNat) (pad := false) (by omega) (by omega)
        omega
      have q0k := q0
      have e1 : ((N : Int) != (N : Int)) = false := by simp
      have kfin8 := Lib.hid (kfin.out _ hb08)
      by_cases hsn : n < sz
      · have hN0 : N = 0 := by have := hNn.out; rw [if_pos hsn] at this; exact this.symm
        subst hN0
        have s1 : ¬ (sz : Int) ≤ (n : Int) := by omega
        have s2 : decide ((sz : Int) ≤ (n : Int)) = false := decide_eq_false s1
        have s3 : decide (sz ≤ n) = false := decide_eq_false (by omega)
        have kfin8 := kfin8
        cases diff with
        | true =>
          go_wp2_with fail
          refine kfin8.out.mono ?_
          rintro e w99 ⟨rfl, hb99⟩
          have hbz := hb08.trans (hb99.mono hb08.size)
          go_wp2
          go_ret
          exact ⟨rfl, hbz⟩
        | false =>
          cases ctr with
          | true =>
            go_wp2_with fail
            refine kfin8.out.mono ?_
            rintro e w99 ⟨rfl, hb99⟩
            have hbz := hb08.trans (hb99.mono hb08.size)
            go_wp2
            go_ret
            exact ⟨rfl, hbz⟩
          | false =>
            have hKeep := Lib.hid (fun (wx : World) (hb : Below w8.heap.size w8 wx) => (⟨cell_bel q0 hb, cell_bel q1 hb, cell_bel hC8.c0 hb, cell_bel hC8.c1 hb, cell_bel hC8.c2 hb, cell_bel hC8.c3 hb, cell_bel hC8.c4 hb, cell_bel hC8.c5 hb, cell_bel hC8.c6 hb, cell_bel hC8.c7 hb, cell_bel hC8.c8 hb, cell_bel hC8.c9 hb⟩ : wx.cell? ⟨w.heap.size, 0, none⟩ = some (.int .i64 rate) ∧ wx.cell? ⟨w.heap.size, 1, none⟩ = some (.slice A n c) ∧ wx.cell? ⟨w.heap.size + 1, 0, none⟩ = some (.int .i64 num) ∧ wx.cell? ⟨w.heap.size + 1, 1, none⟩ = some (.int .i64 den) ∧ wx.cell? ⟨w.heap.size + 1, 2, none⟩ = some (.int .i64 (sz : Int)) ∧ wx.cell? ⟨w.heap.size + 1, 3, none⟩ = some (.int .i64 (st : Int)) ∧ wx.cell? ⟨w.heap.size + 1, 4, none⟩ = some (.int .i64 kind) ∧ wx.cell? ⟨w.heap.size + 1, 5, none⟩ = some (.int .i64 (p : Int)) ∧ wx.cell? ⟨w.heap.size + 1, 6, none⟩ = some (.slice Ae m ce) ∧ wx.cell? ⟨w.heap.size + 1, 7, none⟩ = some (.int .i64 cep) ∧ wx.cell? ⟨w.heap.size + 1, 8, none⟩ = some (.bool false) ∧ wx.cell? ⟨w.heap.size + 1, 9, none⟩ = some (.bool false)))
            have hbr := Below.refl w8.heap.size w8
            have hbd := bel_drewN hbr 1
            have hsr1 := Lib.hid (Src.of_sl (h8.below hbd) hA)
            have hsr2 := Lib.hid (fun (wx : World) (hb : Below w8.heap.size w8 wx) => Src.of_sl (hm8.below hb) hA2)
            have htake := Lib.hid (hpr.out rfl rfl)
            clear f0 f1 f4 f5 f6 f7
            clear hvs hus hXa hXb hVb hP hvb hab hbb hx hrt hR hN hNn hvN h2 he2 hm2 hC hC3 hC4 hC5 hC6 hC7 h3 h4 h5 h6 h7 he3 he4 he5 he6 he7 hm3 hm4 hm5 hm6 hm7 hT2 hT3 hT4 hT5 hT6 hT7 hS7 hS76 hR9 hR11 hR97 hnn hpr hbel hb0r hb06 hb07 hb04 hb03 hb6 hb7 hb8 hb3 hb4 hb0
            go_wp2_with fail
            refine wp_region_held_drew (S := (fun wx => wx.cell? ⟨w.heap.size, 0, none⟩ = some (.int .i64 rate) ∧ wx.cell? ⟨w.heap.size, 1, none⟩ = some (.slice A n c) ∧ wx.cell? ⟨w.heap.size + 1, 0, none⟩ = some (.int .i64 num) ∧ wx.cell? ⟨w.heap.size + 1, 1, none⟩ = some (.int .i64 den) ∧ wx.cell? ⟨w.heap.size + 1, 2, none⟩ = some (.int .i64 (sz : Int)) ∧ wx.cell? ⟨w.heap.size + 1, 3, none⟩ = some (.int .i64 (st : Int)) ∧ wx.cell? ⟨w.heap.size + 1, 4, none⟩ = some (.int .i64 kind) ∧ wx.cell? ⟨w.heap.size + 1, 5, none⟩ = some (.int .i64 (p : Int)) ∧ wx.cell? ⟨w.heap.size + 1, 6, none⟩ = some (.slice Ae m ce) ∧ wx.cell? ⟨w.heap.size + 1, 7, none⟩ = some (.int .i64 cep) ∧ wx.cell? ⟨w.heap.size + 1, 8, none⟩ = some (.bool false) ∧ wx.cell? ⟨w.heap.size + 1, 9, none⟩ = some (.bool false))) (by kernel_rfl) (hKeep.out _ hbd) (fun hHeld => ?_)
            refine wpAnyH_take (i := 0) (v := .pointer (some ⟨w.heap.size, 0, none⟩)) rfl (by kernel_rfl) (by kernel_rfl) (by kernel_rfl) (fun _ _ _ h => h) (Or.inl ⟨by kernel_rfl, by (intro w hSw; (try dsimp only at hSw); go_simp)⟩) hHeld ?_
            simp only [Act.put, List.getElem_toArray, List.getElem_cons_succ, List.getElem_cons_zero, List.setIfInBounds_toArray, List.set_cons_zero, List.set_cons_succ]
            refine wpAnyH_take (i := 1) (v := .int .i64 rate) rfl (by kernel_rfl) (by kernel_rfl) (by kernel_rfl) (fun _ _ _ h => h) (Or.inl ⟨by kernel_rfl, by (intro w hSw; (try dsimp only at hSw); go_simp)⟩) hHeld ?_
            simp only [Act.put, List.getElem_toArray, List.getElem_cons_succ, List.getElem_cons_zero, List.setIfInBounds_toArray, List.set_cons_zero, List.set_cons_succ]
            refine wpAnyH_take (i := 2) (v := .pointer (some ⟨w.heap.size, 1, none⟩)) rfl (by kernel_rfl) (by kernel_rfl) (by kernel_rfl) (fun _ _ _ h => h) (Or.inl ⟨by kernel_rfl, by (intro w hSw; (try dsimp only at hSw); go_simp)⟩) hHeld ?_
            simp only [Act.put, List.getElem_toArray, List.getElem_cons_succ, List.getElem_cons_zero, List.setIfInBounds_toArray, List.set_cons_zero, List.set_cons_succ]
            refine wpAnyH_take (i := 3) (v := .slice A n c) rfl (by kernel_rfl) (by kernel_rfl) (by kernel_rfl) (fun _ _ _ h => h) (Or.inl ⟨by kernel_rfl, by (intro w hSw; (try dsimp only at hSw); go_simp)⟩) hHeld ?_
            simp only [Act.put, List.getElem_toArray, List.getElem_cons_succ, List.getElem_cons_zero, List.setIfInBounds_toArray, List.set_cons_zero, List.set_cons_succ]
            refine wpAnyH_take (i := 5) (v := .slice A2 m2 c2) rfl (by kernel_rfl) (by kernel_rfl) (by kernel_rfl) (fun _ _ _ h => h) (Or.inl ⟨by kernel_rfl, by (intro w hSw; (try dsimp only at hSw); go_simp)⟩) hHeld ?_
            simp only [Act.put, List.getElem_toArray, List.getElem_cons_succ, List.getElem_cons_zero, List.setIfInBounds_toArray, List.set_cons_zero, List.set_cons_succ]
            refine wpAnyH_take (i := 8) (v := .agg #[.int .i64 num, .int .i64 den, .int .i64 (sz : Int), .int .i64 (st : Int), .int .i64 kind, .int .i64 (p : Int), .slice Ae m ce, .int .i64 cep, .bool false, .bool false]) rfl (by kernel_rfl) (by kernel_rfl) (by kernel_rfl) (fun _ _ _ h => h) (Or.inl ⟨by kernel_rfl, by (intro w hSw; (try dsimp only at hSw); go_simp)⟩) hHeld ?_
            simp only [Act.put, List.getElem_toArray, List.getElem_cons_succ, List.getElem_cons_zero, List.setIfInBounds_toArray, List.set_cons_zero, List.set_cons_succ]
            refine wpAnyH_ready (rs := [4]) (by kernel_rfl) (by simp) ?_
            refine AllReadyH.cons rfl (fun K hK => ?_) AllReadyH.nil
            refine step_append_any (by rfl) _ _ _ (by rfl) w8.heap.size 3 j0 (.int .i64 0) 1 8 Tryz.underlying28 hj hj0 hj1 hj2 (by rfl) (by decide) (.slice none 0 0) 0 [] (by rfl) (World.ownsRow_nil _ _ _ _) A n c (ivs .i64 xs) (by rfl) hsr1.out (by unfold maxLen; omega) (by omega) (Nat.le_refl _) ?_
            intro va wa howna hga _
            simp only [Nat.zero_add, List.nil_append] at howna
            have hba : Below w8.heap.size w8 wa := hbd.grown hga (Nat.le_refl _) (fun k hk => by cases hk)
            refine hK.out _ _ ?_ (fun hHeld => ?_)
            · exact hKeep.out _ hba
            clear hK K
            try simp only [Act.put, List.getElem_toArray, List.getElem_cons_succ, List.getElem_cons_zero, List.setIfInBounds_toArray, List.set_cons_zero, List.set_cons_succ]
            refine wpAnyH_ready (rs := [6]) (by kernel_rfl) (by simp) ?_
            refine AllReadyH.cons rfl (fun K hK => ?_) AllReadyH.nil
            refine step_append_any (by rfl) _ _ _ (by rfl) w8.heap.size 3 j0 (.int .i64 0) 1 8 Tryz.underlying28 hj hj0 hj1 hj2 (by rfl) (by decide) va n (ivs .i64 xs) (by rfl) howna A2 m2 c2 (ivs .i64 ys) (by rfl) (hsr2.out _ hba) (by unfold maxLen; omega) (by omega) hba.size ?_
            intro vb9 wb hownb hgb _
            have hbb9 : Below w8.heap.size w8 wb := hba.grown hgb hba.size (fun k hk => (howna.lt k hk).1)
            rw [← ivs_app] at hownb
            have hnb9 := fun (A9 : Option Addr) (c9 : Nat) (e : vb9 = .slice A9 (n + m2) c9) => own_nn (A := A9) (c := c9) (e ▸ hownb)
            obtain ⟨Ab, cb, rfl, hSb⟩ := Sl.of_own hownb
            have hnb := Lib.hid (hnb9 Ab cb rfl)
            clear hnb9 hownb hgb hga howna
            have heb := he8.below hbb9
            have hTb : Tab wb := Tab.below hT8 hbb9
            refine hK.out _ _ ?_ (fun hHeld => ?_)
            · exact hKeep.out _ hbb9
            clear hK K
            try simp only [Act.put, List.getElem_toArray, List.getElem_cons_succ, List.getElem_cons_zero, List.setIfInBounds_toArray, List.set_cons_zero, List.set_cons_succ]
            generalize hnm : n + m2 = nm at *
            have hnm := Lib.hid hnm
            refine wpAnyH_take (i := 7) (v := .agg #[.int .i64 rate, .slice Ab nm cb]) rfl (by kernel_rfl) (by kernel_rfl) (by kernel_rfl) (fun _ _ _ h => h) (Or.inl ⟨by kernel_rfl, by (intro w hSw; kernel_rfl)⟩) hHeld ?_
            simp only [Act.put, List.getElem_toArray, List.getElem_cons_succ, List.getElem_cons_zero, List.setIfInBounds_toArray, List.set_cons_zero, List.set_cons_succ]
            refine wpAnyH_ready (rs := [9]) (by kernel_rfl) (by simp) ?_
            refine AllReadyH.cons rfl (fun K hK => ?_) AllReadyH.nil
            go_simp
            refine (hXc.out _ _ _ hSb hnb.out heb hTb).mono ?_
            rintro e wc ⟨A14, c14, rfl, hR14, hqc⟩
            have hbc : Below w8.heap.size w8 wc := hbb9.trans (hqc.mono hbb9.size)
            go_wp2_with fail
            refine hK.out _ _ ?_ (fun hHeld => ?_)
            · exact hKeep.out _ hbc
            clear hK K
            try simp only [Act.put, List.getElem_toArray, List.getElem_cons_succ, List.getElem_cons_zero, List.setIfInBounds_toArray, List.set_cons_zero, List.set_cons_succ]
            refine wpAnyH_take (i := 10) (v := .tuple #[.slice A14 us.length c14, .int .i64 0]) rfl (by kernel_rfl) (by kernel_rfl) (by kernel_rfl) (fun _ _ _ h => h) (Or.inl ⟨by kernel_rfl, by (intro w hSw; (try dsimp only at hSw); go_simp)⟩) hHeld ?_
            simp only [Act.put, List.getElem_toArray, List.getElem_cons_succ, List.getElem_cons_zero, List.setIfInBounds_toArray, List.set_cons_zero, List.set_cons_succ]
            refine wpAnyH_take (i := 11) (v := .slice A14 us.length c14) rfl (by kernel_rfl) (by kernel_rfl) (by kernel_rfl) (fun _ _ _ h => h) (Or.inl ⟨by kernel_rfl, by (intro w hSw; (try dsimp only at hSw); go_simp)⟩) hHeld ?_
            simp only [Act.put, List.getElem_toArray, List.getElem_cons_succ, List.getElem_cons_zero, List.setIfInBounds_toArray, List.set_cons_zero, List.set_cons_succ]
            refine wpAnyH_take (i := 12) (v := .int .i64 0) rfl (by kernel_rfl) (by kernel_rfl) (by kernel_rfl) (fun _ _ _ h => h) (Or.inl ⟨by kernel_rfl, by (intro w hSw; (try dsimp only at hSw); go_simp)⟩) hHeld ?_
            simp only [Act.put, List.getElem_toArray, List.getElem_cons_succ, List.getElem_cons_zero, List.setIfInBounds_toArray, List.set_cons_zero, List.set_cons_succ]
            refine wpAnyH_take (i := 13) (v := .slice A14 us.length c14) rfl (by kernel_rfl) (by kernel_rfl) (by kernel_rfl) (fun _ _ _ h => h) (Or.inl ⟨by kernel_rfl, by (intro w hSw; (try dsimp only at hSw); go_simp)⟩) hHeld ?_
            simp only [Act.put, List.getElem_toArray, List.getElem_cons_succ, List.getElem_cons_zero, List.setIfInBounds_toArray, List.set_cons_zero, List.set_cons_succ]
            refine wpAnyH_take (i := 14) (v := .int .i64 0) rfl (by kernel_rfl) (by kernel_rfl) (by kernel_rfl) (fun _ _ _ h => h) (Or.inl ⟨by kernel_rfl, by (intro w hSw; (try dsimp only at hSw); go_simp)⟩) hHeld ?_
            simp only [Act.put, List.getElem_toArray, List.getElem_cons_succ, List.getElem_cons_zero, List.setIfInBounds_toArray, List.set_cons_zero, List.set_cons_succ]
            refine wpAnyH_done (by kernel_rfl) ?_ _
            have hb0c := hb08.trans (hbc.mono hb08.size)
            have hRc := hR98.below hbc
            have hcapc := hR14.cap
            have htopc := hR14.top
            obtain ⟨L14, hL14⟩ : ∃ L, us.length = L := ⟨_, rfl⟩
            rw [hL14] at hR14 hcapc huN ⊢
            have hL14 := Lib.hid hL14
            have hTk := hR14.take huN
            rw [htake.out] at hTk
            have g1 : decide ((0 : Int) ≤ (L14 : Int)) = true := decide_eq_true (by omega)
            have g2 : decide (0 ≤ L14) = true := decide_eq_true huN
            have g3 : (0 : Int) ≤ (0 : Int) := by omega
            have g4 : (0 : Int) ≤ (L14 : Int) := by omega
            have g5 : (0 : Int) ≤ (c14 : Int) := by omega
            have hTc : Tab wc := Tab.below hT8 hbc
            clear hKeep hbr hbd hsr1 hsr2 htake hSb hnb hba hbb9 heb hTb
            go_wp2_with fail
            refine (SameL_any _ _ _ _ _ _ _ _ _ hTk hRc).mono ?_
            rintro e w21 ⟨b21, r21, rfl, hi21, hw21⟩
            obtain rfl : b21 = true := hi21.2 rfl
            clear hi21
            have hb21 : Below wc.heap.size wc w21 := by rw [hw21]; exact bel_drewN (Below.refl _ _) r21
            clear hw21
            have hb0d := hb0c.trans (hb21.mono hb0c.size)
            go_wp2_with fail
            refine (kfin.out _ hb0d).mono ?_
            rintro e w22 ⟨rfl, hb22⟩
            have hbz := hb0d.trans (hb22.mono hb0d.size)
            go_wp2
            go_ret
            exact ⟨rfl, hbz⟩
      · have hNq := hNn.out
        rw [if_neg hsn] at hNq
        obtain ⟨q, hq⟩ : ∃ q, (n - sz) / st = q := ⟨_, rfl⟩
        rw [hq] at hNq
        have s0 : sz ≤ n := by omega
        have s1 : (sz : Int) ≤ (n : Int) := by omega
        have s2 : decide ((sz : Int) ≤ (n : Int)) = true := decide_eq_true s1
        have s3 : decide (sz ≤ n) = true := decide_eq_true s0
        have w1 : IntKind.i64.wrap ((n : Int) - (sz : Int)) = ((n - sz : Nat) : Int) := by rw [IntWalk.i64_in _ (by omega)]; omega
        have hqn : q < 1000 := by omega
        have dv : ((n - sz : Nat) : Int) / (st : Int) = (q : Int) := by rw [← hq]; rfl
        have dt : ((n - sz : Nat) : Int).tdiv (st : Int) = (q : Int) := by rw [Int.tdiv_eq_ediv_of_nonneg (by omega)]; exact dv
        have st1 : 0 < st := by omega
        have st2 : ((st : Int) == 0) = false := by rw [beq_eq_false_iff_ne]; omega
        have st3 : ¬ st = 0 := by omega
        have wq : IntKind.i64.wrap ((q : Int) + 1) = (N : Int) := by rw [IntWalk.i64_in _ (by omega)]; omega
        have hq := Lib.hid hq
        have hNq := Lib.hid hNq
        obtain ⟨D, hD⟩ : ∃ D, n - sz = D := ⟨_, rfl⟩
        rw [hD] at w1 dv dt
        have hD := Lib.hid hD
        have kfin8 := kfin8
        cases diff with
        | true =>
          go_wp2_with fail
          refine kfin8.out.mono ?_
          rintro e w99 ⟨rfl, hb99⟩
          have hbz := hb08.trans (hb99.mono hb08.size)
          go_wp2
          go_ret
          exact ⟨rfl, hbz⟩
        | false =>
          cases ctr with
          | true =>
            go_wp2_with fail
            refine kfin8.out.mono ?_
            rintro e w99 ⟨rfl, hb99⟩
            have hbz := hb08.trans (hb99.mono hb08.size)
            go_wp2
            go_ret
            exact ⟨rfl, hbz⟩
          | false =>
            have hKeep := Lib.hid (fun (wx : World) (hb : Below w8.heap.size w8 wx) => (⟨cell_bel q0 hb, cell_bel q1 hb, cell_bel hC8.c0 hb, cell_bel hC8.c1 hb, cell_bel hC8.c2 hb, cell_bel hC8.c3 hb, cell_bel hC8.c4 hb, cell_bel hC8.c5 hb, cell_bel hC8.c6 hb, cell_bel hC8.c7 hb, cell_bel hC8.c8 hb, cell_bel hC8.c9 hb⟩ : wx.cell? ⟨w.heap.size, 0, none⟩ = some (.int .i64 rate) ∧ wx.cell? ⟨w.heap.size, 1, none⟩ = some (.slice A n c) ∧ wx.cell? ⟨w.heap.size + 1, 0, none⟩ = some (.int .i64 num) ∧ wx.cell? ⟨w.heap.size + 1, 1, none⟩ = some (.int .i64 den) ∧ wx.cell? ⟨w.heap.size + 1, 2, none⟩ = some (.int .i64 (sz : Int)) ∧ wx.cell? ⟨w.heap.size + 1, 3, none⟩ = some (.int .i64 (st : Int)) ∧ wx.cell? ⟨w.heap.size + 1, 4, none⟩ = some (.int .i64 kind) ∧ wx.cell? ⟨w.heap.size + 1, 5, none⟩ = some (.int .i64 (p : Int)) ∧ wx.cell? ⟨w.heap.size + 1, 6, none⟩ = some (.slice Ae m ce) ∧ wx.cell? ⟨w.heap.size + 1, 7, none⟩ = some (.int .i64 cep) ∧ wx.cell? ⟨w.heap.size + 1, 8, none⟩ = some (.bool false) ∧ wx.cell? ⟨w.heap.size + 1, 9, none⟩ = some (.bool false)))
            have hbr := Below.refl w8.heap.size w8
            have hbd := bel_drewN hbr 1
            have hsr1 := Lib.hid (Src.of_sl (h8.below hbd) hA)
            have hsr2 := Lib.hid (fun (wx : World) (hb : Below w8.heap.size w8 wx) => Src.of_sl (hm8.below hb) hA2)
            have htake := Lib.hid (hpr.out rfl rfl)
            clear f0 f1 f4 f5 f6 f7
            clear hvs hus hXa hXb hVb hP hvb hab hbb hx hrt hR hN hNn hvN h2 he2 hm2 hC hC3 hC4 hC5 hC6 hC7 h3 h4 h5 h6 h7 he3 he4 he5 he6 he7 hm3 hm4 hm5 hm6 hm7 hT2 hT3 hT4 hT5 hT6 hT7 hS7 hS76 hR9 hR11 hR97 hnn hpr hbel hb0r hb06 hb07 hb04 hb03 hb6 hb7 hb8 hb3 hb4 hb0
            go_wp2_with fail
            refine wp_region_held_drew (S := (fun wx => wx.cell? ⟨w.heap.size, 0, none⟩ = some (.int .i64 rate) ∧ wx.cell? ⟨w.heap.size, 1, none⟩ = some (.slice A n c) ∧ wx.cell? ⟨w.heap.size + 1, 0, none⟩ = some (.int .i64 num) ∧ wx.cell? ⟨w.heap.size + 1, 1, none⟩ = some (.int .i64 den) ∧ wx.cell? ⟨w.heap.size + 1, 2, none⟩ = some (.int .i64 (sz : Int)) ∧ wx.cell? ⟨w.heap.size + 1, 3, none⟩ = some (.int .i64 (st : Int)) ∧ wx.cell? ⟨w.heap.size + 1, 4, none⟩ = some (.int .i64 kind) ∧ wx.cell? ⟨w.heap.size + 1, 5, none⟩ = some (.int .i64 (p : Int)) ∧ wx.cell? ⟨w.heap.size + 1, 6, none⟩ = some (.slice Ae m ce) ∧ wx.cell? ⟨w.heap.size + 1, 7, none⟩ = some (.int .i64 cep) ∧ wx.cell? ⟨w.heap.size + 1, 8, none⟩ = some (.bool false) ∧ wx.cell? ⟨w.heap.size + 1, 9, none⟩ = some (.bool false))) (by kernel_rfl) (hKeep.out _ hbd) (fun hHeld => ?_)
            refine wpAnyH_take (i := 0) (v := .pointer (some ⟨w.heap.size, 0, none⟩)) rfl (by kernel_rfl) (by kernel_rfl) (by kernel_rfl) (fun _ _ _ h => h) (Or.inl ⟨by kernel_rfl, by (intro w hSw; (try dsimp only at hSw); go_simp)⟩) hHeld ?_
            simp only [Act.put, List.getElem_toArray, List.getElem_cons_succ, List.getElem_cons_zero, List.setIfInBounds_toArray, List.set_cons_zero, List.set_cons_succ]
            refine wpAnyH_take (i := 1) (v := .int .i64 rate) rfl (by kernel_rfl) (by kernel_rfl) (by kernel_rfl) (fun _ _ _ h => h) (Or.inl ⟨by kernel_rfl, by (intro w hSw; (try dsimp only at hSw); go_simp)⟩) hHeld ?_
            simp only [Act.put, List.getElem_toArray, List.getElem_cons_succ, List.getElem_cons_zero, List.setIfInBounds_toArray, List.set_cons_zero, List.set_cons_succ]
            refine wpAnyH_take (i := 2) (v := .pointer (some ⟨w.heap.size, 1, none⟩)) rfl (by kernel_rfl) (by kernel_rfl) (by kernel_rfl) (fun _ _ _ h => h) (Or.inl ⟨by kernel_rfl, by (intro w hSw; (try dsimp only at hSw); go_simp)⟩) hHeld ?_
            simp only [Act.put, List.getElem_toArray, List.getElem_cons_succ, List.getElem_cons_zero, List.setIfInBounds_toArray, List.set_cons_zero, List.set_cons_succ]
            refine wpAnyH_take (i := 3) (v := .slice A n c) rfl (by kernel_rfl) (by kernel_rfl) (by kernel_rfl) (fun _ _ _ h => h) (Or.inl ⟨by kernel_rfl, by (intro w hSw; (try dsimp only at hSw); go_simp)⟩) hHeld ?_
            simp only [Act.put, List.getElem_toArray, List.getElem_cons_succ, List.getElem_cons_zero, List.setIfInBounds_toArray, List.set_cons_zero, List.set_cons_succ]
            refine wpAnyH_take (i := 5) (v := .slice A2 m2 c2) rfl (by kernel_rfl) (by kernel_rfl) (by kernel_rfl) (fun _ _ _ h => h) (Or.inl ⟨by kernel_rfl, by (intro w hSw; (try dsimp only at hSw); go_simp)⟩) hHeld ?_
            simp only [Act.put, List.getElem_toArray, List.getElem_cons_succ, List.getElem_cons_zero, List.setIfInBounds_toArray, List.set_cons_zero, List.set_cons_succ]
            refine wpAnyH_take (i := 8) (v := .agg #[.int .i64 num, .int .i64 den, .int .i64 (sz : Int), .int .i64 (st : Int), .int .i64 kind, .int .i64 (p : Int), .slice Ae m ce, .int .i64 cep, .bool false, .bool false]) rfl (by kernel_rfl) (by kernel_rfl) (by kernel_rfl) (fun _ _ _ h => h) (Or.inl ⟨by kernel_rfl, by (intro w hSw; (try dsimp only at hSw); go_simp)⟩) hHeld ?_
            simp only [Act.put, List.getElem_toArray, List.getElem_cons_succ, List.getElem_cons_zero, List.setIfInBounds_toArray, List.set_cons_zero, List.set_cons_succ]
            refine wpAnyH_ready (rs := [4]) (by kernel_rfl) (by simp) ?_
            refine AllReadyH.cons rfl (fun K hK => ?_) AllReadyH.nil
            refine step_append_any (by rfl) _ _ _ (by rfl) w8.heap.size 3 j0 (.int .i64 0) 1 8 Tryz.underlying28 hj hj0 hj1 hj2 (by rfl) (by decide) (.slice none 0 0) 0 [] (by rfl) (World.ownsRow_nil _ _ _ _) A n c (ivs .i64 xs) (by rfl) hsr1.out (by unfold maxLen; omega) (by omega) (Nat.le_refl _) ?_
            intro va wa howna hga _
            simp only [Nat.zero_add, List.nil_append] at howna
            have hba : Below w8.heap.size w8 wa := hbd.grown hga (Nat.le_refl _) (fun k hk => by cases hk)
            refine hK.out _ _ ?_ (fun hHeld => ?_)
            · exact hKeep.out _ hba
            clear hK K
            try simp only [Act.put, List.getElem_toArray, List.getElem_cons_succ, List.getElem_cons_zero, List.setIfInBounds_toArray, List.set_cons_zero, List.set_cons_succ]
            refine wpAnyH_ready (rs := [6]) (by kernel_rfl) (by simp) ?_
            refine AllReadyH.cons rfl (fun K hK => ?_) AllReadyH.nil
            refine step_append_any (by rfl) _ _ _ (by rfl) w8.heap.size 3 j0 (.int .i64 0) 1 8 Tryz.underlying28 hj hj0 hj1 hj2 (by rfl) (by decide) va n (ivs .i64 xs) (by rfl) howna A2 m2 c2 (ivs .i64 ys) (by rfl) (hsr2.out _ hba) (by unfold maxLen; omega) (by omega) hba.size ?_
            intro vb9 wb hownb hgb _
            have hbb9 : Below w8.heap.size w8 wb := hba.grown hgb hba.size (fun k hk => (howna.lt k hk).1)
            rw [← ivs_app] at hownb
            have hnb9 := fun (A9 : Option Addr) (c9 : Nat) (e : vb9 = .slice A9 (n + m2) c9) => own_nn (A := A9) (c := c9) (e ▸ hownb)
            obtain ⟨Ab, cb, rfl, hSb⟩ := Sl.of_own hownb
            have hnb := Lib.hid (hnb9 Ab cb rfl)
            clear hnb9 hownb hgb hga howna
            have heb := he8.below hbb9
            have hTb : Tab wb := Tab.below hT8 hbb9
            refine hK.out _ _ ?_ (fun hHeld => ?_)
            · exact hKeep.out _ hbb9
            clear hK K
            try simp only [Act.put, List.getElem_toArray, List.getElem_cons_succ, List.getElem_cons_zero, List.setIfInBounds_toArray, List.set_cons_zero, List.set_cons_succ]
            generalize hnm : n + m2 = nm at *
            have hnm := Lib.hid hnm
            refine wpAnyH_take (i := 7) (v := .agg #[.int .i64 rate, .slice Ab nm cb]) rfl (by kernel_rfl) (by kernel_rfl) (by kernel_rfl) (fun _ _ _ h => h) (Or.inl ⟨by kernel_rfl, by (intro w hSw; kernel_rfl)⟩) hHeld ?_
            simp only [Act.put, List.getElem_toArray, List.getElem_cons_succ, List.getElem_cons_zero, List.setIfInBounds_toArray, List.set_cons_zero, List.set_cons_succ]
            refine wpAnyH_ready (rs := [9]) (by kernel_rfl) (by simp) ?_
            refine AllReadyH.cons rfl (fun K hK => ?_) AllReadyH.nil
            go_simp
            refine (hXc.out _ _ _ hSb hnb.out heb hTb).mono ?_
            rintro e wc ⟨A14, c14, rfl, hR14, hqc⟩
            have hbc : Below w8.heap.size w8 wc := hbb9.trans (hqc.mono hbb9.size)
            go_wp2_with fail
            refine hK.out _ _ ?_ (fun hHeld => ?_)
            · exact hKeep.out _ hbc
            clear hK K
            try simp only [Act.put, List.getElem_toArray, List.getElem_cons_succ, List.getElem_cons_zero, List.setIfInBounds_toArray, List.set_cons_zero, List.set_cons_succ]
            refine wpAnyH_take (i := 10) (v := .tuple #[.slice A14 us.length c14, .int .i64 0]) rfl (by kernel_rfl) (by kernel_rfl) (by kernel_rfl) (fun _ _ _ h => h) (Or.inl ⟨by kernel_rfl, by (intro w hSw; (try dsimp only at hSw); go_simp)⟩) hHeld ?_
            simp only [Act.put, List.getElem_toArray, List.getElem_cons_succ, List.getElem_cons_zero, List.setIfInBounds_toArray, List.set_cons_zero, List.set_cons_succ]
            refine wpAnyH_take (i := 11) (v := .slice A14 us.length c14) rfl (by kernel_rfl) (by kernel_rfl) (by kernel_rfl) (fun _ _ _ h => h) (Or.inl ⟨by kernel_rfl, by (intro w hSw; (try dsimp only at hSw); go_simp)⟩) hHeld ?_
            simp only [Act.put, List.getElem_toArray, List.getElem_cons_succ, List.getElem_cons_zero, List.setIfInBounds_toArray, List.set_cons_zero, List.set_cons_succ]
            refine wpAnyH_take (i := 12) (v := .int .i64 0) rfl (by kernel_rfl) (by kernel_rfl) (by kernel_rfl) (fun _ _ _ h => h) (Or.inl ⟨by kernel_rfl, by (intro w hSw; (try dsimp only at hSw); go_simp)⟩) hHeld ?_
            simp only [Act.put, List.getElem_toArray, List.getElem_cons_succ, List.getElem_cons_zero, List.setIfInBounds_toArray, List.set_cons_zero, List.set_cons_succ]
            refine wpAnyH_take (i := 13) (v := .slice A14 us.length c14) rfl (by kernel_rfl) (by kernel_rfl) (by kernel_rfl) (fun _ _ _ h => h) (Or.inl ⟨by kernel_rfl, by (intro w hSw; (try dsimp only at hSw); go_simp)⟩) hHeld ?_
            simp only [Act.put, List.getElem_toArray, List.getElem_cons_succ, List.getElem_cons_zero, List.setIfInBounds_toArray, List.set_cons_zero, List.set_cons_succ]
            refine wpAnyH_take (i := 14) (v := .int .i64 0) rfl (by kernel_rfl) (by kernel_rfl) (by kernel_rfl) (fun _ _ _ h => h) (Or.inl ⟨by kernel_rfl, by (intro w hSw; (try dsimp only at hSw); go_simp)⟩) hHeld ?_
            simp only [Act.put, List.getElem_toArray, List.getElem_cons_succ, List.getElem_cons_zero, List.setIfInBounds_toArray, List.set_cons_zero, List.set_cons_succ]
            refine wpAnyH_done (by kernel_rfl) ?_ _
            have hb0c := hb08.trans (hbc.mono hb08.size)
            have hRc := hR98.below hbc
            have hcapc := hR14.cap
            have htopc := hR14.top
            obtain ⟨L14, hL14⟩ : ∃ L, us.length = L := ⟨_, rfl⟩
            rw [hL14] at hR14 hcapc huN ⊢
            have hL14 := Lib.hid hL14
            have hTk := hR14.take huN
            rw [htake.out] at hTk
            have g1 : decide ((N : Int) ≤ (L14 : Int)) = true := decide_eq_true (by omega)
            have g2 : decide (N ≤ L14) = true := decide_eq_true huN
            have g3 : (0 : Int) ≤ (N : Int) := by omega
            have g4 : (N : Int) ≤ (L14 : Int) := by omega
            have g5 : (N : Int) ≤ (c14 : Int) := by omega
            have hTc : Tab wc := Tab.below hT8 hbc
            clear hKeep hbr hbd hsr1 hsr2 htake hSb hnb hba hbb9 heb hTb
            go_wp2_with fail
            refine (SameL_any _ _ _ _ _ _ _ _ _ hTk hRc).mono ?_
            rintro e w21 ⟨b21, r21, rfl, hi21, hw21⟩
            obtain rfl : b21 = true := hi21.2 rfl
            clear hi21
            have hb21 : Below wc.heap.size wc w21 := by rw [hw21]; exact bel_drewN (Below.refl _ _) r21
            clear hw21
            have hb0d := hb0c.trans (hb21.mono hb0c.size)
            go_wp2_with fail
            refine (kfin.out _ hb0d).mono ?_
            rintro e w22 ⟨rfl, hb22⟩
            have hbz := hb0d.trans (hb22.mono hb0d.size)
            go_wp2
            go_ret
            exact ⟨rfl, hbz⟩
end Go.Proofs.YtoljffghaklpdaaGreatDoor
