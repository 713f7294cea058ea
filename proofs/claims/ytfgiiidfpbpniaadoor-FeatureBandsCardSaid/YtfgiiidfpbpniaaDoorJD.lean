/- Bands of spectra: the law's walk. -/
import Derived.Test.YtfgiiidfpbpniaaDoorJC
namespace Go.Proofs.YtfgiiidfpbpniaaDoor
open Go.RowKit

theorem bn_sum {ss es : List Int} (k : Nat) : sm k (bnF ss es) = sq ss (es.getD k 0).toNat - sq ss (es.getD 0 0).toNat := by
  induction k with
  | zero => show 0 = _; omega
  | succ k ih => show sm k (bnF ss es) + bnF ss es k = _; rw [ih]; unfold bnF; omega
theorem bn_two {ss : List Int} {a d : Nat} (had : a < d) (hd : d ≤ ss.length) (h1 : ss.length ≤ 64) (h2 : allB (-16777216) 16777216 ss = true) : BnP ss [(a : Int), (d : Int)] :=
  ⟨h1, h2, Nat.le_refl _, fun i hi => by
    rcases i with _ | _ | i
    · show 0 ≤ (a : Int) ∧ (a : Int) ≤ _; omega
    · show 0 ≤ (d : Int) ∧ (d : Int) ≤ _; omega
    · exact absurd hi (by show ¬ i + 1 + 1 < 2; omega), fun i hi => by
    rcases i with _ | i
    · show (a : Int) < (d : Int); omega
    · exact absurd hi (by show ¬ i + 1 + 1 < 2; omega)⟩

set_option maxHeartbeats 6400000 in
set_option maxRecDepth 100000 in
theorem bands_law (A : Option Addr) (n c : Nat) (ss : List Int) (A' : Option Addr) (m c' : Nat) (es : List Int) (w : World) (h : Sl .i64 w A n c ss) (h' : Sl .i64 w A' m c' es) (hT : Tab w) :
    Calls Tryd.prog 5 #[.slice A n c, .slice A' m c'] w (YesF w) := by
  have hl := Lib.hid h.len
  have hl' := Lib.hid h'.len
  have hcap := h.cap
  have htop := h.top
  have hcap' := h'.cap
  have htop' := h'.top
  rcases Nat.lt_or_ge 70 n with hn70 | hn70
  · go_enter Tryd.func5, Tryd.ntmps5
    go_wp2_with fail
    refine (known_any _ hT).mono ?_
    rintro e w99 ⟨rfl, hb99⟩
    go_wp2
    go_ret
    exact ⟨rfl, hb99⟩
  rcases Nat.lt_or_ge 70 m with hm70 | hm70
  · go_enter Tryd.func5, Tryd.ntmps5
    go_wp2_with fail
    refine (known_any _ hT).mono ?_
    rintro e w99 ⟨rfl, hb99⟩
    go_wp2
    go_ret
    exact ⟨rfl, hb99⟩
  by_cases hP : BnP ss es
  · have hn := hP.1
    have hss := Lib.hid hP.2.1
    have hE := hP.2.2
    have hm2 := hE.1
    rw [hl.out] at hn hE
    rw [hl'.out] at hm2
    have hE1 := Lib.hid (fun i (hi : i < m) => hE.2.1 i (by rw [hl'.out]; exact hi))
    have hE2 := Lib.hid (fun i (hi : i + 1 < m) => hE.2.2 i (by rw [hl'.out]; exact hi))
    have hEb := Lib.hid hE
    have hPb := Lib.hid hP
    have hlast : ∀ k, 0 < k → k < m → es.getD 0 0 < es.getD k 0 := by
      intro k
      induction k with
      | zero => intro h9; omega
      | succ k ih =>
        intro _ h9
        have e1 := hE2.out k h9
        rcases Nat.eq_zero_or_pos k with e | e
        · subst e; exact e1
        · have := ih e (by omega); omega
    have hmono : ∀ k, k < m → es.getD 0 0 ≤ es.getD k 0 := by
      intro k h9
      rcases Nat.eq_zero_or_pos k with e | e
      · subst e; exact Int.le_refl _
      · have := hlast k e h9; omega
    have hmono := Lib.hid hmono
    obtain ⟨q, hq⟩ : ∃ q, m - 1 = q := ⟨_, rfl⟩
    have hq1 : q < m := by omega
    have hq2 : q ≤ 70 := by omega
    have x1 := hE1.out 0 (by omega)
    have x2 := hE1.out q (by omega)
    have x3 := hlast q (by omega) (by omega)
    obtain ⟨a, ha⟩ : ∃ a : Nat, es.getD 0 0 = a := ⟨(es.getD 0 0).toNat, by omega⟩
    obtain ⟨d, hd⟩ : ∃ d : Nat, es.getD q 0 = d := ⟨(es.getD q 0).toNat, by omega⟩
    rw [ha] at x1 x3
    rw [hd] at x2 x3
    have had : a < d := by omega
    have hdn : d ≤ n := by omega
    have hP2 := Lib.hid (bn_two had (by rw [hl.out]; exact hdn) (by rw [hl.out]; exact hn) hss.out)
    obtain ⟨T, hTt⟩ : ∃ T, sq ss d - sq ss a = T := ⟨_, rfl⟩
    have hone := Lib.hid (show bnL ss [(a : Int), (d : Int)] = [T] from by
      show tab 1 (bnF ss [(a : Int), (d : Int)]) = [T]
      show [sq ss (Int.toNat (d : Int)) - sq ss (Int.toNat (a : Int))] = [T]
      rw [Int.toNat_natCast, Int.toNat_natCast, hTt])
    have hsum := Lib.hid (show sm q (bnF ss es) = T by rw [bn_sum, ha, hd, Int.toNat_natCast, Int.toNat_natCast, hTt])
    have hbd := Lib.hid (fun k (hk : k < m) => show 0 ≤ sm k (bnF ss es) ∧ sm k (bnF ss es) ≤ 18014398509481984 by
      rw [bn_sum]
      have y1 := hE1.out k hk
      have y2 := sq_bd2 hss.out (es.getD k 0).toNat
      have y3 := sq_bd2 hss.out (es.getD 0 0).toNat
      have y4 := sq_mono hss.out (a := (es.getD 0 0).toNat) (b := (es.getD k 0).toNat) (by have := hmono.out k hk; omega)
      have y5 : (es.getD k 0).toNat ≤ 64 := by omega
      omega)
    have hqq := Lib.hid hq
    have w1e : IntKind.i64.wrap ((m : Int) - 1) = (q : Int) := by rw [IntWalk.i64_in _ (by omega)]; omega
    have hTt := Lib.hid hTt
    have hA := All_any A n c ss (-16777216) 16777216
    rw [hss.out] at hA
    have hA := Lib.hid hA
    obtain ⟨ad', x9, rfl, _, _⟩ := h'.at_ (show 0 < m by omega)
    have hbl := Lib.hid (show (bnL ss es).length = q by unfold bnL; rw [tab_len, hl'.out, hq])
    have hbat := Lib.hid (fun k (hk : k < q) => show (bnL ss es).getD k 0 = bnF ss es k by unfold bnL; rw [hl'.out, hq]; exact tab_getD hk)
    have hBo := Bands_ok A (some ad') n c m c' ss es w h h' (by omega) hPb.out
    rw [hq] at hBo
    have hBo := Lib.hid hBo
    have hRB := Lib.hid (fun w9 h9 h9' => by have e9 := RBands_any A (some ad') n c m c' ss es w9 h9 h9' (by omega) hPb.out; rw [hq] at e9; exact e9)
    clear hP hE hq x1 x2 x3 hlast
    go_enter Tryd.func5, Tryd.ntmps5
    go_wp2_with fail
    refine hBo.out.mono ?_
    rintro e w2 ⟨g2, rfl, hM2, hb2, hg2⟩
    have h2 := h.below hb2
    have h2' := h'.below hb2
    go_wp2_with fail
    refine (hA.out w2 h2).mono ?_
    rintro e w3 ⟨rfl, rfl⟩
    go_wp2_with fail
    refine (REdges_any (some ad') m c' es n w2 h2').mono ?_
    rintro e w4 ⟨b, r4, rfl, hb, hw4⟩
    have hbt : b = true := hb.2 hEb.out
    subst hbt
    clear hb
    have hb24 : Below w2.heap.size w2 w4 := by rw [hw4]; exact bel_drewN (Below.refl _ _) r4
    clear hw4
    have hb4 := hb2.trans (hb24.mono hb2.size)
    have h4 := h.below hb4
    have h4' := h'.below hb4
    have hM4 := hM2.below hb24
    go_wp2_with fail
    refine (hRB.out w4 h4 h4').mono ?_
    rintro e w5 ⟨A5, c5, rfl, hS5, hb45⟩
    have hb5 := hb4.trans (hb45.mono hb4.size)
    have hSb5 := (hM4.below hb45).sl hbl.out (by omega)
    go_wp2_with fail
    refine (Same_bel _ _ _ _ _ _ _ _ hSb5 hS5).mono ?_
    rintro e w6 ⟨rfl, hb56⟩
    have hb6 := hb5.trans (hb56.mono hb5.size)
    have hKeep := Lib.hid (fun (wx : World) (hb : Below w.heap.size w wx) => show wx.cell? ad' = some (.int .i64 (a : Int)) ∧ wx.cell? (ad'.add q) = some (.int .i64 (d : Int)) from ⟨by
        have e9 := (h'.below hb).cellAt (j := 0) (by omega) ha
        rw [show ad'.add 0 = ad' from by unfold Addr.add; simp] at e9
        exact e9, (h'.below hb).cellAt (by have := hqq.out; omega) hd⟩)
    have hb6d : Below w.heap.size w w6.drew := bel_drewN hb6 1
    have hb7 : Below w.heap.size w (w6.drew.alloc (.cells #[.int .i64 (a : Int), .int .i64 (d : Int)] 3)) := hb6d.alloc hb6d.size _
    have hlit : Sl .i64 (w6.drew.alloc (.cells #[.int .i64 (a : Int), .int .i64 (d : Int)] 3)) (some ⟨w6.heap.size, 0, none⟩) 2 2 [(a : Int), (d : Int)] := (Mk.new w6.drew 3 .i64 [(a : Int), (d : Int)]).sl rfl (by decide)
    have h7 := h.below hb7
    have hB7 := Lib.hid (Bands_ok A (some ⟨w6.heap.size, 0, none⟩) n c 2 2 ss [(a : Int), (d : Int)] _ h7 hlit (by decide) hP2.out)
    have hb67 : Below w6.heap.size w6 (w6.drew.alloc (.cells #[.int .i64 (a : Int), .int .i64 (d : Int)] 3)) := (bel_drewN (Below.refl w6.heap.size w6) 1).alloc (Nat.le_refl _) _
    have hm0 : 0 < m := by omega
    have i2 : (0 : Int) ≤ (q : Int) := by omega
    have i3 : (q : Int) < (m : Int) := by have := hqq.out; omega
    have ha := Lib.hid ha
    have hd := Lib.hid hd
    clear hlit h7
    go_wp2
    go_region_held3 (fun wx => wx.cell? ad' = some (.int .i64 (a : Int)) ∧ wx.cell? (ad'.add q) = some (.int .i64 (d : Int))) (first | exact hKeep.out _ hb6 | exact hKeep.out _ hb6d | exact hKeep.out _ hb7 | exact hKeep.out _ hb8 | go_keep)
      (first | (go_at_call 14; refine hB7.out.mono ?_; rintro e w8 ⟨g8, rfl, hM8, hb78, hg8⟩; have hb8 := hb7.trans (hb78.mono hb7.size)))
    have hMb8 := (((hM4.below hb45).below hb56).below hb67).below hb78
    rw [hone.out] at hM8
    have hc8 := hM8.cell (i := 0) (show 0 < [T].length from Nat.zero_lt_one)
    have hT8 := hT.below hb8
    clear i2 i3 w1e
    go_wp2
    go_loop [9, 10] (fun sv kv => ∃ k : Nat, kv = .int .i64 k ∧ sv = .int .i64 (sm k (bnF ss es)) ∧ k ≤ q) (fun _ kv => q - (intOf kv).toNat)
    case atStart => exact ⟨0, rfl, rfl, Nat.zero_le _⟩
    case round =>
      obtain ⟨k, rfl, rfl, hkq⟩ := hrel
      rcases Nat.lt_or_ge k q with hlt | hge
      · have hck := hMb8.cell (i := k) (by rw [hbl.out]; exact hlt)
        rw [hbat.out k hlt] at hck
        have s1 := hbd.out k (by omega)
        have s2 := hbd.out (k + 1) (by have := hqq.out; omega)
        have hstep : sm (k + 1) (bnF ss es) = sm k (bnF ss es) + bnF ss es k := rfl
        rw [hstep] at s2
        have hstep := Lib.hid hstep
        generalize sm k (bnF ss es) = S at *
        generalize bnF ss es k = y at *
        have w2e : IntKind.i64.wrap (S + y) = S + y := IntWalk.i64_in _ (by omega)
        have i0 : (0 : Int) ≤ (k : Int) := by omega
        have i1 : (k : Int) < (q : Int) := by omega
        clear s1 s2
        go_wp2
        go_round
        case rel => exact ⟨k + 1, by go_num, by rw [hstep.out], hlt⟩
        case measure => simp [intOf]; omega
      · have hkq' : q = k := by omega
        subst hkq'
        rw [hsum.out]
        go_wp2_with fail
        refine (known_any _ hT8).mono ?_
        rintro e w99 ⟨rfl, hb99⟩
        go_wp2
        go_ret
        exact ⟨rfl, hb8.trans (hb99.mono hb8.size)⟩
  · rcases Nat.lt_or_ge 64 n with hn | hn
    · have hP := Lib.hid hP
      go_enter Tryd.func5, Tryd.ntmps5
      go_wp2_with fail
      refine (Bands_bad A A' n c m c' ss es w h h' hP.out).mono ?_
      rintro e w2 ⟨rfl, hb2⟩
      have h2 := h.below hb2
      have h2' := h'.below hb2
      have hT2 := hT.below hb2
      go_wp2_with fail
      refine (known_any _ hT2).mono ?_
      rintro e w99 ⟨rfl, hb99⟩
      go_wp2
      go_ret
      exact ⟨rfl, hb2.trans (hb99.mono hb2.size)⟩
    cases hb : allB (-16777216) 16777216 ss with
    | false =>
      have hP := Lib.hid hP
      have hA := All_any A n c ss (-16777216) 16777216
      rw [hb] at hA
      have hA := Lib.hid hA
      clear hb
      go_enter Tryd.func5, Tryd.ntmps5
      go_wp2_with fail
      refine (Bands_bad A A' n c m c' ss es w h h' hP.out).mono ?_
      rintro e w2 ⟨rfl, hb2⟩
      have h2 := h.below hb2
      have h2' := h'.below hb2
      have hT2 := hT.below hb2
      go_wp2_with fail
      refine (hA.out w2 h2).mono ?_
      rintro e w3 ⟨rfl, rfl⟩
      go_wp2_with fail
      refine (known_any _ hT2).mono ?_
      rintro e w99 ⟨rfl, hb99⟩
      go_wp2
      go_ret
      exact ⟨rfl, hb2.trans (hb99.mono hb2.size)⟩
    | true =>
      have hE := Lib.hid (show ¬ EdP es n from fun hE => hP ⟨by rw [hl.out]; exact hn, hb, by rw [hl.out]; exact hE⟩)
      have hP := Lib.hid hP
      have hA := All_any A n c ss (-16777216) 16777216
      rw [hb] at hA
      have hA := Lib.hid hA
      clear hb
      go_enter Tryd.func5, Tryd.ntmps5
      go_wp2_with fail
      refine (Bands_bad A A' n c m c' ss es w h h' hP.out).mono ?_
      rintro e w2 ⟨rfl, hb2⟩
      have h2 := h.below hb2
      have h2' := h'.below hb2
      have hT2 := hT.below hb2
      go_wp2_with fail
      refine (hA.out w2 h2).mono ?_
      rintro e w3 ⟨rfl, rfl⟩
      go_wp2_with fail
      refine (REdges_any A' m c' es n w2 h2').mono ?_
      rintro e w4 ⟨b, r4, rfl, hb, hw4⟩
      have hbt : b = false := by
        cases b
        · rfl
        · exact absurd (hb.1 rfl) hE.out
      subst hbt
      clear hb
      have hb4 : Below w.heap.size w w4 := by rw [hw4]; exact bel_drewN hb2 r4
      clear hw4
      have hT4 := hT.below hb4
      go_wp2_with fail
      refine (known_any _ hT4).mono ?_
      rintro e w99 ⟨rfl, hb99⟩
      go_wp2
      go_ret
      exact ⟨rfl, hb4.trans (hb99.mono hb4.size)⟩
end Go.Proofs.YtfgiiidfpbpniaaDoor
