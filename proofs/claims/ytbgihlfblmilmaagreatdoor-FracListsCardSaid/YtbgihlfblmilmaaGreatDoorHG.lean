/- The reference's greatest one; the greatest integer that is not greater. -/
import Derived.Test.YtbgihlfblmilmaaGreatDoorHF
namespace Go.Proofs.YtbgihlfblmilmaaGreatDoor.Fr
open Go.RowKit Num

set_option maxHeartbeats 12800000 in
set_option maxRecDepth 100000 in
theorem refBestQ (A : Option Addr) (n c L : Nat) (qs : List Rat) (w : World) (h : Ls AF w A n c L qs) (hL : L ≤ 5000) :
    Calls Tryz.prog 57 #[.slice A n c] w fun e w' => e = .returned (.int .i64 (bst qs n)) ∧ Below w.heap.size w w' := by
  have hc1 := h.cap
  have hc2 := h.top
  have hlen := Lib.hid h.len
  have hw0 := Below.refl w.heap.size w
  go_enter Tryz.func57, Tryz.ntmps57
  go_wp2_with fail
  go_loopw [3, 4] (fun bv iv wr => ∃ k : Nat, iv = .int .i64 k ∧ bv = .int .i64 (bst qs k) ∧ k ≤ n ∧ Below w.heap.size w wr) (fun _ iv _ => n - (intOf iv).toNat)
  case atStart => exact ⟨0, rfl, rfl, Nat.zero_le _, hw0⟩
  case round =>
    clear hw0
    obtain ⟨k, rfl, rfl, hkn, hb⟩ := hrel
    obtain ⟨bb1, bb2⟩ := bst_bound qs k
    by_cases hlt : k < n
    · obtain ⟨ad, s, A1, m1, c1, A2, m2, c2, q, rfl, hqk, k0, k1, k2, hq⟩ := (h.below bels_af hb).af hlt
      have hgd : qs.getD k 0 = q := by rw [List.getD_eq_getElem?_getD, hqk]; rfl
      have hstep := Lib.hid (show bst qs (k + 1) = if bst qs k < 0 ∨ 0 < cq (qs.getD k 0) (qs.getD (bst qs k).toNat 0) then (k : Int) else bst qs k from rfl)
      clear hqk
      go_upto_region 5 with fail
      by_cases hneg : bst qs k < 0
      · have hs := hstep.out
        rw [if_pos (.inl hneg)] at hs
        have hs := Lib.hid hs
        clear hgd
        generalize bst qs k = bb at *
        have hd : decide (bb < 0) = true := decide_eq_true hneg
        go_quiet (fail)
        go_wp2
        go_roundw
        case rel => exact ⟨k + 1, by go_num, congrArg (Value.int .i64) hs.out.symm, hlt, bel_drewN hb nq⟩
        case measure => simp [intOf]; omega
      · obtain ⟨b, hbb⟩ : ∃ b : Nat, bst qs k = b := ⟨(bst qs k).toNat, by omega⟩
        rw [hbb] at hneg bb1 bb2 ⊢
        have hs := hstep.out
        rw [hbb, Int.toNat_natCast] at hs
        have hbk : b < n := by omega
        obtain ⟨ad2, s', A3, m3, c3, A4, m4, c4, q2, hadd, hqb, k3, k4, k5, hq2⟩ := (h.below bels_af hb).af hbk
        have hgd2 : qs.getD b 0 = q2 := by rw [List.getD_eq_getElem?_getD, hqb]; rfl
        injection hadd with hadd
        subst hadd
        rw [hgd, hgd2] at hs
        obtain ⟨cb1, cb2⟩ := cq_bound q q2
        have hd : decide ((b : Int) < 0) = false := decide_eq_false hneg
        have hcall := Lib.hid (refCmpQ _ _ q q2 L L wr.drew (hq.below (Below.refl _ _).drew) (hq2.below (Below.refl _ _).drew) (by omega))
        clear hq hq2 hbb hgd hgd2 hqb
        generalize hcqv : cq q q2 = cv at *
        by_cases hcv : 0 < cv
        · have hs' : bst qs (k + 1) = (k : Int) := by rw [hs, if_pos (.inr hcv)]
          have hs' := Lib.hid hs'
          clear hs hstep hcqv
          have hdc : decide (0 < cv) = true := decide_eq_true hcv
          go_region_with (go_at_call 51; refine hcall.out.mono ?_; rintro e w6 ⟨rfl, hb6⟩)
          all_goals (have hb7 := hb.drew.trans (hb6.mono hb.drew.size))
          all_goals go_wp2
          all_goals go_roundw
          all_goals first
            | (simp [intOf]; omega)
            | exact ⟨k + 1, by go_num, congrArg (Value.int .i64) hs'.out.symm, hlt, hb7⟩
        · have hs' : bst qs (k + 1) = (b : Int) := by rw [hs, if_neg (by intro h; rcases h with h | h; exact hneg h; exact hcv h)]
          have hs' := Lib.hid hs'
          clear hs hstep hcqv
          have hdc : decide (0 < cv) = false := decide_eq_false hcv
          go_region_with (go_at_call 51; refine hcall.out.mono ?_; rintro e w6 ⟨rfl, hb6⟩)
          all_goals (have hb7 := hb.drew.trans (hb6.mono hb.drew.size))
          all_goals go_wp2
          all_goals go_roundw
          all_goals first
            | (simp [intOf]; omega)
            | exact ⟨k + 1, by go_num, congrArg (Value.int .i64) hs'.out.symm, hlt, hb7⟩
    · obtain rfl : k = n := by omega
      go_wp2
      go_ret
      exact ⟨rfl, hb⟩
end Go.Proofs.YtbgihlfblmilmaaGreatDoor.Fr
