/- The inverse transform of the transform: the law's walk. -/
import Derived.Test.YtfgiiidfpbpniaaDoorKB
import Derived.Test.YtfgiiidfpbpniaaDoorHV
namespace Go.Proofs.YtfgiiidfpbpniaaDoor
open Go.RowKit

theorem spans_any (A : Option Addr) (n c : Nat) (xs : List Int) (w : World) (h : Sl .i64 w A n c xs) :
    Calls Tryd.prog 9 #[.slice A n c] w fun e w' => e = .returned (.bool (trOk xs)) ∧ w' = w := by
  have hl := Lib.hid h.len
  have hcap := h.cap
  have htop := h.top
  have hA := All_any A n c xs (-65536) 65536 w h
  have hL := RLength_any n w
  have hv := Lib.hid (show trOk xs = (lenB n && allB (-65536) 65536 xs) by unfold trOk; rw [hl.out])
  cases hb : lenB n with
  | false =>
    rw [hb] at hL hv
    have hL := Lib.hid hL
    clear hb
    go_enter Tryd.func9, Tryd.ntmps9
    go_wp2_with fail
    refine hL.out.mono ?_
    rintro e w1 ⟨rfl, hw1⟩
    rw [hw1]
    clear hw1
    go_wp2
    go_ret
    exact ⟨by rw [hv.out]; rfl, rfl⟩
  | true =>
    rw [hb] at hL hv
    have hL := Lib.hid hL
    have hA := Lib.hid hA
    clear hb
    go_enter Tryd.func9, Tryd.ntmps9
    go_wp2_with fail
    refine hL.out.mono ?_
    rintro e w1 ⟨rfl, hw1⟩
    rw [hw1]
    clear hw1
    go_wp2_with fail
    refine hA.out.mono ?_
    rintro e w1 ⟨rfl, rfl⟩
    go_wp2
    go_ret
    exact ⟨by rw [hv.out]; rfl, rfl⟩

set_option maxHeartbeats 6400000 in
set_option maxRecDepth 100000 in
theorem returns_law (A : Option Addr) (n c : Nat) (xs : List Int) (w : World) (h : Sl .i64 w A n c xs) (hT : Tab w) :
    Calls Tryd.prog 4 #[.slice A n c] w (YesF w) := by
  have hl := Lib.hid h.len
  have hcap := h.cap
  have htop := h.top
  have hS := spans_any A n c xs w h
  cases hk : trOk xs with
  | false =>
    rw [hk] at hS
    have hS := Lib.hid hS
    clear hk
    go_enter Tryd.func4, Tryd.ntmps4
    go_wp2_with fail
    refine hS.out.mono ?_
    rintro e w1 ⟨rfl, hw1⟩
    rw [hw1]
    clear hw1
    go_wp2_with fail
    refine (known_any _ hT).mono ?_
    rintro e w99 ⟨rfl, hb99⟩
    go_wp2
    go_ret
    exact ⟨rfl, hb99⟩
  | true =>
    rw [hk] at hS
    have hS := Lib.hid hS
    have hlen : lenB n = true ∧ allB (-65536) 65536 xs = true := by
      unfold trOk at hk
      rw [hl.out] at hk
      simpa using hk
    have hle := lenB_le hlen.1
    have hn1 := hle.1
    have hn2 := hle.2.1
    have hivk := Lib.hid (show ivOk (trL xs) = true by
      unfold ivOk
      have e1 : (trL xs).length = n := by unfold trL; rw [tab_len, hl.out]
      rw [e1, hlen.1]
      simp only [Bool.true_and]
      unfold allB
      rw [List.all_eq_true]
      intro x hx
      obtain ⟨j, hj, rfl⟩ := List.getElem_of_mem hx
      have e2 := trA_bd2 hk hl.out j
      have e3 : (trL xs).getD j 0 = trA xs n j := by
        unfold trL
        rw [hl.out, tab_getD (by rw [e1] at hj; exact hj)]
      rw [getD_in hj] at e3
      rw [e3]
      simp [okB_iff]
      omega)
    have hkk := Lib.hid hk
    have hlB := Lib.hid hlen.1
    have hall := Lib.hid hlen.2
    clear hk hlen hle
    go_enter Tryd.func4, Tryd.ntmps4
    go_wp2_with fail
    refine hS.out.mono ?_
    rintro e w1 ⟨rfl, hw1⟩
    rw [hw1]
    clear hw1
    go_wp2_with fail
    refine (Transform_any A n c xs w h hT).mono ?_
    intro e w2 hh
    obtain ⟨g2, rfl, hM2, hb2, hg2⟩ := (hh.resolve_right (fun q => by have := q.1; rw [hkk.out] at this; cases this)).2
    clear hh
    have h2 := h.below hb2
    have hT2 := hT.below hb2
    have htl := Lib.hid (show (trL xs).length = n by unfold trL; rw [tab_len, hl.out])
    have hSt := hM2.sl htl.out (by omega)
    go_wp2_with fail
    refine (Inverse_any (some ⟨g2, 0, none⟩) n n (trL xs) w2 hSt hT2).mono ?_
    intro e w3 hh
    obtain ⟨g3, rfl, hM3, hb23, hg3⟩ := (hh.resolve_right (fun q => by have := q.1; rw [hivk.out] at this; cases this)).2
    clear hh
    have hb3 := hb2.trans (hb23.mono hb2.size)
    have h3 := h.below hb3
    have hyl := Lib.hid (show (ivL (trL xs)).length = n by unfold ivL; rw [tab_len, htl.out])
    go_wp2
    go_loopw [7, 8] (fun mv iv wr' => ∃ (i : Nat) (M : Int) (wr : World), wr = wr' ∧ iv = .int .i64 i ∧ mv = .int .i64 M ∧ i ≤ n ∧ 0 ≤ M ∧ M ≤ 65536 ∧ Hid (∀ j, j < i → -M ≤ xs.getD j 0 ∧ xs.getD j 0 ≤ M) ∧ Below w3.heap.size w3 wr) (fun _ iv _ => n - (intOf iv).toNat)
    case atStart => exact ⟨0, 0, _, rfl, rfl, rfl, Nat.zero_le _, by decide, by decide, fun j hj => absurd hj (by omega), Below.refl _ _⟩
    case round =>
      obtain ⟨i, M, wr, rfl, rfl, rfl, hin, hM0, hM1, hd, hbr⟩ := hrel
      rcases Nat.lt_or_ge i n with hlt | hge
      · obtain ⟨ad, x, rfl, hcx, hx⟩ := (h3.below hbr).at_ hlt
        have hxb := allB_get hall.out (by rw [hl.out]; exact hlt) hx.out
        have w1e : IntKind.i64.wrap (-x) = -x := IntWalk.i64_in _ (by omega)
        have i0 : (0 : Int) ≤ (i : Int) := by omega
        have i1 : (i : Int) < (n : Int) := by omega
        obtain ⟨M1, hM1'⟩ : ∃ M1, (if M < x then x else M) = M1 := ⟨_, rfl⟩
        obtain ⟨M2, hM2'⟩ : ∃ M2, (if M1 < -x then -x else M1) = M2 := ⟨_, rfl⟩
        have hb1 : M ≤ M1 ∧ x ≤ M1 ∧ M1 ≤ 65536 := by omega
        have hb2' : M1 ≤ M2 ∧ -x ≤ M2 ∧ M2 ≤ 65536 := by omega
        have hd2 := Lib.hid (show ∀ j, j < i + 1 → -M2 ≤ xs.getD j 0 ∧ xs.getD j 0 ≤ M2 from fun j hj => by
          rcases Nat.lt_or_ge j i with h9 | h9
          · have := hd.out j h9; omega
          · rw [show j = i by omega, hx.out]; omega)
        have hp0 : 0 ≤ M2 := by omega
        have hp1 : M2 ≤ 65536 := by omega
        clear hxb hb1 hb2' hd
        go_wp2
        go_quiet (fail)
        have hbz := bel_drewN hbr nq
        generalize wr.drewN nq = wz at *
        go_wp2
        go_roundw
        case rel => exact ⟨i + 1, M2, _, rfl, by go_num, rfl, hlt, hp0, hp1, hd2.out, hbz⟩
        case measure => simp [intOf]; omega
      · have hin' : n = i := by omega
        subst hin'
        have hmath := Lib.hid (fun j (hj : j < n) => iv_back hlB.out hl.out hj hd.out)
        obtain ⟨K, hK⟩ : ∃ K, (n : Int) * M = K := ⟨_, rfl⟩
        have hK2 : 2 * (n : Int) * M = 2 * K := by rw [Int.mul_assoc, hK]
        have hKb : 0 ≤ K ∧ K ≤ 64 * 65536 := by
          rw [← hK]
          refine ⟨Int.mul_nonneg (by omega) hM0, ?_⟩
          have e1 : (n : Int) * M ≤ (n : Int) * 65536 := Int.mul_le_mul_of_nonneg_left hM1 (by omega)
          omega
        have hKb1 := hKb.1
        have hKb2 := hKb.2
        have hMy := hM3.below hbr
        have hx3 := h3.below hbr
        have hyb := Lib.hid (fun j (hj : j < n) => show -4611686018427387904 ≤ (ivL (trL xs)).getD j 0 ∧ (ivL (trL xs)).getD j 0 ≤ 4611686018427387904 by
          have e1 := hmath.out j hj
          rw [hK] at e1
          have e2 := hd.out j hj
          omega)
        have hK := Lib.hid hK
        clear hKb
        go_wp2
        go_loopw [9] (fun iv wx' => ∃ (i : Nat) (wx : World), wx = wx' ∧ iv = .int .i64 i ∧ i ≤ n ∧ Below wr.heap.size wr wx) (fun iv _ => n - (intOf iv).toNat)
        case atStart => exact ⟨0, _, rfl, rfl, Nat.zero_le _, Below.refl _ _⟩
        case round =>
          obtain ⟨i, wx, rfl, rfl, hin, hbx⟩ := hrel
          rcases Nat.lt_or_ge i n with hlt | hge
          · obtain ⟨ad, x, rfl, hcx, hx⟩ := (hx3.below hbx).at_ hlt
            have hcy := (hMy.below hbx).cell (i := i) (by rw [hyl.out]; exact hlt)
            have hb9 := hmath.out i hlt
            have hb8 := hyb.out i hlt
            rw [hx.out, hK.out] at hb9
            generalize (ivL (trL xs)).getD i 0 = y at *
            have hxb := allB_get hall.out (by rw [hl.out]; exact hlt) hx.out
            obtain ⟨d, hd'⟩ : ∃ d, x - y = d := ⟨_, rfl⟩
            rw [hd'] at hb9
            have hdb : -1000 - K ≤ d ∧ d ≤ 1000 + K := by omega
            have w1e : IntKind.i64.wrap (x - y) = d := by rw [IntWalk.i64_in _ (by omega)]; exact hd'
            obtain ⟨Q, hQ⟩ : ∃ Q, (if d < -d then -d else d) = Q := ⟨_, rfl⟩
            have hQb : 16384 * (Q - 1) ≤ 2 * K ∧ 0 ≤ Q ∧ Q ≤ 1000 + K := by omega
            have w2e : IntKind.i64.wrap (-d) = -d := IntWalk.i64_in _ (by omega)
            have w3e : IntKind.i64.wrap (Q - 1) = Q - 1 := IntWalk.i64_in _ (by omega)
            have w4e : IntKind.i64.wrap (16384 * (Q - 1)) = 16384 * (Q - 1) := IntWalk.i64_in _ (by omega)
            have w5e : IntKind.i64.wrap (2 * (n : Int)) = 2 * (n : Int) := IntWalk.i64_in _ (by omega)
            have w6e : IntKind.i64.wrap (2 * (n : Int) * M) = 2 * K := by rw [hK2]; exact IntWalk.i64_in _ (by omega)
            have hno : ¬ 2 * K < 16384 * (Q - 1) := by omega
            have hno2 : decide (2 * K < 16384 * (Q - 1)) = false := decide_eq_false hno
            have i0 : (0 : Int) ≤ (i : Int) := by omega
            have i1 : (i : Int) < (n : Int) := by omega
            have hd' := Lib.hid hd'
            clear hb9 hb8 hxb hdb hQb hK2
            go_wp2
            go_quiet (fail)
            have hbz := bel_drewN hbx nq
            generalize wx.drewN nq = wz at *
            go_wp2
            go_roundw
            case rel => exact ⟨i + 1, _, rfl, by go_num, hlt, hbz⟩
            case measure => simp [intOf]; omega
          · have hin' : n = i := by omega
            subst hin'
            have hbe := hb3.trans ((hbr.trans (hbx.mono hbr.size)).mono hb3.size)
            have hTe := hT.below hbe
            go_wp2_with fail
            refine (known_any _ hTe).mono ?_
            rintro e w99 ⟨rfl, hb99⟩
            go_wp2
            go_ret
            exact ⟨rfl, hbe.trans (hb99.mono hbe.size)⟩
end Go.Proofs.YtfgiiidfpbpniaaDoor
