/- The document's spectrum, slack and inverse. -/
import Derived.Test.YtjpdgnbdbpgnmaaDoorHB
namespace Go.Proofs.YtjpdgnbdbpgnmaaDoor
open Go.RowKit

set_option maxHeartbeats 800000 in
theorem RSpectrum_any (A : Option Addr) (n c : Nat) (xs : List Int) (w : World) (h : Sl .i64 w A n c xs) (hT : Tab w) (hk : trOk xs = true) :
    Calls Tryd.prog 28 #[.slice A n c] w fun e w' => ∃ g, e = .returned (.slice (some ⟨g, 0, none⟩) n n) ∧ Mk w' g 3 .i64 (spL xs) ∧ Below w.heap.size w w' ∧ w.heap.size ≤ g := by
  have hl := Lib.hid h.len
  have hbd := Lib.hid (fun k => trA_bd2 hk hl.out k)
  have hn3 : n ≤ 64 := by
    have hk2 := hk
    unfold trOk at hk2
    simp only [Bool.and_eq_true] at hk2
    have := lenB_le hk2.1
    rw [hl.out] at this
    omega
  have hR := Lib.hid (show spL xs = tab n fun k => rnd (trA xs n k) 16384 by unfold spL; rw [hl.out])
  have hk := Lib.hid hk
  have hmk := make_int n (by omega)
  go_enter Tryd.func28, Tryd.ntmps28
  go_wp2_with fail
  refine (RTransform_any _ _ _ _ _ h hT hk.out).mono ?_
  rintro e w1 ⟨g1, rfl, hM, hb, hg⟩
  have hM : Mk w1 g1 3 .i64 (tab n (trA xs n)) := by
    have e0 : trL xs = tab n (trA xs n) := by unfold trL; rw [hl.out]
    rw [e0] at hM
    exact hM
  go_wp2
  clear hmk
  go_loopw [5] (fun iv wr => ∃ k : Nat, iv = .int .i64 k ∧ k ≤ n ∧ Fill w1 wr w1.heap.size 3 n k fun k => rnd (trA xs n k) 16384) (fun iv _ => n - (intOf iv).toNat)
  case atStart => exact ⟨0, rfl, Nat.zero_le _, Fill.start (Below.refl _ _) rfl⟩
  case round =>
    obtain ⟨k, rfl, hkn, hF⟩ := hrel
    rcases Nat.lt_or_ge k n with hlt | hge
    · have hMr := hM.below hF.bel
      have hc := hMr.cell (i := k) (by rw [tab_len]; exact hlt)
      rw [tab_getD hlt] at hc
      obtain ⟨y, hcy⟩ := hF.cell hlt
      have hcf := hF.frozen k
      have hF2 := Lib.hid (hF.next hlt (v := rnd (trA xs n k) 16384) rfl)
      have hb3 := hbd.out k
      generalize trA xs n k = v at *
      go_wp2_with (go_at_call 66; refine (Round_any _ _ _ (by omega) (by omega) (by decide) (by decide)).mono ?_; rintro e w' ⟨rfl, rfl⟩)
      go_roundw
      case rel => exact ⟨k + 1, by go_num, hlt, hF2.out⟩
      case measure => simp [intOf]; omega
    · have hkn' : k = n := by omega
      subst hkn'
      have hD := hF.whole
      have hbb := hb.trans (hF.bel.mono hb.size)
      have hgg : w.heap.size ≤ w1.heap.size := hb.size
      go_wp2
      go_ret
      exact ⟨_, rfl, by rw [hR.out]; exact hD, hbb, hgg⟩

set_option maxHeartbeats 800000 in
theorem RSlack_any (A : Option Addr) (n c : Nat) (xs : List Int) (w : World) (h : Sl .i64 w A n c xs) (hn : n ≤ 64) (hA : allB (-65536) 65536 xs = true) :
    Calls Tryd.prog 24 #[.slice A n c] w fun e w' => e = .returned (.int .i64 (slN xs)) ∧ ∃ k, w' = w.drewN k := by
  have hl := Lib.hid h.len
  have hcap := h.cap
  have htop := h.top
  have hbd := Lib.hid (fun k (hk : k ≤ n) => slS_bd (k := k) hA (by rw [hl.out]; exact hk) (by rw [hl.out]; exact hn))
  have hN := Lib.hid (show slN xs = (sm n (fun i => max (xs.getD i 0) (-xs.getD i 0)) + 1) / 2 by unfold slN slS; rw [hl.out])
  have hA := Lib.hid hA
  go_enter Tryd.func24, Tryd.ntmps24
  go_wp2
  go_loopw [3, 4] (fun sv iv wr => ∃ k r : Nat, iv = .int .i64 k ∧ k ≤ n ∧ sv = .int .i64 (sm k fun i => max (xs.getD i 0) (-xs.getD i 0)) ∧ wr = w.drewN r) (fun _ iv _ => n - (intOf iv).toNat)
  case atStart => exact ⟨0, 0, rfl, Nat.zero_le _, rfl, rfl⟩
  case round =>
    obtain ⟨k, r, rfl, hkn, rfl, rfl⟩ := hrel
    have hr := h.drewN r
    generalize hw : w.drewN r = w1 at *
    have hw := Lib.hid hw
    have hb := hbd.out k hkn
    have hb1 := hb.1
    have hb2 := hb.2
    clear hb
    rcases Nat.lt_or_ge k n with hlt | hge
    · obtain ⟨ad, x, rfl, hc, hx⟩ := hr.at_ hlt
      have hxb := allB_get hA.out (by rw [hl.out]; exact hlt) hx.out
      have hs := Lib.hid (show sm (k + 1) (fun i => max (xs.getD i 0) (-xs.getD i 0)) = sm k (fun i => max (xs.getD i 0) (-xs.getD i 0)) + max x (-x) by show sm k _ + max (xs.getD k 0) (-xs.getD k 0) = _; rw [hx.out])
      generalize sm k (fun i => max (xs.getD i 0) (-xs.getD i 0)) = S at *
      obtain ⟨m, hmm⟩ : ∃ m, max x (-x) = m := ⟨_, rfl⟩
      have hm0 : 0 ≤ m ∧ m ≤ 65536 := by omega
      have hs' := Lib.hid (show sm (k + 1) (fun i => max (xs.getD i 0) (-xs.getD i 0)) = S + m by rw [hs.out, hmm])
      have hmx := Lib.hid (show (if x < -x then -x else x) = m by split <;> omega)
      have e1 : IntKind.i64.wrap (-x) = -x := IntWalk.i64_in _ (by omega)
      have e2 : IntKind.i64.wrap (S + m) = S + m := IntWalk.i64_in _ (by omega)
      have i0 : (0 : Int) ≤ (k : Int) := by omega
      have i1 : (k : Int) < (n : Int) := by omega
      have e2' := Lib.hid (show wrap64 (S + m) = S + m by unfold wrap64; omega)
      clear hxb hs hm0
      go_wp2
      go_quiet (fail)
      go_wp2
      go_roundw
      case rel => exact ⟨k + 1, r + nq, by go_num, hlt, by rw [hs'.out, hmx.out]; exact congrArg _ e2'.out, by rw [← hw.out]; exact dr_add w r nq⟩
      case measure => simp [intOf]; omega
    · have hkn : k = n := by omega
      subst hkn
      have hfin := Lib.hid (show slN xs = (sm k (fun i => max (xs.getD i 0) (-xs.getD i 0)) + 1) / 2 from hN.out)
      clear hN hbd
      generalize sm k (fun i => max (xs.getD i 0) (-xs.getD i 0)) = S at *
      go_wp2
      go_ret
      exact ⟨ret_int hfin.out.symm, r, hw.out.symm⟩

set_option maxHeartbeats 1600000 in
set_option maxRecDepth 100000 in
theorem RInverse_any (A : Option Addr) (n c : Nat) (ts : List Int) (w : World) (h : Sl .i64 w A n c ts) (hT : Tab w) (hk : ivOk ts = true) :
    Calls Tryd.prog 30 #[.slice A n c] w fun e w' => ∃ g, e = .returned (.slice (some ⟨g, 0, none⟩) n n) ∧ Mk w' g 3 .i64 (ivL ts) ∧ Below w.heap.size w w' ∧ w.heap.size ≤ g := by
  have hl := Lib.hid h.len
  have hcap := h.cap
  have htop := h.top
  have hkk : lenB n = true ∧ allB (-1099511627776) 1099511627776 ts = true := by
    unfold ivOk at hk
    simp only [Bool.and_eq_true] at hk
    rw [hl.out] at hk
    exact hk
  obtain ⟨hn1, hn2, _⟩ := lenB_le hkk.1
  have hA := hkk.2
  clear hk hkk
  have hR := Lib.hid (show ivL ts = tab n (ivA ts n) by unfold ivL; rw [hl.out])
  have hbd := Lib.hid (fun i k (hi : k ≤ n) => ivS_bd (i := i) hA hl.out hn2 hi)
  have hA := Lib.hid hA
  have hmk := make_int n (by omega)
  go_enter Tryd.func30, Tryd.ntmps30
  go_wp2
  clear hmk
  go_loopw [5] (fun iv wr => ∃ k : Nat, iv = .int .i64 k ∧ k ≤ n ∧ Fill w wr w.heap.size 3 n k (ivA ts n)) (fun iv _ => n - (intOf iv).toNat)
  case atStart => exact ⟨0, rfl, Nat.zero_le _, Fill.start (Below.refl _ _) rfl⟩
  case round =>
    obtain ⟨i, rfl, hin, hF⟩ := hrel
    rcases Nat.lt_or_ge i n with hlt | hge
    · have hr := h.below hF.bel
      have hTr := hT.below hF.bel
      obtain ⟨ad, t0, rfl, hc0, ht0⟩ := hr.at_ (j := 0) (by omega)
      have hb0 := allB_get hA.out (by rw [hl.out]; omega) ht0.out
      have hb01 := hb0.1
      have hb02 := hb0.2
      clear hb0
      have hst := Lib.hid (show sm 1 (ivF ts n i) = 16384 * t0 by show 0 + ivF ts n i 0 = _; rw [Int.zero_add]; unfold ivF; rw [if_pos rfl, ht0.out])
      have hc0' := hc0
      rw [show ad.add 0 = ad from by unfold Addr.add; simp] at hc0'
      go_wp2
      go_loopw [6, 7] (fun sv kv w2 => ∃ k r : Nat, kv = .int .i64 k ∧ sv = .int .i64 (sm k (ivF ts n i)) ∧ 1 ≤ k ∧ k ≤ n ∧ Fill w w2 w.heap.size 3 n i (ivA ts n)) (fun _ kv _ => n - (intOf kv).toNat)
      case atStart => exact ⟨1, 0, rfl, by rw [hst.out], Nat.le_refl _, hn1, hF⟩
      case round =>
        obtain ⟨k, r, rfl, rfl, hk1, hkn, hG⟩ := hrel
        have hb1 := hbd.out i k hkn
        rcases Nat.lt_or_ge k n with hkl | hkg
        · have hr2 := h.below hG.bel
          have hT2 := hT.below hG.bel
          obtain ⟨ad2, x, e2, hcx, hx⟩ := hr2.at_ hkl
          injection e2 with e2
          subst e2
          have hxb := allB_get hA.out (by rw [hl.out]; exact hkl) hx.out
          have hcb := cs_bd ((2 * i + 1) * k * (64 / n))
          have hstep := Lib.hid (show sm (k + 1) (ivF ts n i) = sm k (ivF ts n i) + 2 * x * cs ((2 * i + 1) * k * (64 / n)) by show sm k (ivF ts n i) + ivF ts n i k = _; unfold ivF; rw [if_neg (by omega), hx.out])
          have hb4 := hbd.out i (k + 1) hkl
          rw [hstep.out] at hb4
          obtain ⟨qq, P, M, hq, hP, hM, hq2, hP2, hM2, hcsM⟩ := turn_letters i k n (by omega) (by omega)
          rw [hcsM.out] at hstep hcb hb4
          have hturn := Lib.hid (fun w9 (h9 : Tab w9) => show Calls Tryd.prog 18 #[.int .i64 (M : Int)] w9 (fun e w' => e = .returned (.int .i64 (cs M)) ∧ w' = w9) from (RC_any M w9 h9 (by omega)).mono fun e w' h9 => ⟨h9.1, h9.2.symm⟩)
          generalize cs M = cc at *
          have e4 : IntKind.i64.wrap (2 * (i : Int)) = 2 * (i : Int) := IntWalk.i64_in _ (by omega)
          have e5 : IntKind.i64.wrap (2 * (i : Int) + 1) = 2 * (i : Int) + 1 := IntWalk.i64_in _ (by omega)
          have e8 : IntKind.i64.wrap (P : Int) = (P : Int) := IntWalk.i64_in _ (by omega)
          have e9 : IntKind.i64.wrap (qq : Int) = (qq : Int) := IntWalk.i64_in _ (by omega)
          have e10 : IntKind.i64.wrap (M : Int) = (M : Int) := IntWalk.i64_in _ (by omega)
          have hn0 : ¬ (n : Int) = 0 := by omega
          have hn0' : ¬ n = 0 := by omega
          have hpb := prod_bd (a := 2 * x) (m := 2199023255552) (q := 16384) (by omega) (by omega) hcb.1 hcb.2
          obtain ⟨p, hp⟩ : ∃ p, 2 * x * cc = p := ⟨_, rfl⟩
          rw [hp] at hpb hb4
          have e0 : IntKind.i64.wrap (2 * x) = 2 * x := IntWalk.i64_in _ (by omega)
          have e1 : IntKind.i64.wrap (2 * x * cc) = p := by rw [hp]; exact IntWalk.i64_in _ (by omega)
          generalize hS0 : sm k (ivF ts n i) = S at *
          clear hS0
          have e3 : IntKind.i64.wrap (S + p) = S + p := IntWalk.i64_in _ (by omega)
          have hstep' := Lib.hid (show S + p = sm (k + 1) (ivF ts n i) by rw [hstep.out, hp])
          clear hb1 hxb hcb hpb hb4 hstep hp hb01 hb02 hcsM
          have i0 : (0 : Int) ≤ (k : Int) := by omega
          have i1 : (k : Int) < (n : Int) := by omega
          have hkn2 : k ≤ n := by omega
          go_wp2
          go_quiet (first | (go_at_call 18; exact Calls.quiet_of_same (hturn.out _ (hT2.drewN _))))
          have hG2 : Fill w ((_ : World).drewN nq) w.heap.size 3 n i (ivA ts n) := ⟨hG.own, bel_drewN hG.bel nq, hG.new⟩
          go_wp2
          go_roundw
          case rel => exact ⟨k + 1, 0, by go_num, by rw [hstep'.out], by omega, hkl, hG2⟩
          case measure => simp [intOf]; omega
        · have hkn' : k = n := by omega
          subst hkn'
          obtain ⟨y, hcy⟩ := hG.cell hlt
          have hcf := hG.frozen i
          have hF2 := hG.next hlt (v := ivA ts k i) rfl
          have hv := Lib.hid (show rnd (sm k (ivF ts k i)) (k * 268435456) = ivA ts k i from rfl)
          have hF2 := Lib.hid hF2
          generalize sm k (ivF ts k i) = S at *
          have hd1 := hb1.1
          have hd2 := hb1.2
          clear hb1
          go_wp2_with (go_at_call 66; refine (Round_any _ _ _ (by omega) (by omega) (by omega) (by omega)).mono ?_; rintro e w' ⟨rfl, rfl⟩)
          refine ⟨⟨i + 1, by go_num, hlt, ?_⟩, by simp [intOf]; omega⟩
          rw [hv.out]
          exact hF2.out
    · have hkn' : i = n := by omega
      subst hkn'
      have hD := hF.whole
      go_wp2
      go_ret
      exact ⟨_, rfl, by rw [hR.out]; exact hD, hF.bel, Nat.le_refl _⟩

end Go.Proofs.YtjpdgnbdbpgnmaaDoor
