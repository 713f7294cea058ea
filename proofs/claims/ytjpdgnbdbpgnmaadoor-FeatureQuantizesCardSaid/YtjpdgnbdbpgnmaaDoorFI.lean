/- The inverse transform, the slack, the table's elements: the program's. -/
import Derived.Test.YtjpdgnbdbpgnmaaDoorFH
import Derived.Deep.QuietTactic
import Derived.BigQuiet
namespace Go.Proofs.YtjpdgnbdbpgnmaaDoor
open Go.RowKit

def ivF (ts : List Int) (n i : Nat) : Nat → Int := fun k => if k = 0 then 16384 * ts.getD 0 0 else 2 * ts.getD k 0 * cs ((2 * i + 1) * k * (64 / n))
def ivA (ts : List Int) (n i : Nat) : Int := rnd (sm n (ivF ts n i)) (n * 268435456)
def ivL (ts : List Int) : List Int := tab ts.length (ivA ts ts.length)
def ivOk (ts : List Int) : Bool := lenB ts.length && allB (-1099511627776) 1099511627776 ts
theorem ivF_bd {ts : List Int} {n i k : Nat} (h : allB (-1099511627776) 1099511627776 ts = true) (hn : ts.length = n) (hk : k < n) : -36028797018963968 ≤ ivF ts n i k ∧ ivF ts n i k ≤ 36028797018963968 := by
  unfold ivF
  split
  · have := allB_get h (j := 0) (by omega) rfl
    omega
  · have h1 := allB_get h (j := k) (by omega) rfl
    have h2 := cs_bd ((2 * i + 1) * k * (64 / n))
    exact prod_bd (m := 2199023255552) (q := 16384) (by omega) (by omega) h2.1 h2.2
theorem ivS_bd {ts : List Int} {n i k : Nat} (h : allB (-1099511627776) 1099511627776 ts = true) (hn : ts.length = n) (hn2 : n ≤ 64) (hk : k ≤ n) : -2305843009213693952 ≤ sm k (ivF ts n i) ∧ sm k (ivF ts n i) ≤ 2305843009213693952 := by
  have := sm_bd (f := ivF ts n i) (m := 36028797018963968) (n := k) (fun j hj => ivF_bd h hn (by omega))
  omega

set_option maxHeartbeats 1600000 in
set_option maxRecDepth 100000 in
theorem Inverse_any (A : Option Addr) (n c : Nat) (ts : List Int) (w : World) (h : Sl .i64 w A n c ts) (hT : Tab w) :
    Calls Tryd.prog 29 #[.slice A n c] w fun e w' => (ivOk ts = true ∧ RetM w n (ivL ts) e w') ∨ (ivOk ts = false ∧ RetN w 2 e w') := by
  have hl := Lib.hid h.len
  have hcap := h.cap
  have htop := h.top
  cases hL : lenB n with
  | false =>
    have hk := Lib.hid (show ivOk ts = false by unfold ivOk; rw [hl.out, hL]; rfl)
    have hL := Lib.hid hL
    go_enter Tryd.func29, Tryd.ntmps29
    go_wp2_with fail
    refine (isLength_any n w).mono ?_
    rintro e w' ⟨rfl, rfl⟩
    rw [hL.out]
    go_wp2
    go_ret2
    exact .inr ⟨hk.out, rfl, Below.refl _ _⟩
  | true =>
    obtain ⟨hn1, hn2, _⟩ := lenB_le hL
    cases hA : allB (-1099511627776) 1099511627776 ts with
    | false =>
      have hk := Lib.hid (show ivOk ts = false by unfold ivOk; rw [hl.out, hL, hA]; rfl)
      have hL := Lib.hid hL
      have hA := Lib.hid hA
      go_enter Tryd.func29, Tryd.ntmps29
      go_wp2_with fail
      refine (isLength_any n w).mono ?_
      rintro e w' ⟨rfl, rfl⟩
      rw [hL.out]
      go_wp2_with fail
      refine (allUpTo_any _ _ _ _ 1099511627776 _ h (by decide) (by decide)).mono ?_
      rintro e w' ⟨rfl, rfl⟩
      rw [hA.out]
      go_wp2
      go_ret2
      exact .inr ⟨hk.out, rfl, Below.refl _ _⟩
    | true =>
      have hk := Lib.hid (show ivOk ts = true by unfold ivOk; rw [hl.out, hL, hA]; rfl)
      have hR := Lib.hid (show ivL ts = tab n (ivA ts n) by unfold ivL; rw [hl.out])
      have hbd := Lib.hid (fun i k (hi : k ≤ n) => ivS_bd (i := i) hA hl.out hn2 hi)
      have hL := Lib.hid hL
      have hA := Lib.hid hA
      have hmk := make_int n (by omega)
      go_enter Tryd.func29, Tryd.ntmps29
      go_wp2_with fail
      refine (isLength_any n w).mono ?_
      rintro e w' ⟨rfl, rfl⟩
      rw [hL.out]
      go_wp2_with fail
      refine (allUpTo_any _ _ _ _ 1099511627776 _ h (by decide) (by decide)).mono ?_
      rintro e w' ⟨rfl, rfl⟩
      rw [hA.out]
      go_wp2
      clear hmk
      go_loopw [22] (fun iv wr => ∃ k : Nat, iv = .int .i64 k ∧ k ≤ n ∧ Fill w wr w.heap.size 3 n k (ivA ts n)) (fun iv _ => n - (intOf iv).toNat)
      case atStart => exact ⟨0, rfl, Nat.zero_le _, Fill.start (Below.refl _ _) rfl⟩
      case round =>
        obtain ⟨i, rfl, hin, hF⟩ := hrel
        rcases Nat.lt_or_ge i n with hlt | hge
        · have hr := h.below hF.bel
          have hTr := hT.below hF.bel
          obtain ⟨ad, t0, rfl, hc0, ht0⟩ := hr.at_ (j := 0) (by omega)
          have hb0 := allB_get hA.out (by rw [hl.out]; omega) ht0.out
          have hb01 := hb0.1
          have hb02 := hb0.2
          clear hb0
          have hst := Lib.hid (show sm 1 (ivF ts n i) = 16384 * t0 by show 0 + ivF ts n i 0 = _; rw [Int.zero_add]; unfold ivF; rw [if_pos rfl, ht0.out])
          have hc0' := hc0
          rw [show ad.add 0 = ad from by unfold Addr.add; simp] at hc0'
          go_wp2
          go_loopw [6, 7] (fun sv kv w2 => ∃ k r : Nat, kv = .int .i64 k ∧ sv = .int .i64 (sm k (ivF ts n i)) ∧ 1 ≤ k ∧ k ≤ n ∧ Fill w w2 w.heap.size 3 n i (ivA ts n)) (fun _ kv _ => n - (intOf kv).toNat)
          case atStart => exact ⟨1, 0, rfl, by rw [hst.out], Nat.le_refl _, hn1, hF⟩
          case round =>
            obtain ⟨k, r, rfl, rfl, hk1, hkn, hG⟩ := hrel
            have hb1 := hbd.out i k hkn
            rcases Nat.lt_or_ge k n with hkl | hkg
            · have hr2 := h.below hG.bel
              have hT2 := hT.below hG.bel
              obtain ⟨ad2, x, e2, hcx, hx⟩ := hr2.at_ hkl
              injection e2 with e2
              subst e2
              have hxb := allB_get hA.out (by rw [hl.out]; exact hkl) hx.out
              have hcb := cs_bd ((2 * i + 1) * k * (64 / n))
              have hstep := Lib.hid (show sm (k + 1) (ivF ts n i) = sm k (ivF ts n i) + 2 * x * cs ((2 * i + 1) * k * (64 / n)) by show sm k (ivF ts n i) + ivF ts n i k = _; unfold ivF; rw [if_neg (by omega), hx.out])
              have hb4 := hbd.out i (k + 1) hkl
              rw [hstep.out] at hb4
              have hturn := Lib.hid (fun w9 (h9 : Tab w9) => turn_any i k n w9 h9 (by omega) (by omega) hn1)
              generalize cs ((2 * i + 1) * k * (64 / n)) = cc at *
              have hpb := prod_bd (a := 2 * x) (m := 2199023255552) (q := 16384) (by omega) (by omega) hcb.1 hcb.2
              obtain ⟨p, hp⟩ : ∃ p, 2 * x * cc = p := ⟨_, rfl⟩
              rw [hp] at hpb hb4
              have e0 : IntKind.i64.wrap (2 * x) = 2 * x := IntWalk.i64_in _ (by omega)
              have e1 : IntKind.i64.wrap (2 * x * cc) = p := by rw [hp]; exact IntWalk.i64_in _ (by omega)
              generalize hS0 : sm k (ivF ts n i) = S at *
              clear hS0
              have e3 : IntKind.i64.wrap (S + p) = S + p := IntWalk.i64_in _ (by omega)
              have hstep' := Lib.hid (show S + p = sm (k + 1) (ivF ts n i) by rw [hstep.out, hp])
              clear hb1 hxb hcb hpb hb4 hstep hp hb01 hb02
              have i0 : (0 : Int) ≤ (k : Int) := by omega
              have i1 : (k : Int) < (n : Int) := by omega
              have hkn2 : k ≤ n := by omega
              go_wp2
              go_quiet (first | (go_at_call 63; exact Calls.quiet_of_same (hturn.out _ (hT2.drewN _))))
              have hG2 : Fill w ((_ : World).drewN nq) w.heap.size 3 n i (ivA ts n) := ⟨hG.own, bel_drewN hG.bel nq, hG.new⟩
              go_wp2
              go_roundw
              case rel => exact ⟨k + 1, 0, by go_num, by rw [hstep'.out], by omega, hkl, hG2⟩
              case measure => simp [intOf]; omega
            · have hkn' : k = n := by omega
              subst hkn'
              obtain ⟨y, hcy⟩ := hG.cell hlt
              have hcf := hG.frozen i
              have hF2 := hG.next hlt (v := ivA ts k i) rfl
              have hv := Lib.hid (show rnd (sm k (ivF ts k i)) (k * 268435456) = ivA ts k i from rfl)
              have hF2 := Lib.hid hF2
              generalize sm k (ivF ts k i) = S at *
              have hd1 := hb1.1
              have hd2 := hb1.2
              clear hb1
              go_wp2_with (go_at_call 64; refine (divide_any _ _ _ (by omega) (by omega) (by omega) (by omega)).mono ?_; rintro e w' ⟨rfl, rfl⟩)
              refine ⟨⟨i + 1, by go_num, hlt, ?_⟩, by simp [intOf]; omega⟩
              rw [show (k : Int) * 16384 * 16384 = k * 268435456 by omega, hv.out]
              exact hF2.out
        · have hkn' : i = n := by omega
          subst hkn'
          have hD := hF.whole
          go_wp2
          go_ret2
          exact .inl ⟨hk.out, _, rfl, by rw [hR.out]; exact hD, hF.bel, Nat.le_refl _⟩

def slS (xs : List Int) : Int := sm xs.length fun i => max (xs.getD i 0) (-xs.getD i 0)
def slN (xs : List Int) : Int := (slS xs + 1) / 2
def slOk (xs : List Int) : Bool := decide (xs.length ≤ 64) && allB (-65536) 65536 xs
theorem slS_bd {xs : List Int} {k : Nat} (h : allB (-65536) 65536 xs = true) (hk : k ≤ xs.length) (hl : xs.length ≤ 64) : 0 ≤ sm k (fun i => max (xs.getD i 0) (-xs.getD i 0)) ∧ sm k (fun i => max (xs.getD i 0) (-xs.getD i 0)) ≤ 65536 * k := by
  induction k with
  | zero => simp [sm]
  | succ k ih =>
    have h1 := ih (by omega)
    have h2 := allB_get h (j := k) (by omega) rfl
    show 0 ≤ sm k _ + max (xs.getD k 0) (-xs.getD k 0) ∧ sm k _ + max (xs.getD k 0) (-xs.getD k 0) ≤ _
    omega

theorem Cosine_any (j : Int) (w : World) (hT : Tab w) (hj : j ≤ 9223372036854775807) :
    Calls Tryd.prog 16 #[.int .i64 j] w fun e w' => e = .returned (if j < 0 then .tuple #[.int .i64 0, .int .i64 2] else .tuple #[.int .i64 (cs j.toNat), .int .i64 0]) ∧ w' = w := by
  by_cases h0 : j < 0
  · rw [if_pos h0]
    go_enter Tryd.func16, Tryd.ntmps16
    go_wp2
    go_ret2
    exact ⟨rfl, rfl⟩
  · rw [if_neg h0]
    obtain ⟨m, rfl⟩ : ∃ m : Nat, j = (m : Int) := ⟨j.toNat, by omega⟩
    have hd : decide ((m : Int) < 0) = false := decide_eq_false h0
    go_enter Tryd.func16, Tryd.ntmps16
    go_wp2_with (go_at_call 59; refine (cosine_any m _ hT (by omega)).mono ?_; rintro e w' ⟨rfl, rfl⟩)
    go_ret2
    exact ⟨rfl, rfl⟩

theorem if_max (x : Int) : (if x < -x then -x else x) = max x (-x) := by split <;> omega
set_option maxHeartbeats 800000 in
theorem Slack_any (A : Option Addr) (n c : Nat) (xs : List Int) (w : World) (h : Sl .i64 w A n c xs) :
    Calls Tryd.prog 22 #[.slice A n c] w fun e w' => e = .returned (if slOk xs then .tuple #[.int .i64 (slN xs), .int .i64 0] else .tuple #[.int .i64 0, .int .i64 2]) ∧ w' = w := by
  have hl := Lib.hid h.len
  have hcap := h.cap
  have htop := h.top
  by_cases hn : n ≤ 64
  · have hd : decide (64 < (n : Int)) = false := decide_eq_false (by omega)
    cases hA : allB (-65536) 65536 xs with
    | false =>
      have hk := Lib.hid (show slOk xs = false by unfold slOk; rw [hA, Bool.and_false])
      have hA := Lib.hid hA
      rw [hk.out]
      go_enter Tryd.func22, Tryd.ntmps22
      go_wp2_with fail
      refine (allUpTo_any _ _ _ _ 65536 _ h (by decide) (by decide)).mono ?_
      rintro e w' ⟨rfl, rfl⟩
      rw [hA.out]
      go_wp2
      go_ret2
      exact ⟨rfl, rfl⟩
    | true =>
      have hk := Lib.hid (show slOk xs = true by unfold slOk; rw [hA, hl.out, decide_eq_true hn]; rfl)
      have hbd := Lib.hid (fun k (hk : k ≤ n) => slS_bd (k := k) hA (by rw [hl.out]; exact hk) (by rw [hl.out]; exact hn))
      have hN := Lib.hid (show slN xs = (sm n (fun i => max (xs.getD i 0) (-xs.getD i 0)) + 1) / 2 by unfold slN slS; rw [hl.out])
      have hA := Lib.hid hA
      rw [hk.out]
      go_enter Tryd.func22, Tryd.ntmps22
      go_wp2_with fail
      refine (allUpTo_any _ _ _ _ 65536 _ h (by decide) (by decide)).mono ?_
      rintro e w' ⟨rfl, rfl⟩
      rw [hA.out]
      go_wp2
      go_loop [4, 17] (fun sv iv => ∃ k : Nat, k ≤ n ∧ iv = .int .i64 k ∧ sv = .int .i64 (sm k fun i => max (xs.getD i 0) (-xs.getD i 0))) (fun _ iv => n - (intOf iv).toNat)
      case atStart => exact ⟨0, Nat.zero_le _, rfl, rfl⟩
      case round =>
        obtain ⟨k, hkn, rfl, rfl⟩ := hrel
        have hb := hbd.out k hkn
        have hb1 := hb.1
        have hb2 := hb.2
        rcases Nat.lt_or_ge k n with hlt | hge
        · obtain ⟨ad, x, rfl, hc, hx⟩ := h.at_ hlt
          have hxb := allB_get hA.out (by rw [hl.out]; exact hlt) hx.out
          have hx1 := hxb.1
          have hx2 := hxb.2
          have hs := Lib.hid (show sm (k + 1) (fun i => max (xs.getD i 0) (-xs.getD i 0)) = sm k (fun i => max (xs.getD i 0) (-xs.getD i 0)) + max x (-x) by show sm k _ + max (xs.getD k 0) (-xs.getD k 0) = _; rw [hx.out])
          clear hb hxb
          generalize sm k (fun i => max (xs.getD i 0) (-xs.getD i 0)) = S at *
          have hm := if_max x
          obtain ⟨m, hmm⟩ : ∃ m, max x (-x) = m := ⟨_, rfl⟩
          have hm0 : 0 ≤ m ∧ m ≤ 65536 := by omega
          have hm1 := hm0.1
          have hm2 := hm0.2
          rw [hmm] at hm hs
          clear hm0
          have hmm := Lib.hid hmm
          go_wp2
          go_round
          case rel => exact ⟨k + 1, by omega, by go_num, by rw [hs.out]⟩
          case measure => simp [intOf]; omega
        · have hkn : k = n := by omega
          subst hkn
          clear hb hbd
          have hfin := Lib.hid (show slN xs = (sm k (fun i => max (xs.getD i 0) (-xs.getD i 0)) + 1) / 2 from hN.out)
          clear hN
          generalize sm k (fun i => max (xs.getD i 0) (-xs.getD i 0)) = S at *
          go_wp2_with (go_at_call 65; refine (divideUp_any _ _ _ (by omega) (by omega) (by decide) (by decide)).mono ?_; rintro e w' ⟨rfl, rfl⟩)
          go_ret2
          exact ⟨by rw [hfin.out, show S + 1 = S + 2 - 1 by omega]; rfl, rfl⟩
  · have hd : decide (64 < (n : Int)) = true := decide_eq_true (by omega)
    have hk := Lib.hid (show slOk xs = false by unfold slOk; rw [hl.out, decide_eq_false hn]; rfl)
    rw [hk.out]
    go_enter Tryd.func22, Tryd.ntmps22
    go_wp2
    go_ret2
    exact ⟨rfl, rfl⟩
end Go.Proofs.YtjpdgnbdbpgnmaaDoor
