/- The document's transforms, slack and lengths. -/
import Derived.Test.YtjpdgnbdbpgnmaaDoorFI
namespace Go.Proofs.YtjpdgnbdbpgnmaaDoor
open Go.RowKit

set_option maxHeartbeats 800000 in
theorem RC_any (j : Nat) (w : World) (hT : Tab w) (hj : j ≤ 9223372036854775807) : Calls Tryd.prog 18 #[.int .i64 (j : Int)] w fun e w' => e = .returned (.int .i64 (cs j)) ∧ w = w' := by
  have hm : (j : Int).tmod 256 = ((j % 256 : Nat) : Int) := by rw [Int.tmod_eq_emod_of_nonneg (by omega)]; rfl
  have hcs : cs j = if j % 256 ≤ 64 then cosT (j % 256) else if j % 256 ≤ 128 then -cosT (128 - j % 256) else if j % 256 ≤ 192 then -cosT (j % 256 - 128) else cosT (256 - j % 256) := rfl
  have hlt : j % 256 < 256 := Nat.mod_lt _ (by decide)
  generalize j % 256 = m at *
  by_cases h1 : m ≤ 64
  · rw [if_pos h1] at hcs
    have hv := Lib.hid hcs
    clear hcs
    have hc := hT m (by omega)
    generalize cosT m = v at *
    have d1 : decide ((m : Int) ≤ 64) = true := decide_eq_true (by omega)
    go_enter Tryd.func18, Tryd.ntmps18
    go_wp2
    go_ret
    exact ⟨ret_int hv.out.symm, rfl⟩
  · rw [if_neg h1] at hcs
    have d1 : decide ((m : Int) ≤ 64) = false := decide_eq_false (by omega)
    by_cases h2 : m ≤ 128
    · rw [if_pos h2] at hcs
      have hv := Lib.hid hcs
      clear hcs
      obtain ⟨p, hp⟩ : ∃ p : Nat, 128 - (m : Int) = (p : Int) := ⟨128 - m, by omega⟩
      have hpe : 128 - m = p := by omega
      rw [hpe] at hv
      have hc := hT p (by omega)
      have hb := cosT_bd p
      generalize cosT p = v at *
      have hb1 := hb.1
      have hb2 := hb.2
      have hp64 : p ≤ 64 := by omega
      have d2 : decide ((m : Int) ≤ 128) = true := decide_eq_true (by omega)
      clear hb hpe
      go_enter Tryd.func18, Tryd.ntmps18
      go_wp2
      go_ret
      exact ⟨ret_int hv.out.symm, rfl⟩
    · rw [if_neg h2] at hcs
      have d2 : decide ((m : Int) ≤ 128) = false := decide_eq_false (by omega)
      by_cases h3 : m ≤ 192
      · rw [if_pos h3] at hcs
        have hv := Lib.hid hcs
        clear hcs
        obtain ⟨p, hp⟩ : ∃ p : Nat, (m : Int) - 128 = (p : Int) := ⟨m - 128, by omega⟩
        have hpe : m - 128 = p := by omega
        rw [hpe] at hv
        have hc := hT p (by omega)
        have hb := cosT_bd p
        generalize cosT p = v at *
        have hb1 := hb.1
        have hb2 := hb.2
        have hp64 : p ≤ 64 := by omega
        have d3 : decide ((m : Int) ≤ 192) = true := decide_eq_true (by omega)
        clear hb hpe
        go_enter Tryd.func18, Tryd.ntmps18
        go_wp2
        go_ret
        exact ⟨ret_int hv.out.symm, rfl⟩
      · rw [if_neg h3] at hcs
        have hv := Lib.hid hcs
        clear hcs
        obtain ⟨p, hp⟩ : ∃ p : Nat, 256 - (m : Int) = (p : Int) := ⟨256 - m, by omega⟩
        have hpe : 256 - m = p := by omega
        rw [hpe] at hv
        have hc := hT p (by omega)
        generalize cosT p = v at *
        have hp64 : p ≤ 64 := by omega
        have d3 : decide ((m : Int) ≤ 192) = false := decide_eq_false (by omega)
        clear hpe
        go_enter Tryd.func18, Tryd.ntmps18
        go_wp2
        go_ret
        exact ⟨ret_int hv.out.symm, rfl⟩

theorem turn_letters (i k n : Nat) (hi : i ≤ 64) (hk : k ≤ 64) : ∃ q P M : Nat, (64 : Int).tdiv (n : Int) = (q : Int) ∧ (2 * (i : Int) + 1) * (k : Int) = (P : Int) ∧ (P : Int) * (q : Int) = (M : Int) ∧ q ≤ 64 ∧ P ≤ 8256 ∧ M ≤ 528384 ∧ Hid (cs ((2 * i + 1) * k * (64 / n)) = cs M) := by
  have hq2 : 64 / n ≤ 64 := Nat.div_le_self _ _
  have hP2 : (2 * i + 1) * k ≤ 129 * 64 := Nat.mul_le_mul (by omega) hk
  have hM2 : (2 * i + 1) * k * (64 / n) ≤ 129 * 64 * 64 := Nat.mul_le_mul hP2 hq2
  exact ⟨64 / n, (2 * i + 1) * k, (2 * i + 1) * k * (64 / n), by rw [Int.tdiv_eq_ediv_of_nonneg (by omega)]; exact (Int.natCast_ediv 64 n).symm, by rw [Int.natCast_mul]; simp, by rw [← Int.natCast_mul], hq2, hP2, hM2, rfl⟩

theorem lenB_iff (n : Nat) : lenB n = (n == 1 || n == 2 || n == 4 || n == 8 || n == 16 || n == 32 || n == 64) := by
  rcases Nat.lt_or_ge 64 n with h | h
  · have h1 : lenB n = false := by
      unfold lenB
      rw [Nat.mod_eq_of_lt h]
      simp
    rw [h1]
    have e : ∀ m, m ≤ 64 → (n == m) = false := fun m hm => by rw [beq_eq_false_iff_ne]; omega
    rw [e 1 (by omega), e 2 (by omega), e 4 (by omega), e 8 (by omega), e 16 (by omega), e 32 (by omega), e 64 (by omega)]
    rfl
  · have : ∀ m, m ≤ 64 → lenB m = (m == 1 || m == 2 || m == 4 || m == 8 || m == 16 || m == 32 || m == 64) := by decide +kernel
    exact this n h
theorem RLength_any (n : Nat) (w : World) : Calls Tryd.prog 25 #[.int .i64 (n : Int)] w fun e w' => e = .returned (.bool (lenB n)) ∧ w' = w := by
  have hv := Lib.hid (lenB_iff n)
  have e : ∀ m : Nat, ((n : Int) == (m : Int)) = (n == m) := fun m => by
    by_cases h : n = m
    · subst h; simp
    · rw [beq_eq_false_iff_ne.2 h, beq_eq_false_iff_ne]; omega
  have e1 : ((n : Int) == 1) = (n == 1) := e 1
  have e2 : ((n : Int) == 2) = (n == 2) := e 2
  have e3 : ((n : Int) == 4) = (n == 4) := e 4
  have e4 : ((n : Int) == 8) = (n == 8) := e 8
  have e5 : ((n : Int) == 16) = (n == 16) := e 16
  have e6 : ((n : Int) == 32) = (n == 32) := e 32
  have e7 : ((n : Int) == 64) = (n == 64) := e 64
  clear e
  generalize hb1 : (n == 1) = b1 at *
  generalize hb2 : (n == 2) = b2 at *
  generalize hb3 : (n == 4) = b3 at *
  generalize hb4 : (n == 8) = b4 at *
  generalize hb5 : (n == 16) = b5 at *
  generalize hb6 : (n == 32) = b6 at *
  generalize hb7 : (n == 64) = b7 at *
  clear hb1 hb2 hb3 hb4 hb5 hb6 hb7
  cases b1
  case' false => cases b2
  case' false.false => cases b3
  case' false.false.false => cases b4
  case' false.false.false.false => cases b5
  case' false.false.false.false.false => cases b6
  case' false.false.false.false.false.false => cases b7
  all_goals
    go_enter Tryd.func25, Tryd.ntmps25
    go_wp2
    go_ret
    exact ⟨ret_bool hv.out.symm, rfl⟩

set_option maxHeartbeats 1200000 in
set_option maxRecDepth 100000 in
theorem RTransform_any (A : Option Addr) (n c : Nat) (xs : List Int) (w : World) (h : Sl .i64 w A n c xs) (hT : Tab w) (hk : trOk xs = true) :
    Calls Tryd.prog 27 #[.slice A n c] w fun e w' => ∃ g, e = .returned (.slice (some ⟨g, 0, none⟩) n n) ∧ Mk w' g 3 .i64 (trL xs) ∧ Below w.heap.size w w' ∧ w.heap.size ≤ g := by
  have hl := Lib.hid h.len
  have hcap := h.cap
  have htop := h.top
  have hkk : lenB n = true ∧ allB (-65536) 65536 xs = true := by
    unfold trOk at hk
    simp only [Bool.and_eq_true] at hk
    rw [hl.out] at hk
    exact hk
  obtain ⟨hn1, hn2, _⟩ := lenB_le hkk.1
  have hbd := Lib.hid (fun k i (hi : i ≤ n) => trA_bd (k := k) hkk.2 hl.out hn2 hi)
  have hA := Lib.hid hkk.2
  have hR := Lib.hid (show trL xs = tab n fun k => sm n (trF xs n k) by unfold trL; rw [hl.out]; rfl)
  have hmk := make_int n (by omega)
  clear hk hkk
  go_enter Tryd.func27, Tryd.ntmps27
  go_wp2
  clear hmk
  go_loopw [5] (fun iv wr => ∃ k : Nat, iv = .int .i64 k ∧ k ≤ n ∧ Fill w wr w.heap.size 3 n k fun k => sm n (trF xs n k)) (fun iv _ => n - (intOf iv).toNat)
  case atStart => exact ⟨0, rfl, Nat.zero_le _, Fill.start (Below.refl _ _) rfl⟩
  case round =>
    obtain ⟨k, rfl, hkn, hF⟩ := hrel
    rcases Nat.lt_or_ge k n with hlt | hge
    · have hFA := hF.begin_ hlt
      go_wp2
      go_loopw [6] (fun iv w2 => ∃ i : Nat, iv = .int .i64 i ∧ i ≤ n ∧ FillA w w2 w.heap.size 3 n k (sm i (trF xs n k)) fun k => sm n (trF xs n k)) (fun iv _ => n - (intOf iv).toNat)
      case atStart => exact ⟨0, rfl, Nat.zero_le _, hFA⟩
      case round =>
        obtain ⟨i, rfl, hin, hG⟩ := hrel
        rcases Nat.lt_or_ge i n with hil | hig
        · have hr := h.below hG.bel
          have hTr := hT.below hG.bel
          obtain ⟨ad, x, rfl, hcx, hx⟩ := hr.at_ hil
          have hb1 := hbd.out k i (by omega)
          have hxb := allB_get hA.out (by rw [hl.out]; exact hil) hx.out
          obtain ⟨q, P, M, hq, hP, hM, hq2, hP2, hM2, hcsM⟩ := turn_letters i k n (by omega) (by omega)
          have hcb := cs_bd M
          have hstep := Lib.hid (show sm (i + 1) (trF xs n k) = sm i (trF xs n k) + x * cs M by show sm i (trF xs n k) + trF xs n k i = _; unfold trF; rw [hx.out, hcsM.out])
          have hturn := Lib.hid (fun w9 (h9 : Tab w9) => show Calls Tryd.prog 18 #[.int .i64 (M : Int)] w9 (fun e w' => e = .returned (.int .i64 (cs M)) ∧ w' = w9) from (RC_any M w9 h9 (by omega)).mono fun e w' h9 => ⟨h9.1, h9.2.symm⟩)
          generalize cs M = cc at *
          have hpb := prod_bd (m := 65536) (q := 16384) hxb.1 hxb.2 hcb.1 hcb.2
          obtain ⟨p, hp⟩ : ∃ p, x * cc = p := ⟨_, rfl⟩
          rw [hp] at hpb
          have e1 : IntKind.i64.wrap (x * cc) = p := by rw [hp]; exact IntWalk.i64_in _ (by omega)
          have hb2 : -68719476736 ≤ sm i (trF xs n k) ∧ sm i (trF xs n k) ≤ 68719476736 := hb1
          generalize hS0 : sm i (trF xs n k) = S at *
          clear hS0
          have e2 : IntKind.i64.wrap (S + p) = S + p := IntWalk.i64_in _ (by omega)
          have e3 : IntKind.i64.wrap (2 * (i : Int)) = 2 * (i : Int) := IntWalk.i64_in _ (by omega)
          have e4 : IntKind.i64.wrap (2 * (i : Int) + 1) = 2 * (i : Int) + 1 := IntWalk.i64_in _ (by omega)
          have e5 : IntKind.i64.wrap ((2 * (i : Int) + 1) * (k : Int)) = (P : Int) := by rw [hP]; exact IntWalk.i64_in _ (by omega)
          have e6 : IntKind.i64.wrap ((64 : Int).tdiv (n : Int)) = (q : Int) := by rw [hq]; exact IntWalk.i64_in _ (by omega)
          have e7 : IntKind.i64.wrap ((P : Int) * (q : Int)) = (M : Int) := by rw [hM]; exact IntWalk.i64_in _ (by omega)
          have e8 : IntKind.i64.wrap (P : Int) = (P : Int) := IntWalk.i64_in _ (by omega)
          have e9 : IntKind.i64.wrap (q : Int) = (q : Int) := IntWalk.i64_in _ (by omega)
          have e10 : IntKind.i64.wrap (M : Int) = (M : Int) := IntWalk.i64_in _ (by omega)
          have hn0 : ¬ (n : Int) = 0 := by omega
          have hn0' : ¬ n = 0 := by omega
          have hstep' := Lib.hid (show S + p = sm (i + 1) (trF xs n k) by rw [hstep.out, hp])
          clear hb1 hxb hcb hpb hb2 hstep hp
          have hc0 := hG.cell
          have i0 : (0 : Int) ≤ (k : Int) := by omega
          have i1 : (k : Int) < (n : Int) := by omega
          have i2 : (0 : Int) ≤ (i : Int) := by omega
          have i3 : (i : Int) < (n : Int) := by omega
          go_wp2
          go_still_tail 22, (by kernel_rfl)
          still_call (hturn.out _ (hTr.drewN 1))
          repeat still_step
          refine wpStill_nil ?_
          change wpList _ _ _ _ _ (_ : World).drew
          have hG2 := hG.drewN 1
          change FillA w (_ : World).drew _ _ _ _ _ _ at hG2
          generalize (_ : World).drew = w3 at *
          have hcf := hG2.frozen k
          have hc3 := hG2.cell
          have hG4 := hG2.set_ (S + p)
          rw [hstep'.out] at hG4
          clear hc0 hcx
          go_wp2
          go_roundw
          case rel => exact ⟨i + 1, by go_num, hil, by rw [← hstep'.out] at hG4 ⊢; exact hG4⟩
          case measure => simp [intOf]; omega
        · have hii : i = n := by omega
          subst hii
          have hF2 := hG.end_ rfl
          go_wp2
          go_roundw
          case rel => exact ⟨k + 1, by go_num, hlt, hF2⟩
          case measure => simp [intOf]; omega
    · have hkn' : k = n := by omega
      subst hkn'
      have hD := hF.whole
      go_wp2
      go_ret
      exact ⟨_, rfl, by rw [hR.out]; exact hD, hF.bel, Nat.le_refl _⟩
end Go.Proofs.YtjpdgnbdbpgnmaaDoor
