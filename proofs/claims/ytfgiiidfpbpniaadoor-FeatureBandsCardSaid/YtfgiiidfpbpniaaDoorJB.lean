/- Bands: the program's. -/
import Derived.Test.YtfgiiidfpbpniaaDoorJA
namespace Go.Proofs.YtfgiiidfpbpniaaDoor
open Go.RowKit

/-- the sum of the squares of the first k numbers -/
def sq (ss : List Int) (k : Nat) : Int := sm k fun i => ss.getD i 0 * ss.getD i 0
def bnF (ss es : List Int) (b : Nat) : Int := sq ss (es.getD (b + 1) 0).toNat - sq ss (es.getD b 0).toNat
def bnL (ss es : List Int) : List Int := tab (es.length - 1) (bnF ss es)
def BnP (ss es : List Int) : Prop := ss.length ≤ 64 ∧ allB (-16777216) 16777216 ss = true ∧ EdP es ss.length
theorem sqi_bd {x : Int} (h1 : -16777216 ≤ x) (h2 : x ≤ 16777216) : 0 ≤ x * x ∧ x * x ≤ 281474976710656 := by
  have key : ∀ y : Int, 0 ≤ y → y ≤ 16777216 → 0 ≤ y * y ∧ y * y ≤ 281474976710656 := fun y a b => by
    refine ⟨Int.mul_nonneg a a, ?_⟩
    have := Int.mul_le_mul (a := y) (b := y) (c := 16777216) (d := 16777216) b b a (by decide)
    omega
  rcases Int.le_total 0 x with h | h
  · exact key x h h2
  · have := key (-x) (by omega) (by omega)
    rwa [Int.neg_mul_neg] at this
theorem sq_succ (ss : List Int) (k : Nat) : sq ss (k + 1) = sq ss k + ss.getD k 0 * ss.getD k 0 := rfl
theorem sq1_bd {ss : List Int} (h : allB (-16777216) 16777216 ss = true) (i : Nat) : 0 ≤ ss.getD i 0 * ss.getD i 0 ∧ ss.getD i 0 * ss.getD i 0 ≤ 281474976710656 := by
  rcases Nat.lt_or_ge i ss.length with hi | hi
  · have hb := allB_get h hi rfl
    generalize ss.getD i 0 = x at *
    exact sqi_bd hb.1 hb.2
  · rw [getD_out hi]; decide
theorem sq_bd2 {ss : List Int} (h : allB (-16777216) 16777216 ss = true) (k : Nat) : 0 ≤ sq ss k ∧ sq ss k ≤ k * 281474976710656 := by
  induction k with
  | zero => exact ⟨Int.le_refl _, Int.le_refl _⟩
  | succ k ih =>
    have := sq1_bd h k
    rw [sq_succ]
    omega
theorem sq_mono {ss : List Int} (h : allB (-16777216) 16777216 ss = true) {a b : Nat} (hab : a ≤ b) : sq ss a ≤ sq ss b := sm_mono (fun j => (sq1_bd h j).1) hab

set_option maxHeartbeats 3200000 in
set_option maxRecDepth 100000 in
theorem Bands_ok (A A' : Option Addr) (n c m c' : Nat) (ss es : List Int) (w : World) (h : Sl .i64 w A n c ss) (h' : Sl .i64 w A' m c' es) (hm : m ≤ 1000) (hP : BnP ss es) :
    Calls Tryd.prog 14 #[.slice A n c, .slice A' m c'] w (RetM w (m - 1) (bnL ss es)) := by
  have hl := Lib.hid h.len
  have hl' := Lib.hid h'.len
  have hcap := h.cap
  have htop := h.top
  have hcap' := h'.cap
  have htop' := h'.top
  have hn := hP.1
  have hss := Lib.hid hP.2.1
  have hE := hP.2.2
  have hm2 := hE.1
  rw [hl.out] at hn hE
  rw [hl'.out] at hm2
  have hE1 := Lib.hid (fun i (hi : i < m) => hE.2.1 i (by rw [hl'.out]; exact hi))
  have hE2 := Lib.hid (fun i (hi : i + 1 < m) => hE.2.2 i (by rw [hl'.out]; exact hi))
  have hpos : 0 < n := by
    have e1 := hE1.out 1 (by omega)
    have e2 := hE2.out 0 (by omega)
    have e3 := hE1.out 0 (by omega)
    simp only [Nat.zero_add] at e2
    omega
  obtain ⟨q, hq⟩ : ∃ q, m - 1 = q := ⟨_, rfl⟩
  have hR := Lib.hid (show bnL ss es = tab q (bnF ss es) by unfold bnL; rw [hl'.out, hq])
  rw [hq]
  have wq : IntKind.i64.wrap ((m : Int) - 1) = (q : Int) := by rw [IntWalk.i64_in _ (by omega)]; omega
  have hEb := Lib.hid hE
  have hA := allUpTo_any A n c ss 16777216 w h (by decide) (by decide)
  rw [hss.out] at hA
  have hA := Lib.hid hA
  clear hP hE
  obtain ⟨ad, x0, rfl, _, _⟩ := h.at_ hpos
  obtain ⟨ad', x1, rfl, _, _⟩ := h'.at_ (show 0 < m by omega)
  have hmk := make_int q (by omega)
  go_enter Tryd.func14, Tryd.ntmps14
  go_wp2_with fail
  refine hA.out.mono ?_
  rintro e w' ⟨rfl, rfl⟩
  go_wp2_with fail
  refine (areEdges_any (some ad') m c' es n w h').mono ?_
  rintro e w2 ⟨b, r, rfl, hb, hw2⟩
  have hbt : b = true := hb.2 hEb.out
  subst hbt
  clear hb
  have hb2 : Below w.heap.size w w2 := by rw [hw2]; exact bel_drewN (Below.refl _ _) r
  clear hw2
  have h2 := h.below hb2
  have h2' := h'.below hb2
  go_wp2
  clear hmk
  go_loopw [31] (fun iv wr' => ∃ (b : Nat) (wr : World), wr = wr' ∧ iv = .int .i64 b ∧ b ≤ q ∧ Fill w2 wr w2.heap.size 3 q b (bnF ss es)) (fun iv _ => q - (intOf iv).toNat)
  case atStart => exact ⟨0, _, rfl, rfl, Nat.zero_le _, Fill.start (Below.refl _ _) rfl⟩
  case round =>
    obtain ⟨b, wr, rfl, rfl, hbq, hF⟩ := hrel
    rcases Nat.lt_or_ge b q with hlt | hge
    · have hr := h2.below hF.bel
      have hr' := h2'.below hF.bel
      have hFA := hF.begin_ hlt
      have x1 := hE1.out b (by omega)
      have x2 := hE1.out (b + 1) (by omega)
      have x3 := hE2.out b (by omega)
      obtain ⟨a, ha⟩ : ∃ a : Nat, es.getD b 0 = a := ⟨(es.getD b 0).toNat, by omega⟩
      obtain ⟨d, hd⟩ : ∃ d : Nat, es.getD (b + 1) 0 = d := ⟨(es.getD (b + 1) 0).toNat, by omega⟩
      obtain ⟨b1, hb1⟩ : ∃ b1, b + 1 = b1 := ⟨_, rfl⟩
      rw [ha] at x1 x3
      rw [hd] at x2 x3
      have hca : wr.cell? (ad'.add b) = some (.int .i64 (a : Int)) := hr'.cellAt (by omega) ha
      have hcd : wr.cell? (ad'.add b1) = some (.int .i64 (d : Int)) := hr'.cellAt (by omega) (by rw [← hb1]; exact hd)
      have e1 : IntKind.i64.wrap ((b : Int) + 1) = (b1 : Int) := by rw [IntWalk.i64_in _ (by omega)]; omega
      have i0 : (0 : Int) ≤ (b : Int) := by omega
      have i1 : (b : Int) < (m : Int) := by omega
      have i2 : (0 : Int) ≤ (b1 : Int) := by omega
      have i3 : (b1 : Int) < (m : Int) := by omega
      have i4 : (0 : Int) ≤ (a : Int) := by omega
      have i5 : (a : Int) ≤ (d : Int) := by omega
      have i6 : (d : Int) ≤ (n : Int) := by omega
      have i7 : (d : Int) ≤ (c : Int) := by omega
      have i8 : ¬ c = a := by omega
      have i9 : ¬ (c : Int) = (a : Int) := by omega
      have hbv := Lib.hid (show bnF ss es b = sq ss d - sq ss a by unfold bnF; rw [ha, hd]; rfl)
      have hb1 := Lib.hid hb1
      have ha := Lib.hid ha
      have hd := Lib.hid hd
      clear x1 x2
      go_wp2
      go_quiet (fail)
      have hGA := hFA.drewN nq
      generalize wr.drewN nq = w3 at *
      obtain ⟨z, hz⟩ : ∃ z, d - a = z := ⟨_, rfl⟩
      obtain ⟨C2, hC2⟩ : ∃ C2, c - a = C2 := ⟨_, rfl⟩
      have hzb : a + z = d ∧ z ≤ 64 := by omega
      rw [hz, hC2]
      have hz := Lib.hid hz
      have hC2 := Lib.hid hC2
      have hdn : d ≤ n := by omega
      clear e1 i0 i1 i2 i3 i4 i5 i6 i7 i8 i9 hca hcd hF hFA hr hr' x3
      go_wp2
      go_loopw [46] (fun jv w4' => ∃ (j : Nat) (w4 : World), w4 = w4' ∧ jv = .int .i64 j ∧ j ≤ z ∧ FillA w2 w4 w2.heap.size 3 q b (sq ss (a + j) - sq ss a) (bnF ss es)) (fun jv _ => z - (intOf jv).toNat)
      case atStart => exact ⟨0, _, rfl, rfl, Nat.zero_le _, by rw [Nat.add_zero, Int.sub_self]; exact hGA⟩
      case round =>
        obtain ⟨j, w4, rfl, rfl, hjz, hG⟩ := hrel
        rcases Nat.lt_or_ge j z with hjl | hjg
        · have h4 := h2.below hG.bel
          obtain ⟨y, hy⟩ : ∃ y, ss.getD (a + j) 0 = y := ⟨_, rfl⟩
          have hcy : w4.cell? ((ad.add a).add j) = some (.int .i64 y) := by
            rw [show (ad.add a).add j = ad.add (a + j) from Addr.add_add ad a j]
            exact h4.cellAt (by omega) hy
          have s1 := sq1_bd hss.out (a + j)
          have s2 := sq_bd2 hss.out (a + j)
          have s3 := sq_bd2 hss.out a
          have s4 := sq_mono hss.out (show a ≤ a + j by omega)
          have s5 : sq ss (a + (j + 1)) = sq ss (a + j) + ss.getD (a + j) 0 * ss.getD (a + j) 0 := sq_succ ss (a + j)
          rw [hy] at s1 s5
          generalize sq ss (a + j) = S1 at *
          generalize sq ss a = S0 at *
          obtain ⟨S, hS⟩ : ∃ S, S1 - S0 = S := ⟨_, rfl⟩
          rw [hS] at hG
          obtain ⟨Y, hY⟩ : ∃ Y, y * y = Y := ⟨_, rfl⟩
          rw [hY] at s1 s5
          have w1e : IntKind.i64.wrap Y = Y := IntWalk.i64_in _ (by omega)
          have w2e : IntKind.i64.wrap (S + Y) = S + Y := IntWalk.i64_in _ (by omega)
          have hc5 := hG.cell
          have hf5 := hG.frozen b
          have hG2 := hG.set_ (S + Y)
          have hfin := Lib.hid (show sq ss (a + (j + 1)) - S0 = S + Y by rw [s5]; omega)
          have i0 : (0 : Int) ≤ (b : Int) := by omega
          have i1 : (b : Int) < (q : Int) := by omega
          have i2 : (0 : Int) ≤ (j : Int) := by omega
          have i3 : (j : Int) < (z : Int) := by omega
          have hG2 := Lib.hid hG2
          have hS := Lib.hid hS
          clear s1 s2 s3 s4 s5 h4
          go_wp2
          go_roundw
          case rel => exact ⟨j + 1, _, rfl, by go_num, hjl, by rw [hfin.out]; exact hG2.out⟩
          case measure => simp [intOf]; omega
        · have hjz' : z = j := by omega
          subst hjz'
          have hF2 := Lib.hid (hG.end_ (by rw [hbv.out, hzb.1]))
          go_wp2
          go_roundw
          case rel => exact ⟨b + 1, _, rfl, by go_num, hlt, hF2.out⟩
          case measure => simp [intOf]; omega
    · have hbq' : q = b := by omega
      subst hbq'
      have hD := hF.whole
      go_wp2
      go_ret2
      exact ⟨_, rfl, by rw [hR.out]; exact hD, hb2.trans (hF.bel.mono hb2.size), Nat.le_trans hb2.size hF.new⟩
end Go.Proofs.YtfgiiidfpbpniaaDoor
