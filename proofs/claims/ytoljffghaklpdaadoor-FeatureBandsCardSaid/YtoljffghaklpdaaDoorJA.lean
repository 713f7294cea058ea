/- Edges of bands: the program's check and the document's. -/
import Derived.Test.YtoljffghaklpdaaDoorHV
namespace Go.Proofs.YtoljffghaklpdaaDoor
open Go.RowKit

/-- edges of a spectrum of m numbers -/
def EdP (es : List Int) (m : Int) : Prop := 2 ≤ es.length ∧ (∀ i, i < es.length → 0 ≤ es.getD i 0 ∧ es.getD i 0 ≤ m) ∧ ∀ i, i + 1 < es.length → es.getD i 0 < es.getD (i + 1) 0

set_option maxHeartbeats 1600000 in
theorem areEdges_any (A : Option Addr) (n c : Nat) (es : List Int) (m : Int) (w : World) (h : Sl .i64 w A n c es) :
    Calls Tryd.prog 67 #[.slice A n c, .int .i64 m] w fun e w' => ∃ b r, e = .returned (.bool b) ∧ (b = true ↔ EdP es m) ∧ w' = w.drewN r := by
  have hl := Lib.hid h.len
  have hcap := h.cap
  have htop := h.top
  go_enter Tryd.func67, Tryd.ntmps67
  go_wp2
  go_loopw [5] (fun iv wr => ∃ i r : Nat, iv = .int .i64 i ∧ 1 ≤ i ∧ (i ≤ n ∨ i = 1) ∧ Hid (∀ j, j + 1 < i → es.getD j 0 < es.getD (j + 1) 0) ∧ wr = w.drewN r) (fun iv _ => n - (intOf iv).toNat)
  case atStart => exact ⟨1, 0, rfl, Nat.le_refl _, .inr rfl, fun j hj => absurd hj (by omega), rfl⟩
  case round =>
    obtain ⟨i, r, rfl, hi1, hi2, hd, rfl⟩ := hrel
    rcases Nat.lt_or_ge i n with hlt | hge
    · obtain ⟨k, hk⟩ : ∃ k, i - 1 = k := ⟨_, rfl⟩
      have hkn : k < n := by omega
      obtain ⟨ad, x, rfl, hcx, hx⟩ := (h.drewN r).at_ hlt
      obtain ⟨ad2, y, e2, hcy, hy⟩ := (h.drewN r).at_ hkn
      injection e2 with e2
      subst e2
      have e3 : IntKind.i64.wrap ((i : Int) - 1) = (k : Int) := by rw [IntWalk.i64_in _ (by omega)]; omega
      have i0 : (0 : Int) ≤ (i : Int) := by omega
      have i1 : (i : Int) < (n : Int) := by omega
      have i2 : (0 : Int) ≤ (k : Int) := by omega
      have i3 : (k : Int) < (n : Int) := by omega
      generalize hw : w.drewN r = w1 at *
      have hw := Lib.hid hw
      by_cases hq : y < x
      · have hd2 := Lib.hid (show ∀ j, j + 1 < i + 1 → es.getD j 0 < es.getD (j + 1) 0 from fun j hj => by
          rcases Nat.lt_or_ge (j + 1) i with h9 | h9
          · exact hd.out j h9
          · obtain rfl : j = k := by omega
            rw [show j + 1 = i by omega, hx.out, hy.out]; exact hq)
        have hk := Lib.hid hk
        have hq2 : decide (x ≤ y) = false := decide_eq_false (by omega)
        go_wp2
        go_quiet (fail)
        go_wp2
        go_roundw
        case rel => exact ⟨i + 1, r + nq, by go_num, by omega, .inl hlt, hd2.out, by rw [← hw.out]; exact dr_add w r nq⟩
        case measure => simp [intOf]; omega
      · have hno := Lib.hid (show ¬ EdP es m from fun hE => by
          have := hE.2.2 k (by rw [hl.out]; omega)
          rw [show k + 1 = i by omega, hx.out, hy.out] at this
          exact hq this)
        have hk := Lib.hid hk
        have hq2 : decide (x ≤ y) = true := decide_eq_true (by omega)
        go_wp2
        go_quiet (fail)
        go_wp2
        go_ret
        exact ⟨false, r + nq, rfl, ⟨(fun e => by cases e), fun e => absurd e hno.out⟩, by rw [← hw.out]; exact dr_add w r nq⟩
    · generalize hw : w.drewN r = w1 at *
      have h1 : Sl .i64 w1 A n c es := hw ▸ h.drewN r
      have hw := Lib.hid hw
      by_cases h2 : 2 ≤ n
      · have hq2 : decide ((2 : Int) ≤ (n : Int)) = true := decide_eq_true (by omega)
        have hin : i = n := by omega
        have hA := Lib.hid (allWithin_any A n c es 0 m w1 h1)
        cases hb : allB 0 m es with
        | false =>
          rw [hb] at hA
          have hno := Lib.hid (show ¬ EdP es m from fun hE => by
            have : allB 0 m es = true := by
              unfold allB
              rw [List.all_eq_true]
              intro x hx
              obtain ⟨j, hj, rfl⟩ := List.getElem_of_mem hx
              have := hE.2.1 j hj
              rw [getD_in hj] at this
              simp [okB_iff, this.1, this.2]
            rw [hb] at this
            cases this)
          clear hb
          go_wp2_with fail
          refine hA.out.mono ?_
          rintro e w' ⟨rfl, rfl⟩
          go_wp2
          go_ret
          exact ⟨false, r, rfl, ⟨(fun e => by cases e), fun e => absurd e hno.out⟩, hw.out.symm⟩
        | true =>
          rw [hb] at hA
          have hyes := Lib.hid (show EdP es m from ⟨by rw [hl.out]; exact h2, fun j hj => allB_get hb hj rfl, fun j hj => hd.out j (by rw [hl.out] at hj; omega)⟩)
          clear hb
          go_wp2_with fail
          refine hA.out.mono ?_
          rintro e w' ⟨rfl, rfl⟩
          go_wp2
          go_ret
          exact ⟨true, r, rfl, ⟨fun _ => hyes.out, fun _ => rfl⟩, hw.out.symm⟩
      · have hno := Lib.hid (show ¬ EdP es m from fun hE => h2 (by rw [← hl.out]; exact hE.1))
        have hq2 : decide ((2 : Int) ≤ (n : Int)) = false := decide_eq_false (by omega)
        go_wp2
        go_ret
        exact ⟨false, r, rfl, ⟨(fun e => by cases e), fun e => absurd e hno.out⟩, hw.out.symm⟩

set_option maxHeartbeats 3200000 in
theorem REdges_any (A : Option Addr) (n c : Nat) (es : List Int) (m : Int) (w : World) (h : Sl .i64 w A n c es) :
    Calls Tryd.prog 33 #[.slice A n c, .int .i64 m] w fun e w' => ∃ b r, e = .returned (.bool b) ∧ (b = true ↔ EdP es m) ∧ w' = w.drewN r := by
  have hl := Lib.hid h.len
  have hcap := h.cap
  have htop := h.top
  go_enter Tryd.func33, Tryd.ntmps33
  by_cases h2 : 2 ≤ n
  · go_wp2
    go_loopw [5] (fun iv wr => ∃ i r : Nat, iv = .int .i64 i ∧ i ≤ n ∧ Hid ((∀ j, j < i → 0 ≤ es.getD j 0 ∧ es.getD j 0 ≤ m) ∧ ∀ j, j + 1 < i → es.getD j 0 < es.getD (j + 1) 0) ∧ wr = w.drewN r) (fun iv _ => n - (intOf iv).toNat)
    case atStart => exact ⟨0, 0, rfl, Nat.zero_le _, ⟨fun j hj => absurd hj (by omega), fun j hj => absurd hj (by omega)⟩, rfl⟩
    case round =>
      obtain ⟨i, r, rfl, hin, hd, rfl⟩ := hrel
      rcases Nat.lt_or_ge i n with hlt | hge
      · obtain ⟨ad, x, rfl, hcx, hx⟩ := (h.drewN r).at_ hlt
        have i0 : (0 : Int) ≤ (i : Int) := by omega
        have i1 : (i : Int) < (n : Int) := by omega
        by_cases hq : 0 ≤ x ∧ x ≤ m
        · have q1 : decide (x < 0) = false := decide_eq_false (by omega)
          have q2 : decide (m < x) = false := decide_eq_false (by omega)
          rcases Nat.eq_zero_or_pos i with hi0 | hi0
          · have hd2 := Lib.hid (show (∀ j, j < i + 1 → 0 ≤ es.getD j 0 ∧ es.getD j 0 ≤ m) ∧ ∀ j, j + 1 < i + 1 → es.getD j 0 < es.getD (j + 1) 0 from ⟨fun j hj => by
              rw [show j = i by omega, hx.out]; exact hq, fun j hj => absurd hj (by omega)⟩)
            subst hi0
            have hcx : (w.drewN r).cell? ad = some (.int .i64 x) := by rw [show ad.add 0 = ad from by unfold Addr.add; simp] at hcx; exact hcx
            generalize hw : w.drewN r = w1 at *
            have hw := Lib.hid hw
            clear hq
            go_wp2
            go_quiet (fail)
            go_wp2
            go_roundw
            case rel => exact ⟨0 + 1, r + nq, by go_num, hlt, hd2.out, by rw [← hw.out]; exact dr_add w r nq⟩
            case measure => simp [intOf]; omega
          · obtain ⟨k, hk⟩ : ∃ k, i - 1 = k := ⟨_, rfl⟩
            have hkn : k < n := by omega
            obtain ⟨ad2, y, e2, hcy, hy⟩ := (h.drewN r).at_ hkn
            injection e2 with e2
            subst e2
            have e3 : IntKind.i64.wrap ((i : Int) - 1) = (k : Int) := by rw [IntWalk.i64_in _ (by omega)]; omega
            have i2 : (0 : Int) ≤ (k : Int) := by omega
            have i3 : (k : Int) < (n : Int) := by omega
            have q3 : decide ((0 : Int) < (i : Int)) = true := decide_eq_true (by omega)
            have q5 : decide (0 < i) = true := decide_eq_true hi0
            generalize hw : w.drewN r = w1 at *
            have hw := Lib.hid hw
            by_cases hq3 : y < x
            · have hd2 := Lib.hid (show (∀ j, j < i + 1 → 0 ≤ es.getD j 0 ∧ es.getD j 0 ≤ m) ∧ ∀ j, j + 1 < i + 1 → es.getD j 0 < es.getD (j + 1) 0 from ⟨fun j hj => by
                rcases Nat.lt_or_ge j i with h9 | h9
                · exact hd.out.1 j h9
                · obtain rfl : j = i := by omega
                  rw [hx.out]; exact hq, fun j hj => by
                rcases Nat.lt_or_ge (j + 1) i with h9 | h9
                · exact hd.out.2 j h9
                · obtain rfl : j = k := by omega
                  rw [show j + 1 = i by omega, hx.out, hy.out]; exact hq3⟩)
              have hk := Lib.hid hk
              have q6 : decide (x ≤ y) = false := decide_eq_false (by omega)
              clear hq
              go_wp2
              go_quiet (fail)
              go_wp2
              go_roundw
              case rel => exact ⟨i + 1, r + nq, by go_num, hlt, hd2.out, by rw [← hw.out]; exact dr_add w r nq⟩
              case measure => simp [intOf]; omega
            · have hno := Lib.hid (show ¬ EdP es m from fun hE => by
                have := hE.2.2 k (by rw [hl.out]; omega)
                rw [show k + 1 = i by omega, hx.out, hy.out] at this
                exact hq3 this)
              have hk := Lib.hid hk
              have q6 : decide (x ≤ y) = true := decide_eq_true (by omega)
              clear hq
              go_wp2
              go_quiet (fail)
              go_wp2
              go_ret
              exact ⟨false, r + nq, rfl, ⟨(fun e => by cases e), fun e => absurd e hno.out⟩, by rw [← hw.out]; exact dr_add w r nq⟩
        · have hno := Lib.hid (show ¬ EdP es m from fun hE => by
            have := hE.2.1 i (by rw [hl.out]; omega)
            rw [hx.out] at this
            exact hq this)
          generalize hw : w.drewN r = w1 at *
          have hw := Lib.hid hw
          by_cases hx0 : x < 0
          · have q1 : decide (x < 0) = true := decide_eq_true hx0
            clear hq
            go_wp2
            go_quiet (fail)
            go_wp2
            go_ret
            exact ⟨false, r + nq, rfl, ⟨(fun e => by cases e), fun e => absurd e hno.out⟩, by rw [← hw.out]; exact dr_add w r nq⟩
          · have q1 : decide (x < 0) = false := decide_eq_false hx0
            have q2 : decide (m < x) = true := decide_eq_true (by omega)
            clear hq
            go_wp2
            go_quiet (fail)
            go_wp2
            go_ret
            exact ⟨false, r + nq, rfl, ⟨(fun e => by cases e), fun e => absurd e hno.out⟩, by rw [← hw.out]; exact dr_add w r nq⟩
      · have hin' : n = i := by omega
        have hyes := Lib.hid (show EdP es m from ⟨by rw [hl.out]; exact h2, fun j hj => hd.out.1 j (by rw [hl.out] at hj; omega), fun j hj => hd.out.2 j (by rw [hl.out] at hj; omega)⟩)
        go_wp2
        go_ret
        exact ⟨true, r, rfl, ⟨fun _ => hyes.out, fun _ => rfl⟩, rfl⟩
  · have hno := Lib.hid (show ¬ EdP es m from fun hE => h2 (by rw [← hl.out]; exact hE.1))
    go_wp2
    go_ret
    exact ⟨false, 0, rfl, ⟨(fun e => by cases e), fun e => absurd e hno.out⟩, rfl⟩
end Go.Proofs.YtoljffghaklpdaaDoor


/- Bands: the program's. -/
namespace Go.Proofs.YtoljffghaklpdaaDoor
open Go.RowKit

/-- the sum of the squares of the first k numbers -/
def sq (ss : List Int) (k : Nat) : Int := sm k fun i => ss.getD i 0 * ss.getD i 0
def bnF (ss es : List Int) (b : Nat) : Int := sq ss (es.getD (b + 1) 0).toNat - sq ss (es.getD b 0).toNat
def bnL (ss es : List Int) : List Int := tab (es.length - 1) (bnF ss es)
def BnP (ss es : List Int) : Prop := ss.length ≤ 64 ∧ allB (-16777216) 16777216 ss = true ∧ EdP es ss.length
theorem sqi_bd {x : Int} (h1 : -16777216 ≤ x) (h2 : x ≤ 16777216) : 0 ≤ x * x ∧ x * x ≤ 281474976710656 := by
  have key : ∀ y : Int, 0 ≤ y → y ≤ 16777216 → 0 ≤ y * y ∧ y * y ≤ 281474976710656 := fun y a b => by
    refine ⟨Int.mul_nonneg a a, ?_⟩
    have := Int.mul_le_mul (a := y) (b := y) (c := 16777216) (d := 16777216) b b a (by decide)
    omega
  rcases Int.le_total 0 x with h | h
  · exact key x h h2
  · have := key (-x) (by omega) (by omega)
    rwa [Int.neg_mul_neg] at this
theorem sq_succ (ss : List Int) (k : Nat) : sq ss (k + 1) = sq ss k + ss.getD k 0 * ss.getD k 0 := rfl
theorem sq1_bd {ss : List Int} (h : allB (-16777216) 16777216 ss = true) (i : Nat) : 0 ≤ ss.getD i 0 * ss.getD i 0 ∧ ss.getD i 0 * ss.getD i 0 ≤ 281474976710656 := by
  rcases Nat.lt_or_ge i ss.length with hi | hi
  · have hb := allB_get h hi rfl
    generalize ss.getD i 0 = x at *
    exact sqi_bd hb.1 hb.2
  · rw [getD_out hi]; decide
theorem sq_bd2 {ss : List Int} (h : allB (-16777216) 16777216 ss = true) (k : Nat) : 0 ≤ sq ss k ∧ sq ss k ≤ k * 281474976710656 := by
  induction k with
  | zero => exact ⟨Int.le_refl _, Int.le_refl _⟩
  | succ k ih =>
    have := sq1_bd h k
    rw [sq_succ]
    omega
theorem sq_mono {ss : List Int} (h : allB (-16777216) 16777216 ss = true) {a b : Nat} (hab : a ≤ b) : sq ss a ≤ sq ss b := sm_mono (fun j => (sq1_bd h j).1) hab

set_option maxHeartbeats 3200000 in
set_option maxRecDepth 100000 in
theorem Bands_ok (A A' : Option Addr) (n c m c' : Nat) (ss es : List Int) (w : World) (h : Sl .i64 w A n c ss) (h' : Sl .i64 w A' m c' es) (hm : m ≤ 1000) (hP : BnP ss es) :
    Calls Tryd.prog 32 #[.slice A n c, .slice A' m c'] w (RetM w (m - 1) (bnL ss es)) := by
  have hl := Lib.hid h.len
  have hl' := Lib.hid h'.len
  have hcap := h.cap
  have htop := h.top
  have hcap' := h'.cap
  have htop' := h'.top
  have hn := hP.1
  have hss := Lib.hid hP.2.1
  have hE := hP.2.2
  have hm2 := hE.1
  rw [hl.out] at hn hE
  rw [hl'.out] at hm2
  have hE1 := Lib.hid (fun i (hi : i < m) => hE.2.1 i (by rw [hl'.out]; exact hi))
  have hE2 := Lib.hid (fun i (hi : i + 1 < m) => hE.2.2 i (by rw [hl'.out]; exact hi))
  have hpos : 0 < n := by
    have e1 := hE1.out 1 (by omega)
    have e2 := hE2.out 0 (by omega)
    have e3 := hE1.out 0 (by omega)
    simp only [Nat.zero_add] at e2
    omega
  obtain ⟨q, hq⟩ : ∃ q, m - 1 = q := ⟨_, rfl⟩
  have hR := Lib.hid (show bnL ss es = tab q (bnF ss es) by unfold bnL; rw [hl'.out, hq])
  rw [hq]
  have wq : IntKind.i64.wrap ((m : Int) - 1) = (q : Int) := by rw [IntWalk.i64_in _ (by omega)]; omega
  have hEb := Lib.hid hE
  have hA := allUpTo_any A n c ss 16777216 w h (by decide) (by decide)
  rw [hss.out] at hA
  have hA := Lib.hid hA
  clear hP hE
  obtain ⟨ad, x0, rfl, _, _⟩ := h.at_ hpos
  obtain ⟨ad', x1, rfl, _, _⟩ := h'.at_ (show 0 < m by omega)
  have hmk := make_int q (by omega)
  go_enter Tryd.func32, Tryd.ntmps32
  go_wp2_with fail
  refine hA.out.mono ?_
  rintro e w' ⟨rfl, rfl⟩
  go_wp2_with fail
  refine (areEdges_any (some ad') m c' es n w h').mono ?_
  rintro e w2 ⟨b, r, rfl, hb, hw2⟩
  have hbt : b = true := hb.2 hEb.out
  subst hbt
  clear hb
  have hb2 : Below w.heap.size w w2 := by rw [hw2]; exact bel_drewN (Below.refl _ _) r
  clear hw2
  have h2 := h.below hb2
  have h2' := h'.below hb2
  go_wp2
  clear hmk
  go_loopw [31] (fun iv wr' => ∃ (b : Nat) (wr : World), wr = wr' ∧ iv = .int .i64 b ∧ b ≤ q ∧ Fill w2 wr w2.heap.size 3 q b (bnF ss es)) (fun iv _ => q - (intOf iv).toNat)
  case atStart => exact ⟨0, _, rfl, rfl, Nat.zero_le _, Fill.start (Below.refl _ _) rfl⟩
  case round =>
    obtain ⟨b, wr, rfl, rfl, hbq, hF⟩ := hrel
    rcases Nat.lt_or_ge b q with hlt | hge
    · have hr := h2.below hF.bel
      have hr' := h2'.below hF.bel
      have hFA := hF.begin_ hlt
      have x1 := hE1.out b (by omega)
      have x2 := hE1.out (b + 1) (by omega)
      have x3 := hE2.out b (by omega)
      obtain ⟨a, ha⟩ : ∃ a : Nat, es.getD b 0 = a := ⟨(es.getD b 0).toNat, by omega⟩
      obtain ⟨d, hd⟩ : ∃ d : Nat, es.getD (b + 1) 0 = d := ⟨(es.getD (b + 1) 0).toNat, by omega⟩
      obtain ⟨b1, hb1⟩ : ∃ b1, b + 1 = b1 := ⟨_, rfl⟩
      rw [ha] at x1 x3
      rw [hd] at x2 x3
      have hca : wr.cell? (ad'.add b) = some (.int .i64 (a : Int)) := hr'.cellAt (by omega) ha
      have hcd : wr.cell? (ad'.add b1) = some (.int .i64 (d : Int)) := hr'.cellAt (by omega) (by rw [← hb1]; exact hd)
      have e1 : IntKind.i64.wrap ((b : Int) + 1) = (b1 : Int) := by rw [IntWalk.i64_in _ (by omega)]; omega
      have i0 : (0 : Int) ≤ (b : Int) := by omega
      have i1 : (b : Int) < (m : Int) := by omega
      have i2 : (0 : Int) ≤ (b1 : Int) := by omega
      have i3 : (b1 : Int) < (m : Int) := by omega
      have i4 : (0 : Int) ≤ (a : Int) := by omega
      have i5 : (a : Int) ≤ (d : Int) := by omega
      have i6 : (d : Int) ≤ (n : Int) := by omega
      have i7 : (d : Int) ≤ (c : Int) := by omega
      have i8 : ¬ c = a := by omega
      have i9 : ¬ (c : Int) = (a : Int) := by omega
      have hbv := Lib.hid (show bnF ss es b = sq ss d - sq ss a by unfold bnF; rw [ha, hd]; rfl)
      have hb1 := Lib.hid hb1
      have ha := Lib.hid ha
      have hd := Lib.hid hd
      clear x1 x2
      go_wp2
      go_quiet (fail)
      have hGA := hFA.drewN nq
      generalize wr.drewN nq = w3 at *
      obtain ⟨z, hz⟩ : ∃ z, d - a = z := ⟨_, rfl⟩
      obtain ⟨C2, hC2⟩ : ∃ C2, c - a = C2 := ⟨_, rfl⟩
      have hzb : a + z = d ∧ z ≤ 64 := by omega
      rw [hz, hC2]
      have hz := Lib.hid hz
      have hC2 := Lib.hid hC2
      have hdn : d ≤ n := by omega
      clear e1 i0 i1 i2 i3 i4 i5 i6 i7 i8 i9 hca hcd hF hFA hr hr' x3
      go_wp2
      go_loopw [46] (fun jv w4' => ∃ (j : Nat) (w4 : World), w4 = w4' ∧ jv = .int .i64 j ∧ j ≤ z ∧ FillA w2 w4 w2.heap.size 3 q b (sq ss (a + j) - sq ss a) (bnF ss es)) (fun jv _ => z - (intOf jv).toNat)
      case atStart => exact ⟨0, _, rfl, rfl, Nat.zero_le _, by rw [Nat.add_zero, Int.sub_self]; exact hGA⟩
      case round =>
        obtain ⟨j, w4, rfl, rfl, hjz, hG⟩ := hrel
        rcases Nat.lt_or_ge j z with hjl | hjg
        · have h4 := h2.below hG.bel
          obtain ⟨y, hy⟩ : ∃ y, ss.getD (a + j) 0 = y := ⟨_, rfl⟩
          have hcy : w4.cell? ((ad.add a).add j) = some (.int .i64 y) := by
            rw [show (ad.add a).add j = ad.add (a + j) from Addr.add_add ad a j]
            exact h4.cellAt (by omega) hy
          have s1 := sq1_bd hss.out (a + j)
          have s2 := sq_bd2 hss.out (a + j)
          have s3 := sq_bd2 hss.out a
          have s4 := sq_mono hss.out (show a ≤ a + j by omega)
          have s5 : sq ss (a + (j + 1)) = sq ss (a + j) + ss.getD (a + j) 0 * ss.getD (a + j) 0 := sq_succ ss (a + j)
          rw [hy] at s1 s5
          generalize sq ss (a + j) = S1 at *
          generalize sq ss a = S0 at *
          obtain ⟨S, hS⟩ : ∃ S, S1 - S0 = S := ⟨_, rfl⟩
          rw [hS] at hG
          obtain ⟨Y, hY⟩ : ∃ Y, y * y = Y := ⟨_, rfl⟩
          rw [hY] at s1 s5
          have w1e : IntKind.i64.wrap Y = Y := IntWalk.i64_in _ (by omega)
          have w2e : IntKind.i64.wrap (S + Y) = S + Y := IntWalk.i64_in _ (by omega)
          have hc5 := hG.cell
          have hf5 := hG.frozen b
          have hG2 := hG.set_ (S + Y)
          have hfin := Lib.hid (show sq ss (a + (j + 1)) - S0 = S + Y by rw [s5]; omega)
          have i0 : (0 : Int) ≤ (b : Int) := by omega
          have i1 : (b : Int) < (q : Int) := by omega
          have i2 : (0 : Int) ≤ (j : Int) := by omega
          have i3 : (j : Int) < (z : Int) := by omega
          have hG2 := Lib.hid hG2
          have hS := Lib.hid hS
          clear s1 s2 s3 s4 s5 h4
          go_wp2
          go_roundw
          case rel => exact ⟨j + 1, _, rfl, by go_num, hjl, by rw [hfin.out]; exact hG2.out⟩
          case measure => simp [intOf]; omega
        · have hjz' : z = j := by omega
          subst hjz'
          have hF2 := Lib.hid (hG.end_ (by rw [hbv.out, hzb.1]))
          go_wp2
          go_roundw
          case rel => exact ⟨b + 1, _, rfl, by go_num, hlt, hF2.out⟩
          case measure => simp [intOf]; omega
    · have hbq' : q = b := by omega
      subst hbq'
      have hD := hF.whole
      go_wp2
      go_ret2
      exact ⟨_, rfl, by rw [hR.out]; exact hD, hb2.trans (hF.bel.mono hb2.size), Nat.le_trans hb2.size hF.new⟩
end Go.Proofs.YtoljffghaklpdaaDoor


/- Bands: what is refused, and the document's. -/
namespace Go.Proofs.YtoljffghaklpdaaDoor
open Go.RowKit

set_option maxHeartbeats 3200000 in
theorem Bands_bad (A A' : Option Addr) (n c m c' : Nat) (ss es : List Int) (w : World) (h : Sl .i64 w A n c ss) (h' : Sl .i64 w A' m c' es) (hP : ¬ BnP ss es) :
    Calls Tryd.prog 32 #[.slice A n c, .slice A' m c'] w (RetN w 2) := by
  have hl := Lib.hid h.len
  have hcap := h.cap
  have htop := h.top
  have hA := allUpTo_any A n c ss 16777216 w h (by decide) (by decide)
  rcases Nat.lt_or_ge 64 n with hn | hn
  · clear hA
    go_enter Tryd.func32, Tryd.ntmps32
    go_wp2
    go_ret2
    exact ⟨rfl, Below.refl _ _⟩
  cases hb : allB (-16777216) 16777216 ss with
  | false =>
    rw [hb] at hA
    have hA := Lib.hid hA
    clear hb
    go_enter Tryd.func32, Tryd.ntmps32
    go_wp2_with fail
    refine hA.out.mono ?_
    rintro e w' ⟨rfl, rfl⟩
    go_wp2
    go_ret2
    exact ⟨rfl, Below.refl _ _⟩
  | true =>
    rw [hb] at hA
    have hA := Lib.hid hA
    have hE := Lib.hid (show ¬ EdP es n from fun hE => hP ⟨by rw [hl.out]; exact hn, hb, by rw [hl.out]; exact hE⟩)
    clear hb hP
    go_enter Tryd.func32, Tryd.ntmps32
    go_wp2_with fail
    refine hA.out.mono ?_
    rintro e w' ⟨rfl, rfl⟩
    go_wp2_with fail
    refine (areEdges_any A' m c' es n w h').mono ?_
    rintro e w2 ⟨b, r, rfl, hb, hw2⟩
    have hbt : b = false := by
      cases b
      · rfl
      · exact absurd (hb.1 rfl) hE.out
    subst hbt
    have hb2 : Below w.heap.size w w2 := by rw [hw2]; exact bel_drewN (Below.refl _ _) r
    clear hb hw2
    go_wp2
    go_ret2
    exact ⟨rfl, hb2⟩

set_option maxHeartbeats 1600000 in
theorem REnergyC (ad : Addr) (z c : Nat) (f : Nat → Int) (w : World) (hz : z ≤ 64) (hcap : z ≤ c) (htop : c ≤ 9223372036854775807) (h : ∀ j, j < z → w.cell? (ad.add j) = some (.int .i64 (f j))) (hf : ∀ j, -16777216 ≤ f j ∧ f j ≤ 16777216) :
    Calls Tryd.prog 68 #[.slice (some ad) z c] w fun e w' => e = .returned (.int .i64 (sm z fun j => f j * f j)) ∧ ∃ r, w' = w.drewN r := by
  have h := Lib.hid h
  have hbd := Lib.hid (fun j => sqi_bd (hf j).1 (hf j).2)
  have hsb := Lib.hid (fun k => sm_bd (m := 281474976710656) (n := k) (f := fun j => f j * f j) (fun i _ => ⟨by have := (sqi_bd (hf i).1 (hf i).2).1; omega, (sqi_bd (hf i).1 (hf i).2).2⟩))
  clear hf
  go_enter Tryd.func68, Tryd.ntmps68
  go_wp2
  go_loopw [3, 4] (fun sv iv wr => ∃ k r : Nat, iv = .int .i64 k ∧ k ≤ z ∧ sv = .int .i64 (sm k fun j => f j * f j) ∧ wr = w.drewN r) (fun _ iv _ => z - (intOf iv).toNat)
  case atStart => exact ⟨0, 0, rfl, Nat.zero_le _, rfl, rfl⟩
  case round =>
    obtain ⟨k, r, rfl, hk, rfl, rfl⟩ := hrel
    rcases Nat.lt_or_ge k z with hlt | hge
    · obtain ⟨x, hx⟩ : ∃ x, f k = x := ⟨_, rfl⟩
      have hc : (w.drewN r).cell? (ad.add k) = some (.int .i64 x) := by rw [← hx]; exact h.out k hlt
      have s1 := hbd.out k
      have s2 := hsb.out k
      have hstep := Lib.hid (show (sm (k + 1) fun j => f j * f j) = (sm k fun j => f j * f j) + x * x by rw [← hx]; rfl)
      rw [hx] at s1
      generalize (sm k fun j => f j * f j) = S at *
      obtain ⟨Y, hY⟩ : ∃ Y, x * x = Y := ⟨_, rfl⟩
      rw [hY] at s1 hstep
      have w1e : IntKind.i64.wrap Y = Y := IntWalk.i64_in _ (by omega)
      have w2e : IntKind.i64.wrap (S + Y) = S + Y := IntWalk.i64_in _ (by omega)
      have i0 : (0 : Int) ≤ (k : Int) := by omega
      have i1 : (k : Int) < (z : Int) := by omega
      generalize hw : w.drewN r = w1 at *
      have hw := Lib.hid hw
      have hx := Lib.hid hx
      clear s1 s2
      go_wp2
      go_quiet (fail)
      go_wp2
      go_roundw
      case rel => exact ⟨k + 1, r + nq, by go_num, hlt, by rw [hstep.out], by rw [← hw.out]; exact dr_add w r nq⟩
      case measure => simp [intOf]; omega
    · have hkz : z = k := by omega
      subst hkz
      go_wp2
      go_ret
      exact ⟨rfl, r, rfl⟩

theorem sq_part (ss : List Int) (a : Nat) : ∀ z, (sm z fun j => ss.getD (a + j) 0 * ss.getD (a + j) 0) = sq ss (a + z) - sq ss a := by
  intro z
  induction z with
  | zero => show 0 = sq ss a - sq ss a; omega
  | succ z ih =>
    show (sm z fun j => ss.getD (a + j) 0 * ss.getD (a + j) 0) + ss.getD (a + z) 0 * ss.getD (a + z) 0 = _
    rw [ih, show a + (z + 1) = (a + z) + 1 from rfl, sq_succ]
    omega
theorem in24 {ss : List Int} (h : allB (-16777216) 16777216 ss = true) (i : Nat) : -16777216 ≤ ss.getD i 0 ∧ ss.getD i 0 ≤ 16777216 := by
  rcases Nat.lt_or_ge i ss.length with hi | hi
  · exact allB_get h hi rfl
  · rw [getD_out hi]; decide

set_option maxHeartbeats 3200000 in
set_option maxRecDepth 100000 in
theorem RBands_any (A A' : Option Addr) (n c m c' : Nat) (ss es : List Int) (w : World) (h : Sl .i64 w A n c ss) (h' : Sl .i64 w A' m c' es) (hm : m ≤ 1000) (hP : BnP ss es) :
    Calls Tryd.prog 34 #[.slice A n c, .slice A' m c'] w fun e w' => ∃ A2 c2, e = .returned (.slice A2 (m - 1) c2) ∧ Sl .i64 w' A2 (m - 1) c2 (bnL ss es) ∧ Below w.heap.size w w' := by
  have hl := Lib.hid h.len
  have hl' := Lib.hid h'.len
  have hcap := h.cap
  have htop := h.top
  have hcap' := h'.cap
  have htop' := h'.top
  have hn := hP.1
  have hss := Lib.hid hP.2.1
  have hE := hP.2.2
  have hm2 := hE.1
  rw [hl.out] at hn hE
  rw [hl'.out] at hm2
  have hE1 := Lib.hid (fun i (hi : i < m) => hE.2.1 i (by rw [hl'.out]; exact hi))
  have hE2 := Lib.hid (fun i (hi : i + 1 < m) => hE.2.2 i (by rw [hl'.out]; exact hi))
  have hpos : 0 < n := by
    have e1 := hE1.out 1 (by omega)
    have e2 := hE2.out 0 (by omega)
    have e3 := hE1.out 0 (by omega)
    simp only [Nat.zero_add] at e2
    omega
  obtain ⟨q, hq⟩ : ∃ q, m - 1 = q := ⟨_, rfl⟩
  have hR := Lib.hid (show bnL ss es = tab q (bnF ss es) by unfold bnL; rw [hl'.out, hq])
  rw [hq]
  clear hP hE
  obtain ⟨ad, x0, rfl, _, _⟩ := h.at_ hpos
  obtain ⟨ad', x1, rfl, _, _⟩ := h'.at_ (show 0 < m by omega)
  obtain ⟨i0, hi, hz0, hz1, hz2⟩ := info_parts info_int
  go_enter Tryd.func34, Tryd.ntmps34
  go_wp2
  go_loopw [5, 6] (fun ov iv wr' => ∃ (b : Nat) (V : Value) (wr : World), wr = wr' ∧ iv = .int .i64 b ∧ V = ov ∧ b ≤ q ∧ wr.ownsRow w.heap.size 3 1 V b (ivs .i64 (tab b (bnF ss es))) ∧ Below w.heap.size w wr) (fun _ iv _ => q - (intOf iv).toNat)
  case atStart => exact ⟨0, _, _, rfl, rfl, rfl, Nat.zero_le _, World.ownsRow_nil _ _ _ _, Below.refl _ _⟩
  case round =>
    obtain ⟨b, V, wr, rfl, rfl, rfl, hbq, hown, hbel⟩ := hrel
    obtain ⟨AV, cV, rfl⟩ := own_slice hown
    obtain ⟨b1, hb1⟩ : ∃ b1, b + 1 = b1 := ⟨_, rfl⟩
    have e1 : IntKind.i64.wrap ((b : Int) + 1) = (b1 : Int) := by rw [IntWalk.i64_in _ (by omega)]; omega
    rcases Nat.lt_or_ge b q with hlt | hge
    · have x1 := hE1.out b (by omega)
      have x2 := hE1.out (b + 1) (by omega)
      have x3 := hE2.out b (by omega)
      obtain ⟨a, ha⟩ : ∃ a : Nat, es.getD b 0 = a := ⟨(es.getD b 0).toNat, by omega⟩
      obtain ⟨d, hd⟩ : ∃ d : Nat, es.getD (b + 1) 0 = d := ⟨(es.getD (b + 1) 0).toNat, by omega⟩
      rw [ha] at x1 x3
      rw [hd] at x2 x3
      have hKeep := Lib.hid (fun (wx : World) (hb : Below w.heap.size w wx) => show wx.cell? (ad'.add b) = some (.int .i64 (a : Int)) ∧ wx.cell? (ad'.add b1) = some (.int .i64 (d : Int)) from ⟨(h'.below hb).cellAt (by omega) ha, (h'.below hb).cellAt (by omega) (by rw [← hb1]; exact hd)⟩)
      have hdn : d ≤ n := by omega
      have had : a < d := by omega
      have i0' : (0 : Int) ≤ (b : Int) := by omega
      have i1 : (b : Int) < (m : Int) := by omega
      have i2 : (0 : Int) ≤ (b1 : Int) := by omega
      have i3 : (b1 : Int) < (m : Int) := by omega
      have i4 : (0 : Int) ≤ (a : Int) := by omega
      have i5 : (a : Int) ≤ (d : Int) := by omega
      have i6 : (d : Int) ≤ (n : Int) := by omega
      have i7 : (d : Int) ≤ (c : Int) := by omega
      have i8 : ¬ c = a := by omega
      have i10 : (b1 : Int) < (m : Int) := by omega
      have hbv := Lib.hid (show bnF ss es b = sm (d - a) fun j => ss.getD (a + j) 0 * ss.getD (a + j) 0 by
        rw [sq_part, show a + (d - a) = d by omega]
        unfold bnF; rw [ha, hd]; rfl)
      have hb1 := Lib.hid hb1
      have ha := Lib.hid ha
      have hd := Lib.hid hd
      clear x1 x2 x3
      have hEn := Lib.hid (fun (wx : World) (hb : Below w.heap.size w wx) => REnergyC (ad.add a) (d - a) (c - a) (fun j => ss.getD (a + j) 0) wx (by omega) (by omega) (by omega) (fun j hj => by
        rw [Addr.add_add]
        exact (h.below hb).cellAt (by omega) rfl) (fun j => in24 hss.out (a + j)))
      have hbd : Below w.heap.size w wr.drew := bel_drewN hbel 1
      have hownd : wr.drew.ownsRow w.heap.size 3 1 (.slice AV b cV) b (ivs .i64 (tab b (bnF ss es))) := hown
      go_wp2
      go_region_held3 (fun wx => wx.cell? (ad'.add b) = some (.int .i64 (a : Int)) ∧ wx.cell? (ad'.add b1) = some (.int .i64 (d : Int))) (first | exact hKeep.out _ hbd | exact hKeep.out _ hb5 | exact hKeep.out _ (hb5.alloc hb5.size _) | exact hKeep.out _ hb6 | exact hKeep.out _ hbel | go_keep)
        (first
          | (go_at_call 68; refine (hEn.out _ hbd).mono ?_; rintro e w5 ⟨rfl, r5, hw5⟩; have hb5 : Below w.heap.size w w5 := (by rw [hw5]; exact bel_drewN hbd r5); have hown5 : w5.ownsRow w.heap.size 3 1 (.slice AV b cV) b (ivs .i64 (tab b (bnF ss es))) := (by rw [hw5]; exact hownd); have hs5 : w.heap.size ≤ w5.heap.size := hb5.size; have hrow := Lib.hid (fun k (hk : (Value.slice AV b cV).ownBlock = some k) => (hown5.lt k hk).1); clear hw5; rw [← hbv.out])
          | (refine step_append_lies _ (by rfl) _ _ _ (by rfl) w.heap.size 3 i0 (.int .i64 0) 1 8 Tryd.underlying30 hi hz0 hz1 hz2 (by rfl) (by decide) (.slice AV b cV) b (ivs .i64 (tab b (bnF ss es))) (by rfl) (hown5.alloc _) ⟨w5.heap.size, 0, none⟩ 1 1 [.int .i64 (bnF ss es b)] (by rfl) (by rfl) (news_one _ _ _) (oneCell1 _) (by omega) (by unfold maxLen; omega) (by omega) (by simp; omega) _ rfl ?_; intro g cap w6 hown6 hgrow hat hlt6; have hb6 : Below w.heap.size w w6 := (hb5.alloc hs5 _).grown hgrow (by simp; omega) hrow.out))
      have hown7 : w6.ownsRow w.heap.size 3 1 (.slice (some ⟨g, 0, none⟩) (b + 1) cap) (b + 1) (ivs .i64 (tab (b + 1) (bnF ss es))) := by rw [tab_succ, ivs_snoc]; exact hown6
      clear e1 hown6 i0' i1 i2 i3 i4 i5 i6 i7 i8 i10
      go_wp2
      go_roundw
      case rel => exact ⟨b + 1, _, _, rfl, by go_num, rfl, hlt, by rw [← hb1.out]; exact hown7, hb6⟩
      case measure => simp [intOf]; omega
    · have hbq' : q = b := by omega
      subst hbq'
      have hno : ¬ (b1 : Int) < (m : Int) := by omega
      obtain ⟨A2, c2, e2, hS2⟩ := Sl.of_own hown
      injection e2 with e3 e4 e5
      subst e3 e5
      go_wp2
      go_ret
      exact ⟨_, _, rfl, by rw [hR.out]; exact hS2, hbel⟩
end Go.Proofs.YtoljffghaklpdaaDoor


/- Bands of spectra: the law's walk. -/
namespace Go.Proofs.YtoljffghaklpdaaDoor
open Go.RowKit

theorem bn_sum {ss es : List Int} (k : Nat) : sm k (bnF ss es) = sq ss (es.getD k 0).toNat - sq ss (es.getD 0 0).toNat := by
  induction k with
  | zero => show 0 = _; omega
  | succ k ih => show sm k (bnF ss es) + bnF ss es k = _; rw [ih]; unfold bnF; omega
theorem bn_two {ss : List Int} {a d : Nat} (had : a < d) (hd : d ≤ ss.length) (h1 : ss.length ≤ 64) (h2 : allB (-16777216) 16777216 ss = true) : BnP ss [(a : Int), (d : Int)] :=
  ⟨h1, h2, Nat.le_refl _, fun i hi => by
    rcases i with _ | _ | i
    · show 0 ≤ (a : Int) ∧ (a : Int) ≤ _; omega
    · show 0 ≤ (d : Int) ∧ (d : Int) ≤ _; omega
    · exact absurd hi (by show ¬ i + 1 + 1 < 2; omega), fun i hi => by
    rcases i with _ | i
    · show (a : Int) < (d : Int); omega
    · exact absurd hi (by show ¬ i + 1 + 1 < 2; omega)⟩

set_option maxHeartbeats 6400000 in
set_option maxRecDepth 100000 in
theorem bands_law (A : Option Addr) (n c : Nat) (ss : List Int) (A' : Option Addr) (m c' : Nat) (es : List Int) (w : World) (h : Sl .i64 w A n c ss) (h' : Sl .i64 w A' m c' es) (hT : Tab w) :
    Calls Tryd.prog 8 #[.slice A n c, .slice A' m c'] w (YesF w) := by
  have hl := Lib.hid h.len
  have hl' := Lib.hid h'.len
  have hcap := h.cap
  have htop := h.top
  have hcap' := h'.cap
  have htop' := h'.top
  rcases Nat.lt_or_ge 70 n with hn70 | hn70
  · go_enter Tryd.func8, Tryd.ntmps8
    go_wp2_with fail
    refine (known_any _ hT).mono ?_
    rintro e w99 ⟨rfl, hb99⟩
    go_wp2
    go_ret
    exact ⟨rfl, hb99⟩
  rcases Nat.lt_or_ge 70 m with hm70 | hm70
  · go_enter Tryd.func8, Tryd.ntmps8
    go_wp2_with fail
    refine (known_any _ hT).mono ?_
    rintro e w99 ⟨rfl, hb99⟩
    go_wp2
    go_ret
    exact ⟨rfl, hb99⟩
  by_cases hP : BnP ss es
  · have hn := hP.1
    have hss := Lib.hid hP.2.1
    have hE := hP.2.2
    have hm2 := hE.1
    rw [hl.out] at hn hE
    rw [hl'.out] at hm2
    have hE1 := Lib.hid (fun i (hi : i < m) => hE.2.1 i (by rw [hl'.out]; exact hi))
    have hE2 := Lib.hid (fun i (hi : i + 1 < m) => hE.2.2 i (by rw [hl'.out]; exact hi))
    have hEb := Lib.hid hE
    have hPb := Lib.hid hP
    have hlast : ∀ k, 0 < k → k < m → es.getD 0 0 < es.getD k 0 := by
      intro k
      induction k with
      | zero => intro h9; omega
      | succ k ih =>
        intro _ h9
        have e1 := hE2.out k h9
        rcases Nat.eq_zero_or_pos k with e | e
        · subst e; exact e1
        · have := ih e (by omega); omega
    have hmono : ∀ k, k < m → es.getD 0 0 ≤ es.getD k 0 := by
      intro k h9
      rcases Nat.eq_zero_or_pos k with e | e
      · subst e; exact Int.le_refl _
      · have := hlast k e h9; omega
    have hmono := Lib.hid hmono
    obtain ⟨q, hq⟩ : ∃ q, m - 1 = q := ⟨_, rfl⟩
    have hq1 : q < m := by omega
    have hq2 : q ≤ 70 := by omega
    have x1 := hE1.out 0 (by omega)
    have x2 := hE1.out q (by omega)
    have x3 := hlast q (by omega) (by omega)
    obtain ⟨a, ha⟩ : ∃ a : Nat, es.getD 0 0 = a := ⟨(es.getD 0 0).toNat, by omega⟩
    obtain ⟨d, hd⟩ : ∃ d : Nat, es.getD q 0 = d := ⟨(es.getD q 0).toNat, by omega⟩
    rw [ha] at x1 x3
    rw [hd] at x2 x3
    have had : a < d := by omega
    have hdn : d ≤ n := by omega
    have hP2 := Lib.hid (bn_two had (by rw [hl.out]; exact hdn) (by rw [hl.out]; exact hn) hss.out)
    obtain ⟨T, hTt⟩ : ∃ T, sq ss d - sq ss a = T := ⟨_, rfl⟩
    have hone := Lib.hid (show bnL ss [(a : Int), (d : Int)] = [T] from by
      show tab 1 (bnF ss [(a : Int), (d : Int)]) = [T]
      show [sq ss (Int.toNat (d : Int)) - sq ss (Int.toNat (a : Int))] = [T]
      rw [Int.toNat_natCast, Int.toNat_natCast, hTt])
    have hsum := Lib.hid (show sm q (bnF ss es) = T by rw [bn_sum, ha, hd, Int.toNat_natCast, Int.toNat_natCast, hTt])
    have hbd := Lib.hid (fun k (hk : k < m) => show 0 ≤ sm k (bnF ss es) ∧ sm k (bnF ss es) ≤ 18014398509481984 by
      rw [bn_sum]
      have y1 := hE1.out k hk
      have y2 := sq_bd2 hss.out (es.getD k 0).toNat
      have y3 := sq_bd2 hss.out (es.getD 0 0).toNat
      have y4 := sq_mono hss.out (a := (es.getD 0 0).toNat) (b := (es.getD k 0).toNat) (by have := hmono.out k hk; omega)
      have y5 : (es.getD k 0).toNat ≤ 64 := by omega
      omega)
    have hqq := Lib.hid hq
    have w1e : IntKind.i64.wrap ((m : Int) - 1) = (q : Int) := by rw [IntWalk.i64_in _ (by omega)]; omega
    have hTt := Lib.hid hTt
    have hA := All_any A n c ss (-16777216) 16777216
    rw [hss.out] at hA
    have hA := Lib.hid hA
    obtain ⟨ad', x9, rfl, _, _⟩ := h'.at_ (show 0 < m by omega)
    have hbl := Lib.hid (show (bnL ss es).length = q by unfold bnL; rw [tab_len, hl'.out, hq])
    have hbat := Lib.hid (fun k (hk : k < q) => show (bnL ss es).getD k 0 = bnF ss es k by unfold bnL; rw [hl'.out, hq]; exact tab_getD hk)
    have hBo := Bands_ok A (some ad') n c m c' ss es w h h' (by omega) hPb.out
    rw [hq] at hBo
    have hBo := Lib.hid hBo
    have hRB := Lib.hid (fun w9 h9 h9' => by have e9 := RBands_any A (some ad') n c m c' ss es w9 h9 h9' (by omega) hPb.out; rw [hq] at e9; exact e9)
    clear hP hE hq x1 x2 x3 hlast
    go_enter Tryd.func8, Tryd.ntmps8
    go_wp2_with fail
    refine hBo.out.mono ?_
    rintro e w2 ⟨g2, rfl, hM2, hb2, hg2⟩
    have h2 := h.below hb2
    have h2' := h'.below hb2
    go_wp2_with fail
    refine (hA.out w2 h2).mono ?_
    rintro e w3 ⟨rfl, rfl⟩
    go_wp2_with fail
    refine (REdges_any (some ad') m c' es n w2 h2').mono ?_
    rintro e w4 ⟨b, r4, rfl, hb, hw4⟩
    have hbt : b = true := hb.2 hEb.out
    subst hbt
    clear hb
    have hb24 : Below w2.heap.size w2 w4 := by rw [hw4]; exact bel_drewN (Below.refl _ _) r4
    clear hw4
    have hb4 := hb2.trans (hb24.mono hb2.size)
    have h4 := h.below hb4
    have h4' := h'.below hb4
    have hM4 := hM2.below hb24
    go_wp2_with fail
    refine (hRB.out w4 h4 h4').mono ?_
    rintro e w5 ⟨A5, c5, rfl, hS5, hb45⟩
    have hb5 := hb4.trans (hb45.mono hb4.size)
    have hSb5 := (hM4.below hb45).sl hbl.out (by omega)
    go_wp2_with fail
    refine (Same_bel _ _ _ _ _ _ _ _ hSb5 hS5).mono ?_
    rintro e w6 ⟨rfl, hb56⟩
    have hb6 := hb5.trans (hb56.mono hb5.size)
    have hKeep := Lib.hid (fun (wx : World) (hb : Below w.heap.size w wx) => show wx.cell? ad' = some (.int .i64 (a : Int)) ∧ wx.cell? (ad'.add q) = some (.int .i64 (d : Int)) from ⟨by
        have e9 := (h'.below hb).cellAt (j := 0) (by omega) ha
        rw [show ad'.add 0 = ad' from by unfold Addr.add; simp] at e9
        exact e9, (h'.below hb).cellAt (by have := hqq.out; omega) hd⟩)
    have hb6d : Below w.heap.size w w6.drew := bel_drewN hb6 1
    have hb7 : Below w.heap.size w (w6.drew.alloc (.cells #[.int .i64 (a : Int), .int .i64 (d : Int)] 3)) := hb6d.alloc hb6d.size _
    have hlit : Sl .i64 (w6.drew.alloc (.cells #[.int .i64 (a : Int), .int .i64 (d : Int)] 3)) (some ⟨w6.heap.size, 0, none⟩) 2 2 [(a : Int), (d : Int)] := (Mk.new w6.drew 3 .i64 [(a : Int), (d : Int)]).sl rfl (by decide)
    have h7 := h.below hb7
    have hB7 := Lib.hid (Bands_ok A (some ⟨w6.heap.size, 0, none⟩) n c 2 2 ss [(a : Int), (d : Int)] _ h7 hlit (by decide) hP2.out)
    have hb67 : Below w6.heap.size w6 (w6.drew.alloc (.cells #[.int .i64 (a : Int), .int .i64 (d : Int)] 3)) := (bel_drewN (Below.refl w6.heap.size w6) 1).alloc (Nat.le_refl _) _
    have hm0 : 0 < m := by omega
    have i2 : (0 : Int) ≤ (q : Int) := by omega
    have i3 : (q : Int) < (m : Int) := by have := hqq.out; omega
    have ha := Lib.hid ha
    have hd := Lib.hid hd
    clear hlit h7
    go_wp2
    go_region_held3 (fun wx => wx.cell? ad' = some (.int .i64 (a : Int)) ∧ wx.cell? (ad'.add q) = some (.int .i64 (d : Int))) (first | exact hKeep.out _ hb6 | exact hKeep.out _ hb6d | exact hKeep.out _ hb7 | exact hKeep.out _ hb8 | go_keep)
      (first | (go_at_call 32; refine hB7.out.mono ?_; rintro e w8 ⟨g8, rfl, hM8, hb78, hg8⟩; have hb8 := hb7.trans (hb78.mono hb7.size)))
    have hMb8 := (((hM4.below hb45).below hb56).below hb67).below hb78
    rw [hone.out] at hM8
    have hc8 := hM8.cell (i := 0) (show 0 < [T].length from Nat.zero_lt_one)
    have hT8 := hT.below hb8
    clear i2 i3 w1e
    go_wp2
    go_loop [9, 10] (fun sv kv => ∃ k : Nat, kv = .int .i64 k ∧ sv = .int .i64 (sm k (bnF ss es)) ∧ k ≤ q) (fun _ kv => q - (intOf kv).toNat)
    case atStart => exact ⟨0, rfl, rfl, Nat.zero_le _⟩
    case round =>
      obtain ⟨k, rfl, rfl, hkq⟩ := hrel
      rcases Nat.lt_or_ge k q with hlt | hge
      · have hck := hMb8.cell (i := k) (by rw [hbl.out]; exact hlt)
        rw [hbat.out k hlt] at hck
        have s1 := hbd.out k (by omega)
        have s2 := hbd.out (k + 1) (by have := hqq.out; omega)
        have hstep : sm (k + 1) (bnF ss es) = sm k (bnF ss es) + bnF ss es k := rfl
        rw [hstep] at s2
        have hstep := Lib.hid hstep
        generalize sm k (bnF ss es) = S at *
        generalize bnF ss es k = y at *
        have w2e : IntKind.i64.wrap (S + y) = S + y := IntWalk.i64_in _ (by omega)
        have i0 : (0 : Int) ≤ (k : Int) := by omega
        have i1 : (k : Int) < (q : Int) := by omega
        clear s1 s2
        go_wp2
        go_round
        case rel => exact ⟨k + 1, by go_num, by rw [hstep.out], hlt⟩
        case measure => simp [intOf]; omega
      · have hkq' : q = k := by omega
        subst hkq'
        rw [hsum.out]
        go_wp2_with fail
        refine (known_any _ hT8).mono ?_
        rintro e w99 ⟨rfl, hb99⟩
        go_wp2
        go_ret
        exact ⟨rfl, hb8.trans (hb99.mono hb8.size)⟩
  · rcases Nat.lt_or_ge 64 n with hn | hn
    · have hP := Lib.hid hP
      go_enter Tryd.func8, Tryd.ntmps8
      go_wp2_with fail
      refine (Bands_bad A A' n c m c' ss es w h h' hP.out).mono ?_
      rintro e w2 ⟨rfl, hb2⟩
      have h2 := h.below hb2
      have h2' := h'.below hb2
      have hT2 := hT.below hb2
      go_wp2_with fail
      refine (known_any _ hT2).mono ?_
      rintro e w99 ⟨rfl, hb99⟩
      go_wp2
      go_ret
      exact ⟨rfl, hb2.trans (hb99.mono hb2.size)⟩
    cases hb : allB (-16777216) 16777216 ss with
    | false =>
      have hP := Lib.hid hP
      have hA := All_any A n c ss (-16777216) 16777216
      rw [hb] at hA
      have hA := Lib.hid hA
      clear hb
      go_enter Tryd.func8, Tryd.ntmps8
      go_wp2_with fail
      refine (Bands_bad A A' n c m c' ss es w h h' hP.out).mono ?_
      rintro e w2 ⟨rfl, hb2⟩
      have h2 := h.below hb2
      have h2' := h'.below hb2
      have hT2 := hT.below hb2
      go_wp2_with fail
      refine (hA.out w2 h2).mono ?_
      rintro e w3 ⟨rfl, rfl⟩
      go_wp2_with fail
      refine (known_any _ hT2).mono ?_
      rintro e w99 ⟨rfl, hb99⟩
      go_wp2
      go_ret
      exact ⟨rfl, hb2.trans (hb99.mono hb2.size)⟩
    | true =>
      have hE := Lib.hid (show ¬ EdP es n from fun hE => hP ⟨by rw [hl.out]; exact hn, hb, by rw [hl.out]; exact hE⟩)
      have hP := Lib.hid hP
      have hA := All_any A n c ss (-16777216) 16777216
      rw [hb] at hA
      have hA := Lib.hid hA
      clear hb
      go_enter Tryd.func8, Tryd.ntmps8
      go_wp2_with fail
      refine (Bands_bad A A' n c m c' ss es w h h' hP.out).mono ?_
      rintro e w2 ⟨rfl, hb2⟩
      have h2 := h.below hb2
      have h2' := h'.below hb2
      have hT2 := hT.below hb2
      go_wp2_with fail
      refine (hA.out w2 h2).mono ?_
      rintro e w3 ⟨rfl, rfl⟩
      go_wp2_with fail
      refine (REdges_any A' m c' es n w2 h2').mono ?_
      rintro e w4 ⟨b, r4, rfl, hb, hw4⟩
      have hbt : b = false := by
        cases b
        · rfl
        · exact absurd (hb.1 rfl) hE.out
      subst hbt
      clear hb
      have hb4 : Below w.heap.size w w4 := by rw [hw4]; exact bel_drewN hb2 r4
      clear hw4
      have hT4 := hT.below hb4
      go_wp2_with fail
      refine (known_any _ hT4).mono ?_
      rintro e w99 ⟨rfl, hb99⟩
      go_wp2
      go_ret
      exact ⟨rfl, hb4.trans (hb99.mono hb4.size)⟩
end Go.Proofs.YtoljffghaklpdaaDoor
