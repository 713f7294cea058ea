/- Edges of bands: the program's check and the document's. -/
import Derived.Test.YtfgiiidfpbpniaaDoorHV
namespace Go.Proofs.YtfgiiidfpbpniaaDoor
open Go.RowKit

/-- edges of a spectrum of m numbers -/
def EdP (es : List Int) (m : Int) : Prop := 2 ≤ es.length ∧ (∀ i, i < es.length → 0 ≤ es.getD i 0 ∧ es.getD i 0 ≤ m) ∧ ∀ i, i + 1 < es.length → es.getD i 0 < es.getD (i + 1) 0

set_option maxHeartbeats 1600000 in
theorem areEdges_any (A : Option Addr) (n c : Nat) (es : List Int) (m : Int) (w : World) (h : Sl .i64 w A n c es) :
    Calls Tryd.prog 37 #[.slice A n c, .int .i64 m] w fun e w' => ∃ b r, e = .returned (.bool b) ∧ (b = true ↔ EdP es m) ∧ w' = w.drewN r := by
  have hl := Lib.hid h.len
  have hcap := h.cap
  have htop := h.top
  go_enter Tryd.func37, Tryd.ntmps37
  go_wp2
  go_loopw [5] (fun iv wr => ∃ i r : Nat, iv = .int .i64 i ∧ 1 ≤ i ∧ (i ≤ n ∨ i = 1) ∧ Hid (∀ j, j + 1 < i → es.getD j 0 < es.getD (j + 1) 0) ∧ wr = w.drewN r) (fun iv _ => n - (intOf iv).toNat)
  case atStart => exact ⟨1, 0, rfl, Nat.le_refl _, .inr rfl, fun j hj => absurd hj (by omega), rfl⟩
  case round =>
    obtain ⟨i, r, rfl, hi1, hi2, hd, rfl⟩ := hrel
    rcases Nat.lt_or_ge i n with hlt | hge
    · obtain ⟨k, hk⟩ : ∃ k, i - 1 = k := ⟨_, rfl⟩
      have hkn : k < n := by omega
      obtain ⟨ad, x, rfl, hcx, hx⟩ := (h.drewN r).at_ hlt
      obtain ⟨ad2, y, e2, hcy, hy⟩ := (h.drewN r).at_ hkn
      injection e2 with e2
      subst e2
      have e3 : IntKind.i64.wrap ((i : Int) - 1) = (k : Int) := by rw [IntWalk.i64_in _ (by omega)]; omega
      have i0 : (0 : Int) ≤ (i : Int) := by omega
      have i1 : (i : Int) < (n : Int) := by omega
      have i2 : (0 : Int) ≤ (k : Int) := by omega
      have i3 : (k : Int) < (n : Int) := by omega
      generalize hw : w.drewN r = w1 at *
      have hw := Lib.hid hw
      by_cases hq : y < x
      · have hd2 := Lib.hid (show ∀ j, j + 1 < i + 1 → es.getD j 0 < es.getD (j + 1) 0 from fun j hj => by
          rcases Nat.lt_or_ge (j + 1) i with h9 | h9
          · exact hd.out j h9
          · obtain rfl : j = k := by omega
            rw [show j + 1 = i by omega, hx.out, hy.out]; exact hq)
        have hk := Lib.hid hk
        have hq2 : decide (x ≤ y) = false := decide_eq_false (by omega)
        go_wp2
        go_quiet (fail)
        go_wp2
        go_roundw
        case rel => exact ⟨i + 1, r + nq, by go_num, by omega, .inl hlt, hd2.out, by rw [← hw.out]; exact dr_add w r nq⟩
        case measure => simp [intOf]; omega
      · have hno := Lib.hid (show ¬ EdP es m from fun hE => by
          have := hE.2.2 k (by rw [hl.out]; omega)
          rw [show k + 1 = i by omega, hx.out, hy.out] at this
          exact hq this)
        have hk := Lib.hid hk
        have hq2 : decide (x ≤ y) = true := decide_eq_true (by omega)
        go_wp2
        go_quiet (fail)
        go_wp2
        go_ret
        exact ⟨false, r + nq, rfl, ⟨(fun e => by cases e), fun e => absurd e hno.out⟩, by rw [← hw.out]; exact dr_add w r nq⟩
    · generalize hw : w.drewN r = w1 at *
      have h1 : Sl .i64 w1 A n c es := hw ▸ h.drewN r
      have hw := Lib.hid hw
      by_cases h2 : 2 ≤ n
      · have hq2 : decide ((2 : Int) ≤ (n : Int)) = true := decide_eq_true (by omega)
        have hin : i = n := by omega
        have hA := Lib.hid (allWithin_any A n c es 0 m w1 h1)
        cases hb : allB 0 m es with
        | false =>
          rw [hb] at hA
          have hno := Lib.hid (show ¬ EdP es m from fun hE => by
            have : allB 0 m es = true := by
              unfold allB
              rw [List.all_eq_true]
              intro x hx
              obtain ⟨j, hj, rfl⟩ := List.getElem_of_mem hx
              have := hE.2.1 j hj
              rw [getD_in hj] at this
              simp [okB_iff, this.1, this.2]
            rw [hb] at this
            cases this)
          clear hb
          go_wp2_with fail
          refine hA.out.mono ?_
          rintro e w' ⟨rfl, rfl⟩
          go_wp2
          go_ret
          exact ⟨false, r, rfl, ⟨(fun e => by cases e), fun e => absurd e hno.out⟩, hw.out.symm⟩
        | true =>
          rw [hb] at hA
          have hyes := Lib.hid (show EdP es m from ⟨by rw [hl.out]; exact h2, fun j hj => allB_get hb hj rfl, fun j hj => hd.out j (by rw [hl.out] at hj; omega)⟩)
          clear hb
          go_wp2_with fail
          refine hA.out.mono ?_
          rintro e w' ⟨rfl, rfl⟩
          go_wp2
          go_ret
          exact ⟨true, r, rfl, ⟨fun _ => hyes.out, fun _ => rfl⟩, hw.out.symm⟩
      · have hno := Lib.hid (show ¬ EdP es m from fun hE => h2 (by rw [← hl.out]; exact hE.1))
        have hq2 : decide ((2 : Int) ≤ (n : Int)) = false := decide_eq_false (by omega)
        go_wp2
        go_ret
        exact ⟨false, r, rfl, ⟨(fun e => by cases e), fun e => absurd e hno.out⟩, hw.out.symm⟩

set_option maxHeartbeats 3200000 in
theorem REdges_any (A : Option Addr) (n c : Nat) (es : List Int) (m : Int) (w : World) (h : Sl .i64 w A n c es) :
    Calls Tryd.prog 15 #[.slice A n c, .int .i64 m] w fun e w' => ∃ b r, e = .returned (.bool b) ∧ (b = true ↔ EdP es m) ∧ w' = w.drewN r := by
  have hl := Lib.hid h.len
  have hcap := h.cap
  have htop := h.top
  go_enter Tryd.func15, Tryd.ntmps15
  by_cases h2 : 2 ≤ n
  · go_wp2
    go_loopw [5] (fun iv wr => ∃ i r : Nat, iv = .int .i64 i ∧ i ≤ n ∧ Hid ((∀ j, j < i → 0 ≤ es.getD j 0 ∧ es.getD j 0 ≤ m) ∧ ∀ j, j + 1 < i → es.getD j 0 < es.getD (j + 1) 0) ∧ wr = w.drewN r) (fun iv _ => n - (intOf iv).toNat)
    case atStart => exact ⟨0, 0, rfl, Nat.zero_le _, ⟨fun j hj => absurd hj (by omega), fun j hj => absurd hj (by omega)⟩, rfl⟩
    case round =>
      obtain ⟨i, r, rfl, hin, hd, rfl⟩ := hrel
      rcases Nat.lt_or_ge i n with hlt | hge
      · obtain ⟨ad, x, rfl, hcx, hx⟩ := (h.drewN r).at_ hlt
        have i0 : (0 : Int) ≤ (i : Int) := by omega
        have i1 : (i : Int) < (n : Int) := by omega
        by_cases hq : 0 ≤ x ∧ x ≤ m
        · have q1 : decide (x < 0) = false := decide_eq_false (by omega)
          have q2 : decide (m < x) = false := decide_eq_false (by omega)
          rcases Nat.eq_zero_or_pos i with hi0 | hi0
          · have hd2 := Lib.hid (show (∀ j, j < i + 1 → 0 ≤ es.getD j 0 ∧ es.getD j 0 ≤ m) ∧ ∀ j, j + 1 < i + 1 → es.getD j 0 < es.getD (j + 1) 0 from ⟨fun j hj => by
              rw [show j = i by omega, hx.out]; exact hq, fun j hj => absurd hj (by omega)⟩)
            subst hi0
            have hcx : (w.drewN r).cell? ad = some (.int .i64 x) := by rw [show ad.add 0 = ad from by unfold Addr.add; simp] at hcx; exact hcx
            generalize hw : w.drewN r = w1 at *
            have hw := Lib.hid hw
            clear hq
            go_wp2
            go_quiet (fail)
            go_wp2
            go_roundw
            case rel => exact ⟨0 + 1, r + nq, by go_num, hlt, hd2.out, by rw [← hw.out]; exact dr_add w r nq⟩
            case measure => simp [intOf]; omega
          · obtain ⟨k, hk⟩ : ∃ k, i - 1 = k := ⟨_, rfl⟩
            have hkn : k < n := by omega
            obtain ⟨ad2, y, e2, hcy, hy⟩ := (h.drewN r).at_ hkn
            injection e2 with e2
            subst e2
            have e3 : IntKind.i64.wrap ((i : Int) - 1) = (k : Int) := by rw [IntWalk.i64_in _ (by omega)]; omega
            have i2 : (0 : Int) ≤ (k : Int) := by omega
            have i3 : (k : Int) < (n : Int) := by omega
            have q3 : decide ((0 : Int) < (i : Int)) = true := decide_eq_true (by omega)
            have q5 : decide (0 < i) = true := decide_eq_true hi0
            generalize hw : w.drewN r = w1 at *
            have hw := Lib.hid hw
            by_cases hq3 : y < x
            · have hd2 := Lib.hid (show (∀ j, j < i + 1 → 0 ≤ es.getD j 0 ∧ es.getD j 0 ≤ m) ∧ ∀ j, j + 1 < i + 1 → es.getD j 0 < es.getD (j + 1) 0 from ⟨fun j hj => by
                rcases Nat.lt_or_ge j i with h9 | h9
                · exact hd.out.1 j h9
                · obtain rfl : j = i := by omega
                  rw [hx.out]; exact hq, fun j hj => by
                rcases Nat.lt_or_ge (j + 1) i with h9 | h9
                · exact hd.out.2 j h9
                · obtain rfl : j = k := by omega
                  rw [show j + 1 = i by omega, hx.out, hy.out]; exact hq3⟩)
              have hk := Lib.hid hk
              have q6 : decide (x ≤ y) = false := decide_eq_false (by omega)
              clear hq
              go_wp2
              go_quiet (fail)
              go_wp2
              go_roundw
              case rel => exact ⟨i + 1, r + nq, by go_num, hlt, hd2.out, by rw [← hw.out]; exact dr_add w r nq⟩
              case measure => simp [intOf]; omega
            · have hno := Lib.hid (show ¬ EdP es m from fun hE => by
                have := hE.2.2 k (by rw [hl.out]; omega)
                rw [show k + 1 = i by omega, hx.out, hy.out] at this
                exact hq3 this)
              have hk := Lib.hid hk
              have q6 : decide (x ≤ y) = true := decide_eq_true (by omega)
              clear hq
              go_wp2
              go_quiet (fail)
              go_wp2
              go_ret
              exact ⟨false, r + nq, rfl, ⟨(fun e => by cases e), fun e => absurd e hno.out⟩, by rw [← hw.out]; exact dr_add w r nq⟩
        · have hno := Lib.hid (show ¬ EdP es m from fun hE => by
            have := hE.2.1 i (by rw [hl.out]; omega)
            rw [hx.out] at this
            exact hq this)
          generalize hw : w.drewN r = w1 at *
          have hw := Lib.hid hw
          by_cases hx0 : x < 0
          · have q1 : decide (x < 0) = true := decide_eq_true hx0
            clear hq
            go_wp2
            go_quiet (fail)
            go_wp2
            go_ret
            exact ⟨false, r + nq, rfl, ⟨(fun e => by cases e), fun e => absurd e hno.out⟩, by rw [← hw.out]; exact dr_add w r nq⟩
          · have q1 : decide (x < 0) = false := decide_eq_false hx0
            have q2 : decide (m < x) = true := decide_eq_true (by omega)
            clear hq
            go_wp2
            go_quiet (fail)
            go_wp2
            go_ret
            exact ⟨false, r + nq, rfl, ⟨(fun e => by cases e), fun e => absurd e hno.out⟩, by rw [← hw.out]; exact dr_add w r nq⟩
      · have hin' : n = i := by omega
        have hyes := Lib.hid (show EdP es m from ⟨by rw [hl.out]; exact h2, fun j hj => hd.out.1 j (by rw [hl.out] at hj; omega), fun j hj => hd.out.2 j (by rw [hl.out] at hj; omega)⟩)
        go_wp2
        go_ret
        exact ⟨true, r, rfl, ⟨fun _ => hyes.out, fun _ => rfl⟩, rfl⟩
  · have hno := Lib.hid (show ¬ EdP es m from fun hE => h2 (by rw [← hl.out]; exact hE.1))
    go_wp2
    go_ret
    exact ⟨false, 0, rfl, ⟨(fun e => by cases e), fun e => absurd e hno.out⟩, rfl⟩
end Go.Proofs.YtfgiiidfpbpniaaDoor
