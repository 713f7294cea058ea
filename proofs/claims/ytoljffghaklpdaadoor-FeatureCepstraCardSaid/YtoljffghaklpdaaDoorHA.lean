/- The theorem of logarithms: the law's walk. -/
import Derived.Test.YtoljffghaklpdaaDoorPM
import Derived.Test.YtoljffghaklpdaaDoorFD
namespace Go.Proofs.YtoljffghaklpdaaDoor
open Go.RowKit

abbrev YesF (w : World) (e : Ending) (w' : World) : Prop := e = .returned (.bool true) ∧ Below w.heap.size w w'

theorem bl_ge {x : Nat} (h : 0 < x) : 2 ^ (Fr.bl x - 1) ≤ x := by
  unfold Fr.bl
  rw [if_neg (by omega)]
  exact Nat.log2_self_le (by omega)
theorem bl_pos {x : Nat} (h : 0 < x) : 1 ≤ Fr.bl x := by
  unfold Fr.bl
  rw [if_neg (by omega)]
  omega
theorem bl_mono {x y : Nat} (h : x ≤ y) : Fr.bl x ≤ Fr.bl y := Fr.bl_le (Nat.lt_of_le_of_lt h (Fr.lt_bl y))
theorem bl_mul {x y : Nat} (hx : 0 < x) (hy : 0 < y) : Fr.bl (x * y) = Fr.bl x + Fr.bl y - 1 ∨ Fr.bl (x * y) = Fr.bl x + Fr.bl y := by
  have h1 : Fr.bl (x * y) ≤ Fr.bl x + Fr.bl y := Fr.bl_le (by rw [Nat.pow_add]; exact Nat.mul_lt_mul'' (Fr.lt_bl x) (Fr.lt_bl y))
  have h2 : Fr.bl x + Fr.bl y - 1 ≤ Fr.bl (x * y) := by
    have a1 := bl_ge hx
    have a2 := bl_ge hy
    have a3 := Nat.mul_le_mul a1 a2
    rw [← Nat.pow_add] at a3
    have p1 := bl_pos hx
    have p2 := bl_pos hy
    rcases Nat.lt_or_ge (Fr.bl (x * y)) (Fr.bl x + Fr.bl y - 1) with h | h
    · have b1 := Fr.lt_bl (x * y)
      have b2 : 2 ^ Fr.bl (x * y) ≤ 2 ^ (Fr.bl x - 1 + (Fr.bl y - 1)) := Nat.pow_le_pow_right (by decide) (by omega)
      omega
    · exact h
  omega
theorem bl_two (k x : Nat) (hx : 0 < x) : Fr.bl (2 ^ k * x) = k + Fr.bl x := by
  have := Fr.bl_shift hx (k := k) (y := 0) (Nat.pow_pos (by decide))
  rwa [Nat.zero_add] at this
theorem pow_pos16 {a : Nat} (h : 0 < a) : 0 < a ^ 16 := Nat.pow_pos h
theorem lg_pos {a : Nat} (h : 0 < a) : lg a = (Fr.bl (a ^ 16) : Nat) - 1 := by unfold lg; rw [if_neg (by omega)]
theorem lg_mono {a b : Nat} (h : 0 < a) (hab : a ≤ b) : lg a ≤ lg b := by
  rw [lg_pos h, lg_pos (by omega)]
  have := bl_mono (Nat.pow_le_pow_left hab 16)
  omega
theorem lg_two {a : Nat} (h : 0 < a) : lg (2 * a) = lg a + 16 := by
  rw [lg_pos h, lg_pos (by omega), Nat.mul_pow, bl_two 16 _ (pow_pos16 h)]
  omega
theorem lg_pow (p : Nat) : lg (2 ^ p) = 16 * p := by
  rw [lg_pos (Nat.pow_pos (by decide)), ← Nat.pow_mul]
  have := bl_two (p * 16) 1 (by decide)
  rw [Nat.mul_one] at this
  rw [this]
  have h1 : Fr.bl 1 = 1 := by decide
  omega
theorem lg_mul {a b : Nat} (h : 0 < a) (h' : 0 < b) : lg (a * b) = lg a + lg b ∨ lg (a * b) = lg a + lg b + 1 := by
  rw [lg_pos h, lg_pos h', lg_pos (Nat.mul_pos h h'), Nat.mul_pow]
  have p1 := bl_pos (pow_pos16 h)
  have p2 := bl_pos (pow_pos16 h')
  rcases bl_mul (pow_pos16 h) (pow_pos16 h') with e | e <;> rw [e] <;> omega
theorem lg_bd {a : Nat} (h : 0 < a) (hb : a ≤ 9223372036854775807) : 0 ≤ lg a ∧ lg a ≤ 2000 := by
  have h1 := lg_mono (a := 1) (b := a) (by decide) h
  have h2 := lg_mono (a := a) (b := 2 ^ 63) h (by omega)
  rw [lg_pow] at h2
  have e : lg 1 = 0 := lg_pow 0
  omega

set_option maxHeartbeats 4000000 in
set_option maxRecDepth 100000 in
theorem grows_law (a b power : Int) (w : World) (hT : Tab w) :
    Calls Tryd.prog 9 #[.int .i64 a, .int .i64 b, .int .i64 power] w (YesF w) := by
  have hcs : a < 1 ∨ (1 ≤ a ∧ 1073741824 < a) ∨ (1 ≤ a ∧ a ≤ 1073741824 ∧ b < 1) ∨ (1 ≤ a ∧ a ≤ 1073741824 ∧ 1 ≤ b ∧ 1073741824 < b) ∨ (1 ≤ a ∧ a ≤ 1073741824 ∧ 1 ≤ b ∧ b ≤ 1073741824 ∧ power < 0) ∨ (1 ≤ a ∧ a ≤ 1073741824 ∧ 1 ≤ b ∧ b ≤ 1073741824 ∧ 0 ≤ power ∧ 62 < power) ∨ (1 ≤ a ∧ a ≤ 1073741824 ∧ 1 ≤ b ∧ b ≤ 1073741824 ∧ 0 ≤ power ∧ power ≤ 62) := by omega
  rcases hcs with a1 | ⟨a1, a2⟩ | ⟨a1, a2, a3⟩ | ⟨a1, a2, a3, a4⟩ | ⟨a1, a2, a3, a4, a5⟩ | ⟨a1, a2, a3, a4, a5, a6⟩ | ⟨a1, a2, a3, a4, a5, a6⟩
  case inr.inr.inr.inr.inr.inr =>
    obtain ⟨A, rfl⟩ : ∃ A : Nat, a = (A : Int) := ⟨a.toNat, by omega⟩
    obtain ⟨B, rfl⟩ : ∃ B : Nat, b = (B : Int) := ⟨b.toNat, by omega⟩
    obtain ⟨p, rfl⟩ : ∃ p : Nat, power = (p : Int) := ⟨power.toNat, by omega⟩
    obtain ⟨M, hM⟩ : ∃ M, A * B = M := ⟨_, rfl⟩
    have hMi : (A : Int) * (B : Int) = (M : Int) := by rw [← hM, Int.natCast_mul]
    have hM1 : 1 ≤ M := by rw [← hM]; exact Nat.mul_pos (by omega) (by omega)
    have hM2 : M ≤ 1152921504606846976 := by rw [← hM]; exact Nat.mul_le_mul (show A ≤ 1073741824 by omega) (show B ≤ 1073741824 by omega)
    obtain ⟨Q, hQ⟩ : ∃ Q, 2 ^ p = Q := ⟨_, rfl⟩
    have hQi : (2 : Int) ^ p = (Q : Int) := by rw [← hQ, Int.natCast_pow]; rfl
    have hQ1 : 1 ≤ Q := by rw [← hQ]; exact Nat.pow_pos (by decide)
    have hQ2 : Q ≤ 4611686018427387904 := by
      rw [← hQ]
      have : 2 ^ p ≤ 2 ^ 62 := Nat.pow_le_pow_right (by decide) (by omega)
      omega
    have r1 : A ≤ B → lg A ≤ lg B := fun h => lg_mono (by omega) h
    have r2 : lg (2 * A) = lg A + 16 := lg_two (by omega)
    have r3 : lg Q = 16 * p := by rw [← hQ]; exact lg_pow p
    have r4 : lg M = lg A + lg B ∨ lg M = lg A + lg B + 1 := by rw [← hM]; exact lg_mul (by omega) (by omega)
    have r5 := lg_bd (a := A) (by omega) (by omega)
    have r6 := lg_bd (a := B) (by omega) (by omega)
    clear hM hQ
    have d1 : decide ((A : Int) < 1) = false := decide_eq_false (by omega)
    have d2 : decide (1073741824 < (A : Int)) = false := decide_eq_false (by omega)
    have d3 : decide ((B : Int) < 1) = false := decide_eq_false (by omega)
    have d4 : decide (1073741824 < (B : Int)) = false := decide_eq_false (by omega)
    have d5 : decide ((p : Int) < 0) = false := decide_eq_false (by omega)
    have d6 : decide (62 < (p : Int)) = false := decide_eq_false (by omega)
    go_enter Tryd.func9, Tryd.ntmps9
    go_wp2_with fail
    refine (Log_any (A : Int) w (by omega)).mono ?_
    rintro e w1 ⟨rfl, hb1⟩
    rw [if_neg (by omega), Int.toNat_natCast]
    go_wp2_with fail
    refine (Log_any (B : Int) w1 (by omega)).mono ?_
    rintro e w2 ⟨rfl, hb2⟩
    rw [if_neg (by omega), Int.toNat_natCast]
    have hb2 := hb1.trans (hb2.mono hb1.size)
    go_wp2_with fail
    refine (Log_any (M : Int) w2 (by omega)).mono ?_
    rintro e w3 ⟨rfl, hb3⟩
    rw [if_neg (by omega), Int.toNat_natCast]
    have hb3 := hb2.trans (hb3.mono hb2.size)
    go_wp2_with fail
    refine (Log_any (2 * (A : Int)) w3 (by omega)).mono ?_
    rintro e w4 ⟨rfl, hb4⟩
    rw [if_neg (by omega), show (2 * (A : Int)).toNat = 2 * A by omega]
    have hb4 := hb3.trans (hb4.mono hb3.size)
    go_wp2_with fail
    refine (Log_any (Q : Int) w4 (by omega)).mono ?_
    rintro e w5 ⟨rfl, hb5⟩
    rw [if_neg (by omega), Int.toNat_natCast]
    try rw [r3]
    have hb5 := hb4.trans (hb5.mono hb4.size)
    have hT5 := hT.below hb5
    clear r2 r3 hb1 hb2 hb3 hb4
    generalize lg A = x at *
    generalize lg B = y at *
    generalize lg M = z at *
    have hxy : (B < A) ∨ (¬ B < A ∧ x ≤ y) := by
      rcases Nat.lt_or_ge B A with h | h
      · exact .inl h
      · exact .inr ⟨by omega, r1 h⟩
    clear r1
    have hzz : (z == x + y) = true ∨ ((z == x + y) = false ∧ (z == x + y + 1) = true) := by
      rcases r4 with h | h
      · exact .inl (by simp [h])
      · exact .inr ⟨by rw [beq_eq_false_iff_ne]; omega, by simp [h]⟩
    clear r4
    rcases hxy with h | ⟨h, hle⟩
    case' inl => have e1 : decide ((B : Int) < (A : Int)) = true := decide_eq_true (by omega)
    case' inr =>
      have e1 : decide ((B : Int) < (A : Int)) = false := decide_eq_false (by omega)
      have e2 : decide (x ≤ y) = true := decide_eq_true hle
    all_goals rcases hzz with h2 | ⟨h2, h3⟩
    all_goals
      go_wp2_with fail
      refine (known_any _ hT5).mono ?_
      rintro e w7 ⟨rfl, hb7⟩
      go_wp2
      go_ret
      exact ⟨rfl, hb5.trans (hb7.mono hb5.size)⟩
  case' inl => have d1 : decide (a < 1) = true := decide_eq_true a1
  case' inr.inl =>
    have d1 : decide (a < 1) = false := decide_eq_false (by omega)
    have d2 : decide (1073741824 < a) = true := decide_eq_true a2
  case' inr.inr.inl =>
    have d1 : decide (a < 1) = false := decide_eq_false (by omega)
    have d2 : decide (1073741824 < a) = false := decide_eq_false (by omega)
    have d3 : decide (b < 1) = true := decide_eq_true a3
  case' inr.inr.inr.inl =>
    have d1 : decide (a < 1) = false := decide_eq_false (by omega)
    have d2 : decide (1073741824 < a) = false := decide_eq_false (by omega)
    have d3 : decide (b < 1) = false := decide_eq_false (by omega)
    have d4 : decide (1073741824 < b) = true := decide_eq_true a4
  case' inr.inr.inr.inr.inl =>
    have d1 : decide (a < 1) = false := decide_eq_false (by omega)
    have d2 : decide (1073741824 < a) = false := decide_eq_false (by omega)
    have d3 : decide (b < 1) = false := decide_eq_false (by omega)
    have d4 : decide (1073741824 < b) = false := decide_eq_false (by omega)
    have d5 : decide (power < 0) = true := decide_eq_true a5
  case' inr.inr.inr.inr.inr.inl =>
    have d1 : decide (a < 1) = false := decide_eq_false (by omega)
    have d2 : decide (1073741824 < a) = false := decide_eq_false (by omega)
    have d3 : decide (b < 1) = false := decide_eq_false (by omega)
    have d4 : decide (1073741824 < b) = false := decide_eq_false (by omega)
    have d5 : decide (power < 0) = false := decide_eq_false (by omega)
    have d6 : decide (62 < power) = true := decide_eq_true a6
  all_goals
    go_enter Tryd.func9, Tryd.ntmps9
    go_wp2_with fail
    refine (known_any _ hT).mono ?_
    rintro e w7 ⟨rfl, hb7⟩
    go_wp2
    go_ret
    exact ⟨rfl, hb7⟩
end Go.Proofs.YtoljffghaklpdaaDoor


/- Inverse transforms, transforms, spectra and slacks: the laws' walks. -/
namespace Go.Proofs.YtoljffghaklpdaaDoor
open Go.RowKit

theorem Same_yes (A A' : Option Addr) (n c n' c' : Nat) (xs : List Int) (w : World) (h : Sl .i64 w A n c xs) (h' : Sl .i64 w A' n' c' xs) :
    Calls Tryd.prog 26 #[.slice A n c, .slice A' n' c'] w fun e w' => ∃ k, e = .returned (.bool true) ∧ w' = w.drewN k :=
  (Same_any _ _ _ _ _ _ _ _ _ h h').mono fun e w' ⟨k, h1, h2⟩ => ⟨k, by rw [h1, sameB_yes rfl], h2⟩

set_option maxHeartbeats 1600000 in
set_option maxRecDepth 100000 in
theorem inverses_law (A : Option Addr) (n c : Nat) (ts : List Int) (w : World) (h : Sl .i64 w A n c ts) (hT : Tab w) :
    Calls Tryd.prog 5 #[.slice A n c] w (YesF w) := by
  have hl := Lib.hid h.len
  have hcap := h.cap
  have htop := h.top
  rcases Nat.lt_or_ge 70 n with h70 | h70
  · go_enter Tryd.func5, Tryd.ntmps5
    go_wp2_with (go_at_call 17; refine (known_any _ hT).mono ?_; rintro e w7 ⟨rfl, hb7⟩)
    go_ret
    exact ⟨rfl, hb7⟩
  · have hI := Lib.hid (Inverse_any A n c ts w h hT)
    have hok := Lib.hid (show ivOk ts = (lenB n && allB (-1099511627776) 1099511627776 ts) by unfold ivOk; rw [hl.out])
    cases hLen : lenB n with
    | false =>
      have hno := Lib.hid (show ivOk ts = false by rw [hok.out, hLen]; rfl)
      have hLen := Lib.hid hLen
      go_enter Tryd.func5, Tryd.ntmps5
      go_wp2_with fail
      refine hI.out.mono ?_
      rintro e w1 (⟨h1, _⟩ | ⟨_, rfl, hb1⟩)
      · rw [hno.out] at h1; cases h1
      have hT1 := hT.below hb1
      go_wp2_with (first
        | (go_at_call 25; refine (RLength_any _ _).mono ?_; rintro e w' ⟨he, rfl⟩; rw [hLen.out] at he; subst he)
        | (go_at_call 17; refine (known_any _ hT1).mono ?_; rintro e w7 ⟨rfl, hb7⟩))
      go_ret
      exact ⟨rfl, hb1.trans (hb7.mono hb1.size)⟩
    | true =>
      cases hAll : allB (-1099511627776) 1099511627776 ts with
      | false =>
        have hno := Lib.hid (show ivOk ts = false by rw [hok.out, hLen, hAll]; rfl)
        have hLen := Lib.hid hLen
        have hAll := Lib.hid hAll
        go_enter Tryd.func5, Tryd.ntmps5
        go_wp2_with fail
        refine hI.out.mono ?_
        rintro e w1 (⟨h1, _⟩ | ⟨_, rfl, hb1⟩)
        · rw [hno.out] at h1; cases h1
        have hT1 := hT.below hb1
        have hS1 := h.below hb1
        go_wp2_with (first
          | (go_at_call 25; refine (RLength_any _ _).mono ?_; rintro e w' ⟨he, rfl⟩; rw [hLen.out] at he; subst he)
          | (go_at_call 23; refine (All_any _ _ _ _ _ _ _ hS1).mono ?_; rintro e w' ⟨he, rfl⟩; rw [hAll.out] at he; subst he)
          | (go_at_call 17; refine (known_any _ hT1).mono ?_; rintro e w7 ⟨rfl, hb7⟩))
        go_ret
        exact ⟨rfl, hb1.trans (hb7.mono hb1.size)⟩
      | true =>
        have hyes := Lib.hid (show ivOk ts = true by rw [hok.out, hLen, hAll]; rfl)
        have hn64 := (lenB_le hLen).2.1
        have hLen := Lib.hid hLen
        have hAll := Lib.hid hAll
        have hiL : (ivL ts).length = n := by unfold ivL; rw [tab_len, hl.out]
        have hiL := Lib.hid hiL
        go_enter Tryd.func5, Tryd.ntmps5
        go_wp2_with fail
        refine hI.out.mono ?_
        intro e w1 hh
        obtain ⟨g, rfl, hM, hb1, hg⟩ := (hh.resolve_right (fun h1 => by rw [hyes.out] at h1; cases h1.1)).2
        have hT1 := hT.below hb1
        have hS1 := h.below hb1
        have hM1 := hM.sl hiL.out (by omega)
        go_wp2_with (first
          | (go_at_call 25; refine (RLength_any _ _).mono ?_; rintro e w' ⟨he, rfl⟩; rw [hLen.out] at he; subst he)
          | (go_at_call 23; refine (All_any _ _ _ _ _ _ _ hS1).mono ?_; rintro e w' ⟨he, rfl⟩; rw [hAll.out] at he; subst he)
          | (go_at_call 30; refine (RInverse_any _ _ _ _ _ hS1 hT1 hyes.out).mono ?_; rintro e w2 ⟨g2, rfl, hM2, hb2, hg2⟩
             have hA2 := hM1.below hb2
             have hB2 := hM2.sl hiL.out (by omega)
             have hbb2 := hb1.trans (hb2.mono hb1.size))
          | (go_at_call 26; refine (Same_yes _ _ _ _ _ _ _ _ hA2 hB2).mono ?_; rintro e w3 ⟨k, rfl, rfl⟩
             have hT3 := (hT.below hbb2).drewN k
             have hbb3 := bel_drewN hbb2 k)
          | (go_at_call 17; refine (known_any _ hT3).mono ?_; rintro e w7 ⟨rfl, hb7⟩))
        go_ret
        exact ⟨rfl, hbb3.trans (hb7.mono hbb3.size)⟩
end Go.Proofs.YtoljffghaklpdaaDoor


/- Transforms, spectra and slacks: the law's walk. -/
namespace Go.Proofs.YtoljffghaklpdaaDoor
open Go.RowKit

theorem Same_bel (A A' : Option Addr) (n c n' c' : Nat) (xs : List Int) (w : World) (h : Sl .i64 w A n c xs) (h' : Sl .i64 w A' n' c' xs) :
    Calls Tryd.prog 26 #[.slice A n c, .slice A' n' c'] w fun e w' => e = .returned (.bool true) ∧ Below w.heap.size w w' :=
  (Same_any _ _ _ _ _ _ _ _ _ h h').mono fun e w' ⟨k, h1, h2⟩ => ⟨by rw [h1, sameB_yes rfl], by rw [h2]; exact bel_drewN (Below.refl _ _) k⟩

set_option maxHeartbeats 3200000 in
set_option maxRecDepth 100000 in
theorem transforms_law (A : Option Addr) (n c : Nat) (xs : List Int) (w : World) (h : Sl .i64 w A n c xs) (hT : Tab w) :
    Calls Tryd.prog 4 #[.slice A n c] w (YesF w) := by
  have hl := Lib.hid h.len
  have hcap := h.cap
  have htop := h.top
  rcases Nat.lt_or_ge 70 n with h70 | h70
  · go_enter Tryd.func4, Tryd.ntmps4
    go_wp2_with (go_at_call 17; refine (known_any _ hT).mono ?_; rintro e w7 ⟨rfl, hb7⟩)
    go_ret
    exact ⟨rfl, hb7⟩
  have hT0 := Lib.hid (fun w h' hT' => Transform_any A n c xs w h' hT')
  have hP0 := Lib.hid (fun w h' hT' => Spectrum_any A n c xs w h' hT')
  have hL0 := Lib.hid (fun w h' => Slack_any A n c xs w h')
  have htr := Lib.hid (show trOk xs = (lenB n && allB (-65536) 65536 xs) by unfold trOk; rw [hl.out])
  have hsl := Lib.hid (show slOk xs = (decide (n ≤ 64) && allB (-65536) 65536 xs) by unfold slOk; rw [hl.out])
  rcases Nat.lt_or_ge 64 n with h64 | h64
  · have hk := Lib.hid (show trOk xs = false by
      rw [htr.out]
      cases hq : lenB n with
      | false => rfl
      | true => have := lenB_le hq; omega)
    have hs := Lib.hid (show slOk xs = false by rw [hsl.out, decide_eq_false (by omega)]; rfl)
    go_enter Tryd.func4, Tryd.ntmps4
    go_wp2_with fail
    refine (hT0.out w h hT).mono ?_
    intro e w1 hh
    obtain ⟨rfl, hb1⟩ := (hh.resolve_left (fun h1 => by rw [hk.out] at h1; cases h1.1)).2
    have hT1 := hT.below hb1
    have hS1 := h.below hb1
    go_wp2_with fail
    refine (hP0.out w1 hS1 hT1).mono ?_
    intro e w2 hh
    obtain ⟨rfl, hb2⟩ := (hh.resolve_left (fun h1 => by rw [hk.out] at h1; cases h1.1)).2
    have hb12 := hb1.trans (hb2.mono hb1.size)
    have hT2 := hT.below hb12
    have hS2 := h.below hb12
    go_wp2_with fail
    refine (hL0.out w2 hS2).mono ?_
    rintro e w9 ⟨he, rfl⟩
    rw [if_neg (by rw [hs.out]; decide)] at he
    subst he
    go_wp2_with (go_at_call 17; refine (known_any _ hT2).mono ?_; rintro e w7 ⟨rfl, hb7⟩)
    go_ret
    exact ⟨rfl, hb12.trans (hb7.mono hb12.size)⟩
  cases hAll : allB (-65536) 65536 xs with
  | false =>
    have hk := Lib.hid (show trOk xs = false by rw [htr.out, hAll, Bool.and_false])
    have hs := Lib.hid (show slOk xs = false by rw [hsl.out, hAll, Bool.and_false])
    have hAll := Lib.hid hAll
    go_enter Tryd.func4, Tryd.ntmps4
    go_wp2_with fail
    refine (hT0.out w h hT).mono ?_
    intro e w1 hh
    obtain ⟨rfl, hb1⟩ := (hh.resolve_left (fun h1 => by rw [hk.out] at h1; cases h1.1)).2
    have hT1 := hT.below hb1
    have hS1 := h.below hb1
    go_wp2_with fail
    refine (hP0.out w1 hS1 hT1).mono ?_
    intro e w2 hh
    obtain ⟨rfl, hb2⟩ := (hh.resolve_left (fun h1 => by rw [hk.out] at h1; cases h1.1)).2
    have hb12 := hb1.trans (hb2.mono hb1.size)
    have hT2 := hT.below hb12
    have hS2 := h.below hb12
    go_wp2_with fail
    refine (hL0.out w2 hS2).mono ?_
    rintro e w9 ⟨he, rfl⟩
    rw [if_neg (by rw [hs.out]; decide)] at he
    subst he
    go_wp2_with (first
      | (go_at_call 23; refine (All_any _ _ _ _ _ _ _ hS2).mono ?_; rintro e w' ⟨he, rfl⟩; rw [hAll.out] at he; subst he)
      | (go_at_call 17; refine (known_any _ hT2).mono ?_; rintro e w7 ⟨rfl, hb7⟩))
    go_ret
    exact ⟨rfl, hb12.trans (hb7.mono hb12.size)⟩
  | true =>
  cases hLen : lenB n with
  | false =>
    have hk := Lib.hid (show trOk xs = false by rw [htr.out, hLen]; rfl)
    have hs := Lib.hid (show slOk xs = true by rw [hsl.out, hAll, decide_eq_true h64]; rfl)
    have hAll := Lib.hid hAll
    have hLen := Lib.hid hLen
    go_enter Tryd.func4, Tryd.ntmps4
    go_wp2_with fail
    refine (hT0.out w h hT).mono ?_
    intro e w1 hh
    obtain ⟨rfl, hb1⟩ := (hh.resolve_left (fun h1 => by rw [hk.out] at h1; cases h1.1)).2
    have hT1 := hT.below hb1
    have hS1 := h.below hb1
    go_wp2_with fail
    refine (hP0.out w1 hS1 hT1).mono ?_
    intro e w2 hh
    obtain ⟨rfl, hb2⟩ := (hh.resolve_left (fun h1 => by rw [hk.out] at h1; cases h1.1)).2
    have hb12 := hb1.trans (hb2.mono hb1.size)
    have hT2 := hT.below hb12
    have hS2 := h.below hb12
    go_wp2_with fail
    refine (hL0.out w2 hS2).mono ?_
    rintro e w9 ⟨he, rfl⟩
    rw [if_pos (by rw [hs.out])] at he
    subst he
    generalize hsn : slN xs = sn at *
    have hR := Lib.hid (fun w' (h' : Sl .i64 w' A n c xs) => hsn ▸ RSlack_any A n c xs w' h' (by omega) hAll.out)
    clear hsn
    go_wp2_with (first
      | (go_at_call 23; refine (All_any _ _ _ _ _ _ _ hS2).mono ?_; rintro e w' ⟨he, rfl⟩; rw [hAll.out] at he; subst he)
      | (go_at_call 24; refine (hR.out _ hS2).mono ?_; rintro e w3 ⟨rfl, k0, hw3⟩
         have hb3 : Below w.heap.size w w3 := by rw [hw3]; exact bel_drewN hb12 k0
         have hT3 := hT.below hb3
         clear hw3)
      | (go_at_call 25; refine (RLength_any _ _).mono ?_; rintro e w' ⟨he, rfl⟩; rw [hLen.out] at he; subst he)
      | (go_at_call 17; refine (known_any _ hT3).mono ?_; rintro e w7 ⟨rfl, hb7⟩))
    go_ret
    exact ⟨rfl, hb3.trans (hb7.mono hb3.size)⟩
  | true =>
    have hk := Lib.hid (show trOk xs = true by rw [htr.out, hLen, hAll]; rfl)
    have hs := Lib.hid (show slOk xs = true by rw [hsl.out, hAll, decide_eq_true h64]; rfl)
    have hAll := Lib.hid hAll
    have hLen := Lib.hid hLen
    have hlt := Lib.hid (show (trL xs).length = n by unfold trL; rw [tab_len, hl.out])
    have hlp := Lib.hid (show (spL xs).length = n by unfold spL; rw [tab_len, hl.out])
    go_enter Tryd.func4, Tryd.ntmps4
    go_wp2_with fail
    refine (hT0.out w h hT).mono ?_
    intro e w1 hh
    obtain ⟨g1, rfl, hM1, hb1, hg1⟩ := (hh.resolve_right (fun h1 => by rw [hk.out] at h1; cases h1.1)).2
    have hT1 := hT.below hb1
    have hS1 := h.below hb1
    go_wp2_with fail
    refine (hP0.out w1 hS1 hT1).mono ?_
    intro e w2 hh
    obtain ⟨g2, rfl, hM2, hb2, hg2⟩ := (hh.resolve_right (fun h1 => by rw [hk.out] at h1; cases h1.1)).2
    have hb12 := hb1.trans (hb2.mono hb1.size)
    have hT2 := hT.below hb12
    have hS2 := h.below hb12
    go_wp2_with fail
    refine (hL0.out w2 hS2).mono ?_
    rintro e w9 ⟨he, rfl⟩
    rw [if_pos (by rw [hs.out])] at he
    subst he
    have hA1 := (hM1.below hb2).sl hlt.out (by omega)
    have hA2 := hM2.sl hlp.out (by omega)
    clear hM1 hM2
    generalize hsn : slN xs = sn at *
    have hR := Lib.hid (fun w' (h' : Sl .i64 w' A n c xs) => hsn ▸ RSlack_any A n c xs w' h' (by omega) hAll.out)
    clear hsn
    go_wp2_with (first
      | (go_at_call 23; refine (All_any _ _ _ _ _ _ _ hS2).mono ?_; rintro e w' ⟨he, rfl⟩; rw [hAll.out] at he; subst he)
      | (go_at_call 24; refine (hR.out _ hS2).mono ?_; rintro e w3 ⟨rfl, k0, hw3⟩
         have hb23 : Below w9.heap.size w9 w3 := by rw [hw3]; exact bel_drewN (Below.refl _ _) k0
         have hb3 := hb12.trans (hb23.mono hb12.size)
         have hT3 := hT.below hb3
         have hS3 := h.below hb3
         have hA13 := hA1.below hb23
         have hA23 := hA2.below hb23
         clear hw3)
      | (go_at_call 25; refine (RLength_any _ _).mono ?_; rintro e w' ⟨he, rfl⟩; rw [hLen.out] at he; subst he)
      | (go_at_call 27; refine (RTransform_any _ _ _ _ _ hS3 hT3 hk.out).mono ?_; rintro e w4 ⟨g4, rfl, hM4, hb34, hg4⟩
         have hb4 := hb3.trans (hb34.mono hb3.size)
         have hB4 := hM4.sl hlt.out (by omega)
         have hA14 := hA13.below hb34
         have hA24 := hA23.below hb34)
      | (go_at_call 26; refine (Same_bel _ _ _ _ _ _ _ _ hA14 hB4).mono ?_; rintro e w5 ⟨rfl, hb45⟩
         have hb5 := hb4.trans (hb45.mono hb4.size)
         have hT5 := hT.below hb5
         have hS5 := h.below hb5
         have hA25 := hA24.below hb45
         clear hA14 hB4 hA13 hA23 hA24)
      | (go_at_call 28; refine (RSpectrum_any _ _ _ _ _ hS5 hT5 hk.out).mono ?_; rintro e w6 ⟨g6, rfl, hM6, hb56, hg6⟩
         have hb6 := hb5.trans (hb56.mono hb5.size)
         have hB6 := hM6.sl hlp.out (by omega)
         have hA26 := hA25.below hb56)
      | (go_at_call 26; refine (Same_bel _ _ _ _ _ _ _ _ hA26 hB6).mono ?_; rintro e w8 ⟨rfl, hb68⟩
         have hb8 := hb6.trans (hb68.mono hb6.size)
         have hT8 := hT.below hb8)
      | (go_at_call 17; refine (known_any _ hT8).mono ?_; rintro e w7 ⟨rfl, hb7⟩))
    go_ret
    exact ⟨rfl, hb8.trans (hb7.mono hb8.size)⟩
end Go.Proofs.YtoljffghaklpdaaDoor


/- The document's vectors: distance, vectors, codebook, errors, the nearest codeword; few. -/
namespace Go.Proofs.YtoljffghaklpdaaDoor
open Go.RowKit

set_option maxHeartbeats 800000 in
theorem RDistance_any (A A' : Option Addr) (n c c' : Nat) (xs ys : List Int) (w : World) (h : Sl .i64 w A n c xs) (h' : Sl .i64 w A' n c' ys) (hn : n ≤ 64)
    (hx : allB (-1048576) 1048576 xs = true) (hy : allB (-1048576) 1048576 ys = true) :
    Calls Tryd.prog 48 #[.slice A n c, .slice A' n c'] w fun e w' => e = .returned (.int .i64 (dist xs ys)) ∧ ∃ r, w' = w.drewN r := by
  have hl := Lib.hid h.len
  have hl' := Lib.hid h'.len
  have hcap := h.cap
  have htop := h.top
  have hcap' := h'.cap
  have htop' := h'.top
  have hd := Lib.hid (show dist xs ys = sm n (dsF xs ys) by unfold dist; rw [hl.out])
  have hsb := Lib.hid (fun j (hj : j ≤ n) => dsS_bd hx hy (by rw [hl.out, hl'.out]) (by rw [hl.out]; exact hn) (j := j) (by rw [hl.out]; exact hj))
  have hx := Lib.hid hx
  have hy := Lib.hid hy
  go_enter Tryd.func48, Tryd.ntmps48
  go_wp2
  go_loopw [5, 6] (fun sv iv wr => ∃ k r : Nat, iv = .int .i64 k ∧ k ≤ n ∧ sv = .int .i64 (sm k (dsF xs ys)) ∧ wr = w.drewN r) (fun _ iv _ => n - (intOf iv).toNat)
  case atStart => exact ⟨0, 0, rfl, Nat.zero_le _, rfl, rfl⟩
  case round =>
    obtain ⟨k, r, rfl, hkn, rfl, rfl⟩ := hrel
    have hr := h.drewN r
    have hr' := h'.drewN r
    generalize hw : w.drewN r = w1 at *
    have hw := Lib.hid hw
    rcases Nat.lt_or_ge k n with hlt | hge
    · obtain ⟨ax, x, rfl, hcx, hxx⟩ := hr.at_ hlt
      obtain ⟨ay, y, rfl, hcy, hyy⟩ := hr'.at_ hlt
      have hs1 := hsb.out k hkn
      have hs2 := hsb.out (k + 1) hlt
      have hstep := Lib.hid (show sm (k + 1) (dsF xs ys) = sm k (dsF xs ys) + (x - y) * (x - y) by show sm k _ + dsF xs ys k = _; unfold dsF; rw [hxx.out, hyy.out])
      have hxb := allB_get hx.out (by rw [hl.out]; exact hlt) hxx.out
      have hyb := allB_get hy.out (by rw [hl'.out]; exact hlt) hyy.out
      rw [hstep.out] at hs2
      obtain ⟨p, hp⟩ : ∃ p, (x - y) * (x - y) = p := ⟨_, rfl⟩
      rw [hp] at hs2
      have hstep' := Lib.hid (show sm (k + 1) (dsF xs ys) = sm k (dsF xs ys) + p by rw [hstep.out, hp])
      generalize sm k (dsF xs ys) = S at *
      have hpb : -281474976710656 ≤ p ∧ p ≤ 281474976710656 := by omega
      have e1 : IntKind.i64.wrap (x - y) = x - y := IntWalk.i64_in _ (by omega)
      have e2 : IntKind.i64.wrap ((x - y) * (x - y)) = p := by rw [hp]; exact IntWalk.i64_in _ (by omega)
      have e3 : IntKind.i64.wrap (S + p) = S + p := IntWalk.i64_in _ (by omega)
      have i0 : (0 : Int) ≤ (k : Int) := by omega
      have i1 : (k : Int) < (n : Int) := by omega
      clear hp hpb hxb hyb hs1 hs2 hstep
      go_wp2
      go_quiet (fail)
      go_wp2
      go_roundw
      case rel => exact ⟨k + 1, r + nq, by go_num, hlt, by rw [hstep'.out], by rw [← hw.out]; exact dr_add w r nq⟩
      case measure => simp [intOf]; omega
    · have hkn : k = n := by omega
      subst hkn
      go_wp2
      go_ret
      exact ⟨ret_int hd.out.symm, r, hw.out.symm⟩

theorem nrS_at {x : List Int} {us : List (List Int)} (hx : allB (-1048576) 1048576 x = true) (hl2 : x.length ≤ 64) (hu : ∀ u ∈ us, u.length = x.length ∧ allB (-1048576) 1048576 u = true) {k : Nat} (h1 : 1 ≤ k) (hk : k ≤ us.length) :
    (nrS x us k).2 = dist x (us.getD (nrS x us k).1 []) := by
  induction k with
  | zero => omega
  | succ k ih =>
    have hm : us.getD k [] ∈ us := by rw [List.getD_eq_getElem?_getD, List.getElem?_eq_getElem (by omega)]; exact List.getElem_mem _
    have h2 := hu _ hm
    have h3 := dsS_bd hx h2.2 h2.1.symm hl2 (Nat.le_refl _)
    have h5 : dist x (us.getD k []) ≤ 281474976710656 := h3.2
    unfold nrS
    split
    · rfl
    · rename_i hn
      rcases Nat.eq_zero_or_pos k with rfl | hp
      · exfalso
        apply hn
        show dist x (us.getD 0 []) < 9223372036854775807
        omega
      · exact ih hp (by omega)

set_option maxHeartbeats 1600000 in
theorem RNearest_any (A A' : Option Addr) (m c n c' : Nat) (xs : List Int) (us : List (List Int)) (w : World) (h : Sl .i64 w A m c xs) (h' : Rr w A' n c' us) (hx : allB (-1048576) 1048576 xs = true) (hm2 : m ≤ 64) (hn : 1 ≤ n)
    (hu : ∀ u ∈ us, u.length = m ∧ allB (-1048576) 1048576 u = true) :
    Calls Tryd.prog 51 #[.slice A m c, .slice A' n c'] w fun e w' => e = .returned (.int .i64 ((nrS xs us n).1 : Nat)) ∧ ∃ r, w' = w.drewN r := by
  have hl := Lib.hid h.len
  have hl' := Lib.hid h'.len
  have hcap := h.cap
  have htop := h.top
  have hcap' := h'.cap
  have htop' := h'.top
  have hu' : ∀ u ∈ us, u.length = xs.length ∧ allB (-1048576) 1048576 u = true := fun u h9 => by rw [hl.out]; exact hu u h9
  have hbd := Lib.hid (fun k (hk : k ≤ n) => nrS_bd hx (by rw [hl.out]; exact hm2) hu' (k := k) (by rw [hl'.out]; exact hk))
  have hat := Lib.hid (fun k (h1 : 1 ≤ k) (hk : k ≤ n) => nrS_at hx (by rw [hl.out]; exact hm2) hu' h1 (k := k) (by rw [hl'.out]; exact hk))
  have h01 := Lib.hid (show (nrS xs us 1).1 = 0 by have := (hbd.out 1 hn).2.2.2 (by decide); omega)
  have hx := Lib.hid hx
  have hu := Lib.hid hu
  clear hu'
  go_enter Tryd.func51, Tryd.ntmps51
  go_wp2
  go_loopw [5, 6] (fun av iv wr => ∃ k r : Nat, iv = .int .i64 k ∧ 1 ≤ k ∧ k ≤ n ∧ av = .int .i64 ((nrS xs us k).1 : Nat) ∧ wr = w.drewN r) (fun _ iv _ => n - (intOf iv).toNat)
  case atStart => exact ⟨1, 0, rfl, Nat.le_refl _, hn, by rw [h01.out]; rfl, rfl⟩
  case round =>
    obtain ⟨k, r, rfl, hk1, hkn, rfl, rfl⟩ := hrel
    have hr := h.drewN r
    have hr' := h'.below (bel_drewN (Below.refl _ _) r)
    generalize hw : w.drewN r = w1 at *
    have hw := Lib.hid hw
    have hb := (hbd.out k hkn).2.2.2 (by omega)
    have hb2 := hb.2
    clear hb
    have hatk := Lib.hid (hat.out k hk1 hkn)
    obtain ⟨a, ha⟩ : ∃ a, (nrS xs us k).1 = a := ⟨_, rfl⟩
    have hnx := Lib.hid (show (nrS xs us (k + 1)).1 = if dist xs (us.getD k []) < dist xs (us.getD a []) then k else a by
      show (if dist xs (us.getD k []) < (nrS xs us k).2 then (k, _) else nrS xs us k).1 = _
      rw [hatk.out, ha]
      split
      · rfl
      · exact ha)
    have hfin := Lib.hid (show k = n → (nrS xs us n).1 = a from fun e => by rw [← e]; exact ha)
    rw [ha] at hb2
    rw [ha]
    clear ha hatk
    rcases Nat.lt_or_ge k n with hlt | hge
    · obtain ⟨ad, B, L, C, y, rfl, hc, hy, hS, _⟩ := hr'.at_ hlt
      obtain ⟨ad2, B2, L2, C2, y2, e2, hc2, hy2, hS2, _⟩ := hr'.at_ (i := a) (by omega)
      injection e2 with e2
      subst e2
      have hum := hu.out y (List.mem_of_getElem? hy.out)
      have hLm : L = m := by rw [← hS.len]; exact hum.1
      subst hLm
      have hum2 := hu.out y2 (List.mem_of_getElem? hy2.out)
      have hLm2 : L2 = L := by rw [← hS2.len]; exact hum2.1
      subst hLm2
      have hyb := Lib.hid hum.2
      have hyb2 := Lib.hid hum2.2
      have hd1 := Lib.hid (fun (i : Nat) => RDistance_any _ _ _ _ _ _ _ (w1.drewN i) (hr.drewN i) (hS.drewN i) hm2 hx.out hyb.out)
      have hd2 := Lib.hid (fun (i : Nat) => RDistance_any _ _ _ _ _ _ _ (w1.drewN i) (hr.drewN i) (hS2.drewN i) hm2 hx.out hyb2.out)
      rw [getD_some hy.out, getD_some hy2.out] at hnx
      generalize dist xs y = D1 at *
      generalize dist xs y2 = D2 at *
      clear hum hum2
      have i0 : (0 : Int) ≤ (k : Int) := by omega
      have i1 : (k : Int) < (n : Int) := by omega
      have i2 : (0 : Int) ≤ (a : Int) := by omega
      have i3 : (a : Int) < (n : Int) := by omega
      rcases Int.lt_or_le D1 D2 with hlt2 | hge2
      · have hdd : decide (D1 < D2) = true := decide_eq_true hlt2
        have hz := Lib.hid (show (nrS xs us (k + 1)).1 = k by rw [hnx.out, if_pos hlt2])
        go_wp2
        go_quiet (first | (go_at_call_of 48 (Value.slice B L2 C); exact Calls.quiet_of (hd1.out _)) | (go_at_call_of 48 (Value.slice B2 L2 C2); exact Calls.quiet_of (hd2.out _)))
        go_wp2
        go_roundw
        case rel => exact ⟨k + 1, r + nq, by go_num, by omega, hlt, by rw [hz.out], by rw [← hw.out]; exact dr_add w r nq⟩
        case measure => simp [intOf]; omega
      · have hdd : decide (D1 < D2) = false := decide_eq_false (by omega)
        have hz := Lib.hid (show (nrS xs us (k + 1)).1 = a by rw [hnx.out, if_neg (by omega)])
        go_wp2
        go_quiet (first | (go_at_call_of 48 (Value.slice B L2 C); exact Calls.quiet_of (hd1.out _)) | (go_at_call_of 48 (Value.slice B2 L2 C2); exact Calls.quiet_of (hd2.out _)))
        go_wp2
        go_roundw
        case rel => exact ⟨k + 1, r + nq, by go_num, by omega, hlt, by rw [hz.out], by rw [← hw.out]; exact dr_add w r nq⟩
        case measure => simp [intOf]; omega
    · have hkn' : k = n := by omega
      have hf := Lib.hid (hfin.out hkn')
      subst hkn'
      go_wp2
      go_ret
      exact ⟨ret_int (by rw [hf.out]), r, hw.out.symm⟩
end Go.Proofs.YtoljffghaklpdaaDoor


/- The document's vectors, codebook, errors; few. -/
namespace Go.Proofs.YtoljffghaklpdaaDoor
open Go.RowKit

theorem rr_head {w : World} {A : Option Addr} {n c : Nat} {vs : List (List Int)} (h : Rr w A n c vs) (hn : 0 < n) : ∃ ad B L C x, A = some ad ∧ w.cell? ad = some (.slice B L C) ∧ vs.headD [] = x ∧ Sl .i64 w B L C x ∧ L ≤ 17592186044416 := by
  obtain ⟨ad, B, L, C, x, rfl, hc, hy, hS, _, hL⟩ := h.at_ hn
  refine ⟨ad, B, L, C, x, rfl, by rw [show ad.add 0 = ad from by unfold Addr.add; simp] at hc; exact hc, ?_, hS, hL⟩
  have := hy.out
  cases vs with
  | nil => cases this
  | cons v vs => injection this

set_option maxHeartbeats 3200000 in
set_option maxRecDepth 100000 in
theorem RVectors_any (A : Option Addr) (n c : Nat) (vs : List (List Int)) (w : World) (h : Rr w A n c vs) :
    Calls Tryd.prog 45 #[.slice A n c] w fun e w' => e = .returned (.bool (vecsB vs)) ∧ ∃ r, w' = w.drewN r := by
  have hl := Lib.hid h.len
  have hcap := h.cap
  have htop := h.top
  go_enter Tryd.func45, Tryd.ntmps45
  go_wp2
  go_loopw [3] (fun iv wr => ∃ k r : Nat, iv = .int .i64 k ∧ k ≤ n ∧ Hid ((vs.take k).all (rowOk vs) = true) ∧ wr = w.drewN r) (fun iv _ => n - (intOf iv).toNat)
  case atStart => exact ⟨0, 0, rfl, Nat.zero_le _, Lib.hid rfl, rfl⟩
  case round =>
    obtain ⟨k, r, rfl, hkn, hall, rfl⟩ := hrel
    have hr := h.below (bel_drewN (Below.refl _ _) r)
    generalize hw : w.drewN r = w1 at *
    have hw := Lib.hid hw
    rcases Nat.lt_or_ge k n with hlt | hge
    · obtain ⟨ad, B, L, C, y, rfl, hc, hy, hS, _, hLb⟩ := hr.at_ hlt
      obtain ⟨ad0, B0, L0, C0, y0, e0, hc0, hy0, hS0, hLb0⟩ := rr_head hr (by omega)
      injection e0 with e0
      subst e0
      have hyl := Lib.hid hS.len
      have hyl0 := Lib.hid hS0.len
      have hrow := Lib.hid (show rowOk vs y = (okB 1 64 (L : Int) && allB (-1048576) 1048576 y && decide (L = L0)) by unfold rowOk vecB; rw [hy0, hyl.out, hyl0.out])
      have hno := Lib.hid (fun (hf : rowOk vs y = false) => show vecsB vs = false by
        unfold vecsB
        rw [List.all_eq_false]
        exact ⟨y, List.mem_of_getElem? hy.out, by rw [hf]; simp⟩)
      have hyes := Lib.hid (fun (hf : rowOk vs y = true) => take_all_snoc hall.out hy.out hf)
      have hall2 := Lib.hid (fun (i : Nat) => (All_any B L C y (-1048576) 1048576 (w1.drewN i) (hS.drewN i)).mono (fun e w' h9 => (⟨h9.1, h9.2.symm⟩ : e = .returned (.bool (allB (-1048576) 1048576 y)) ∧ w' = w1.drewN i)))
      clear hy0
      have i0 : (0 : Int) ≤ (k : Int) := by omega
      have i1 : (k : Int) < (n : Int) := by omega
      have i2 : (0 : Int) < (n : Int) := by omega
      have hn1 : 0 < n := by omega
      have hc00 : w1.cell? (ad.add 0) = some (.slice B0 L0 C0) := by rw [show ad.add 0 = ad from by unfold Addr.add; simp]; exact hc0
      have hcases : L < 1 ∨ (1 ≤ L ∧ 64 < L) ∨ (1 ≤ L ∧ L ≤ 64 ∧ ¬ L = L0) ∨ (1 ≤ L ∧ L ≤ 64 ∧ L = L0) := by omega
      rcases hcases with c1 | ⟨c1, c2⟩ | ⟨c1, c2, c3⟩ | ⟨c1, c2, c3⟩
      · have hbad := Lib.hid (hno.out (by rw [hrow.out, okB_lo (by omega)]; rfl))
        have d1 : decide ((L : Int) < 1) = true := decide_eq_true (by omega)
        go_wp2
        go_quiet (fail)
        go_wp2
        go_ret
        exact ⟨ret_bool hbad.out.symm, r + nq, by rw [← hw.out]; exact dr_add w r nq⟩
      · have hbad := Lib.hid (hno.out (by rw [hrow.out, okB_hi (by omega)]; rfl))
        have d1 : decide ((L : Int) < 1) = false := decide_eq_false (by omega)
        have d2 : decide (64 < (L : Int)) = true := decide_eq_true (by omega)
        go_wp2
        go_quiet (fail)
        go_wp2
        go_ret
        exact ⟨ret_bool hbad.out.symm, r + nq, by rw [← hw.out]; exact dr_add w r nq⟩
      · have hbad := Lib.hid (hno.out (by rw [hrow.out, decide_eq_false c3, Bool.and_false]))
        have d1 : decide ((L : Int) < 1) = false := decide_eq_false (by omega)
        have d2 : decide (64 < (L : Int)) = false := decide_eq_false (by omega)
        have d3 : ((L : Int) == (L0 : Int)) = false := by rw [beq_eq_false_iff_ne]; omega
        have d4 : ((L : Int) != (L0 : Int)) = true := by rw [bne_iff_ne]; omega
        have d5 : ¬ (L : Int) = (L0 : Int) := by omega
        clear hrow hno hyes
        go_wp2
        go_quiet (fail)
        go_wp2
        go_ret
        exact ⟨ret_bool hbad.out.symm, r + nq, by rw [← hw.out]; exact dr_add w r nq⟩
      · subst c3
        have d1 : decide ((L : Int) < 1) = false := decide_eq_false (by omega)
        have d2 : decide (64 < (L : Int)) = false := decide_eq_false (by omega)
        cases hA : allB (-1048576) 1048576 y with
        | false =>
          have hbad := Lib.hid (hno.out (by rw [hrow.out, hA, Bool.and_false]; rfl))
          rw [hA] at hall2
          clear hA
          go_wp2
          go_quiet ((go_at_call 23; exact Calls.quiet_of_same (hall2.out _)))
          go_wp2
          go_ret
          exact ⟨ret_bool hbad.out.symm, r + nq, by rw [← hw.out]; exact dr_add w r nq⟩
        | true =>
          have hok := Lib.hid (hyes.out (by rw [hrow.out, hA, okB_mk (by omega) (by omega)]; simp))
          rw [hA] at hall2
          clear hA
          go_wp2
          go_quiet ((go_at_call 23; exact Calls.quiet_of_same (hall2.out _)))
          go_wp2
          go_roundw
          case rel => exact ⟨k + 1, r + nq, by go_num, hlt, hok, by rw [← hw.out]; exact dr_add w r nq⟩
          case measure => simp [intOf]; omega
    · have hkn' : k = n := by omega
      have hfin := Lib.hid (show vecsB vs = true by
        have := hall.out
        rw [List.take_of_length_le (by rw [hl.out]; omega)] at this
        exact this)
      go_wp2
      go_ret
      exact ⟨ret_bool hfin.out.symm, r, hw.out.symm⟩

theorem RBook_any (A : Option Addr) (n c : Nat) (us : List (List Int)) (w : World) (h : Rr w A n c us) :
    Calls Tryd.prog 50 #[.slice A n c] w fun e w' => e = .returned (.bool (okB 1 256 (n : Int) && vecsB us)) ∧ ∃ r, w' = w.drewN r := by
  have hcap := h.cap
  have htop := h.top
  rcases Nat.lt_or_ge n 1 with h1 | h1
  · have hv := Lib.hid (show (okB 1 256 (n : Int) && vecsB us) = false by rw [okB_lo (by omega)]; rfl)
    go_enter Tryd.func50, Tryd.ntmps50
    go_wp2
    go_ret
    exact ⟨ret_bool hv.out.symm, 0, rfl⟩
  rcases Nat.lt_or_ge 256 n with h2 | h2
  · have hv := Lib.hid (show (okB 1 256 (n : Int) && vecsB us) = false by rw [okB_hi (by omega)]; rfl)
    go_enter Tryd.func50, Tryd.ntmps50
    go_wp2
    go_ret
    exact ⟨ret_bool hv.out.symm, 0, rfl⟩
  · have hv := Lib.hid (show (okB 1 256 (n : Int) && vecsB us) = vecsB us by rw [okB_mk (by omega) (by omega)]; rfl)
    go_enter Tryd.func50, Tryd.ntmps50
    go_wp2_with fail
    refine (RVectors_any _ _ _ _ _ h).mono ?_
    rintro e w1 ⟨rfl, r, hw1⟩
    go_wp2
    go_ret
    exact ⟨ret_bool hv.out.symm, r, rfl⟩

def IsB (e : Ending) : Prop := ∃ b, e = .returned (.bool b)
theorem isB (b : Bool) : IsB (.returned (.bool b)) := ⟨b, rfl⟩
set_option maxHeartbeats 1600000 in
set_option maxRecDepth 100000 in
theorem few_any (A : Option Addr) (n c m : Nat) (vs : List (List Int)) (w : World) (h : Rr w A n c vs) (hm : m ≤ 1000) :
    Calls Tryd.prog 39 #[.slice A n c, .int .i64 (m : Int)] w fun e w' => IsB e ∧ w' = w := by
  have hcap := h.cap
  have htop := h.top
  go_enter Tryd.func39, Tryd.ntmps39
  go_wp2
  go_loop [5] (fun iv => ∃ k : Nat, iv = .int .i64 k ∧ k ≤ n) (fun iv => n - (intOf iv).toNat)
  case atStart => exact ⟨0, rfl, Nat.zero_le _⟩
  case round =>
    obtain ⟨k, rfl, hkn⟩ := hrel
    have hcs : (k < n ∧ k ≤ m) ∨ ((¬ k < n ∨ (k < n ∧ m < k)) ∧ (n ≤ m ∨ (m < n ∧ n ≤ 10000) ∨ (m < n ∧ 10000 < n ∧ n < 20000) ∨ (m < n ∧ 10000 < n ∧ ¬ n < 20000))) := by omega
    rcases hcs with ⟨c1, c2⟩ | ⟨c1, c2⟩
    · obtain ⟨ad, B, L, C, y, rfl, hc, hy, hS, _, hLb⟩ := h.at_ c1
      have d1 : decide ((k : Int) < (n : Int)) = true := decide_eq_true (by omega)
      have d2 : decide ((k : Int) ≤ (m : Int)) = true := decide_eq_true (by omega)
      have i0 : (0 : Int) ≤ (k : Int) := by omega
      rcases Nat.lt_or_ge 70 L with hL | hL
      · go_wp2
        go_ret
        exact ⟨isB _, rfl⟩
      · go_wp2
        go_round
        case rel => exact ⟨k + 1, by go_num, c1⟩
        case measure => simp [intOf]; omega
    · rcases c1 with c1 | ⟨c1, c3⟩
      case' inl => have d1 : decide ((k : Int) < (n : Int)) = false := decide_eq_false (by omega)
      case' inr =>
        have d1 : decide ((k : Int) < (n : Int)) = true := decide_eq_true (by omega)
        have d2 : decide ((k : Int) ≤ (m : Int)) = false := decide_eq_false (by omega)
      all_goals rcases c2 with c2 | ⟨c2, c4⟩ | ⟨c2, c4, c5⟩ | ⟨c2, c4, c5⟩
      all_goals first
        | have d3 : decide ((n : Int) ≤ (m : Int)) = true := decide_eq_true (by omega)
        | (have d3 : decide ((n : Int) ≤ (m : Int)) = false := decide_eq_false (by omega)
           first
            | have d4 : decide (10000 < (n : Int)) = false := decide_eq_false (by omega)
            | (have d4 : decide (10000 < (n : Int)) = true := decide_eq_true (by omega)
               first
                | have d5 : decide ((n : Int) < 20000) = true := decide_eq_true (by omega)
                | have d5 : decide ((n : Int) < 20000) = false := decide_eq_false (by omega)))
      all_goals first
        | (go_wp2; done)
        | (go_wp2; go_ret; exact ⟨isB _, rfl⟩)
end Go.Proofs.YtoljffghaklpdaaDoor
