/- Canonical: whether a number stands in its one form; of the program and of the document. -/
import Derived.Test.YtanaljnclajkdaaGreatDoorHK
import Derived.Test.YtanaljnclajkdaaGreatDoorGE
import Derived.Test.YtanaljnclajkdaaGreatDoorHC
import Derived.Test.YtanaljnclajkdaaGreatDoorJK
namespace Go.Proofs.YtanaljnclajkdaaGreatDoor.Fr
open Go.RowKit Num

/-- the digits and the sign are those of the one form -/
def Can (s : Bool) (xs ys : List Nat) : Prop :=
  Nrm xs ∧ Nrm ys ∧ vl (bs .u32) ys ≠ 1 ∧ (vl (bs .u32) xs = 0 → vl (bs .u32) ys = 0 ∧ s = false) ∧ (0 < vl (bs .u32) xs → vl (bs .u32) ys = 0 ∨ (vl (bs .u32) xs).gcd (vl (bs .u32) ys) = 1)
def Can2 (s : Bool) (xs ys : List Nat) (q : Rat) : Prop :=
  Nrm xs ∧ Nrm ys ∧ s = decide (q.num < 0) ∧ vl (bs .u32) xs = q.num.natAbs ∧ vl (bs .u32) ys = dw q.den
theorem can_iff {s : Bool} {xs ys : List Nat} : Can s xs ys ↔ Can2 s xs ys (fq s (vl (bs .u32) xs) (dn (vl (bs .u32) ys))) := by
  unfold Can Can2
  generalize vl (bs .u32) xs = X
  generalize vl (bs .u32) ys = Y
  rw [fq_lt (dn_pos' Y), fq_abs (dn_pos' Y), fq_den (dn_pos' Y)]
  rcases Nat.eq_zero_or_pos X with hX | hX
  · subst hX
    rw [Nat.gcd_zero_left (dn Y), Nat.div_self (dn_pos' Y), Nat.zero_div]
    constructor
    · rintro ⟨h1, h2, h3, h4, _⟩
      obtain ⟨h4, h5⟩ := h4 rfl
      exact ⟨h1, h2, by rw [h5]; rfl, rfl, by rw [h4]; rfl⟩
    · rintro ⟨h1, h2, h3, _, h5⟩
      have h5 : Y = 0 := h5
      exact ⟨h1, h2, by omega, fun _ => ⟨h5, by rw [h3]; simp⟩, fun h => absurd h (by omega)⟩
  · have hd : decide (0 < X) = true := decide_eq_true hX
    rw [hd, Bool.and_true]
    have hg : 0 < X.gcd (dn Y) := Nat.gcd_pos_of_pos_left _ hX
    constructor
    · rintro ⟨h1, h2, h3, _, h5⟩
      rcases Nat.eq_zero_or_pos Y with h0 | h0
      · subst h0
        refine ⟨h1, h2, rfl, ?_, ?_⟩
        · rw [dn_zero, Nat.gcd_one_right, Nat.div_one]
        · rw [dn_zero, Nat.gcd_one_right]; rfl
      · have h : X.gcd Y = 1 := by
          rcases h5 hX with h | h
          · omega
          · exact h
        rw [dn_pos h0, h, Nat.div_one, Nat.div_one]
        exact ⟨h1, h2, rfl, rfl, by unfold dw; rw [if_neg h3]⟩
    · rintro ⟨h1, h2, _, h4, h5⟩
      have hg1 : X.gcd (dn Y) = 1 := by
        rcases Nat.lt_or_ge 1 (X.gcd (dn Y)) with h | h
        · have := Nat.div_lt_self hX h
          omega
        · omega
      rw [hg1, Nat.div_one] at h5
      rcases Nat.eq_zero_or_pos Y with h0 | h0
      · subst h0
        exact ⟨h1, h2, by decide, fun h => absurd h (by omega), fun _ => .inl rfl⟩
      · rw [dn_pos h0] at h5 hg1
        have h3 : Y ≠ 1 := by
          intro h
          rw [h] at h5
          exact absurd h5 (by decide)
        exact ⟨h1, h2, h3, fun h => absurd h (by omega), fun _ => .inr hg1⟩

set_option linter.unusedSimpArgs false in
set_option maxHeartbeats 6400000 in
set_option maxRecDepth 100000 in
theorem canonicalQ (s : Bool) (A : Option Addr) (n c : Nat) (A' : Option Addr) (n' c' : Nat) (xs ys : List Nat) (w : World) (h : Dg .u32 w A n c xs) (h' : Dg .u32 w A' n' c' ys) (hn : n ≤ 700000) (hn' : n' ≤ 700000) :
    Calls Tryz.prog 23 #[.agg #[.bool s, .slice A n c, .slice A' n' c']] w fun e w' => ∃ b, e = .returned (.bool b) ∧ Hid (b = true ↔ Can s xs ys) ∧ Below w.heap.size w w' := by
  have B1 := Blk.new w 24 #[.bool s, .slice A n c, .slice A' n' c']
  have hw0 := (Below.refl w.heap.size w).alloc (Nat.le_refl _) (.cells #[.bool s, .slice A n c, .slice A' n' c'] 24)
  have h := h.below hw0
  have h' := h'.below hw0
  go_enter Tryz.func23, Tryz.ntmps23
  go_upto_region 1 with fail
  generalize w.alloc (.cells #[.bool s, .slice A n c, .slice A' n' c'] 24) = w1 at *
  have hbd : Below w1.heap.size w1 w1.drew := (Below.refl _ _).drew
  have k1 : w1.cell? ⟨w.heap.size, 1, none⟩ = some (.slice A n c) := B1.cell 1
  have k2 : w1.cell? ⟨w.heap.size, 2, none⟩ = some (.slice A' n' c') := B1.cell 2
  go_region_held3 (fun wx => wx.cell? ⟨w.heap.size, 1, none⟩ = some (.slice A n c) ∧ wx.cell? ⟨w.heap.size, 2, none⟩ = some (.slice A' n' c'))
    (first | exact ⟨k1, k2⟩ | exact Kw5 | exact Kw6)
    (first
      | (go_at_call_of 72 (Value.slice A n c); refine (fromDigits_any _ _ _ _ _ (h.below hbd) (by omega)).mono ?_; rintro e w5 ⟨A5, m5, c5, u5, rfl, D5, N5, V5, M5, hb5, _⟩; have Kw5 : w5.cell? ⟨w.heap.size, 1, none⟩ = some (.slice A n c) ∧ w5.cell? ⟨w.heap.size, 2, none⟩ = some (.slice A' n' c') := ⟨((B1.drew).below hb5).cell 1, ((B1.drew).below hb5).cell 2⟩)
      | (go_at_call_of 72 (Value.slice A' n' c'); refine (fromDigits_any _ _ _ _ _ ((h'.below hbd).below hb5) (by omega)).mono ?_; rintro e w6 ⟨A6, m6, c6, u6, rfl, D6, N6, V6, M6, hb6, _⟩; have Kw6 : w6.cell? ⟨w.heap.size, 1, none⟩ = some (.slice A n c) ∧ w6.cell? ⟨w.heap.size, 2, none⟩ = some (.slice A' n' c') := ⟨(((B1.drew).below hb5).below hb6).cell 1, (((B1.drew).below hb5).below hb6).cell 2⟩))
  have z1 := hw0.drew
  have z2 := z1.trans (hb5.mono z1.size)
  have hzz := z2.trans (hb6.mono z2.size)
  have CB := ((B1.drew).below hb5).below hb6
  have D5 := D5.below hb6
  have h5 := ((h.below hbd).below hb5).below hb6
  have h6 := ((h'.below hbd).below hb5).below hb6
  clear z1 z2 hb5 hb6 Kw5 Kw6 k1 k2 B1 hbd hw0 h h'
  have hX := nv_pos D5 N5 (by decide) V5
  have hY := nv_pos D6 N6 (by decide) V6
  obtain ⟨X, eX⟩ : ∃ X, vl (bs .u32) xs = X := ⟨_, rfl⟩
  obtain ⟨Y, eY⟩ : ∃ Y, vl (bs .u32) ys = Y := ⟨_, rfl⟩
  rw [eX] at V5 hX
  rw [eY] at V6 hY
  have hP := Lib.hid (show Can s xs ys ↔ (Nrm xs ∧ Nrm ys ∧ Y ≠ 1 ∧ (X = 0 → Y = 0 ∧ s = false) ∧ (0 < X → Y = 0 ∨ X.gcd Y = 1)) by rw [← eX, ← eY]; exact Iff.rfl)
  clear eX eY
  have hX := Lib.hid hX
  have hY := Lib.hid hY
  have r1 := CB.cell 1
  have r2 := CB.cell 2
  have r0 := CB.cell 0
  have t5 := D5.cap
  have t6 := D6.cap
  go_wp2_with fail
  refine (endsQ _ _ _ xs _ h5).mono ?_
  rintro e w7 ⟨b1, rfl, e1, rfl⟩
  cases b1 with
  | true =>
    have hN := Lib.hid (show ¬ Can _ xs ys from fun hp => absurd (e1.out.2 (hP.out.1 hp).1) (by decide))
    go_wp2
    go_ret
    exact ⟨false, rfl, ⟨fun h => absurd h (by decide), fun h => absurd h hN.out⟩, hzz⟩
  | false =>
    have f1 := Lib.hid (e1.out.1 rfl)
    clear e1
    go_wp2_with fail
    refine (endsQ _ _ _ ys _ h6).mono ?_
    rintro e w8 ⟨b2, rfl, e2, rfl⟩
    cases b2 with
    | true =>
      have hN := Lib.hid (show ¬ Can _ xs ys from fun hp => absurd (e2.out.2 (hP.out.1 hp).2.1) (by decide))
      go_wp2
      go_ret
      exact ⟨false, rfl, ⟨fun h => absurd h (by decide), fun h => absurd h hN.out⟩, hzz⟩
    | false =>
      have f2 := Lib.hid (e2.out.1 rfl)
      clear e2
      go_wp2_with fail
      by_cases hy1 : Y = 1
      · have hN := Lib.hid (show ¬ Can _ xs ys from fun hp => (hP.out.1 hp).2.2.1 hy1)
        refine (isOne_any _ _ _ u6 _ D6 N6 Y V6 true (decide_eq_true hy1)).mono ?_
        rintro e w9 ⟨rfl, rfl⟩
        clear hy1
        go_wp2
        go_ret
        exact ⟨false, rfl, ⟨fun h => absurd h (by decide), fun h => absurd h hN.out⟩, hzz⟩
      · refine (isOne_any _ _ _ u6 _ D6 N6 Y V6 false (decide_eq_false hy1)).mono ?_
        rintro e w9 ⟨rfl, rfl⟩
        have hy1 := Lib.hid hy1
        rcases Nat.eq_zero_or_pos m5 with hm | hm
        · subst hm
          have hX0 := Lib.hid (show X = 0 by have := hX.out; have h9 : ¬ 0 < X := of_decide_eq_false (this.symm.trans (by decide)); omega)
          rcases Nat.eq_zero_or_pos m6 with hk | hk
          · subst hk
            have hY0 := Lib.hid (show Y = 0 by have := hY.out; have h9 : ¬ 0 < Y := of_decide_eq_false (this.symm.trans (by decide)); omega)
            cases s with
            | true =>
              have hN := Lib.hid (show ¬ Can _ xs ys from fun hp => absurd ((hP.out.1 hp).2.2.2.1 hX0.out).2 (by decide))
              go_wp2
              go_ret
              exact ⟨false, rfl, ⟨fun h => absurd h (by decide), fun h => absurd h hN.out⟩, hzz⟩
            | false =>
              have hN := Lib.hid (show Can _ xs ys from hP.out.2 ⟨f1.out, f2.out, hy1.out, fun _ => ⟨hY0.out, rfl⟩, fun h => absurd h (by have := hX0.out; omega)⟩)
              go_wp2
              go_ret
              exact ⟨true, rfl, ⟨fun _ => hN.out, fun _ => rfl⟩, hzz⟩
          · have hne : ((m6 : Int) == 0) = false := by rw [beq_eq_false_iff_ne]; omega
            have hY0 := Lib.hid (show 0 < Y by have := hY.out; exact of_decide_eq_true (this.symm.trans (decide_eq_true hk)))
            have hN := Lib.hid (show ¬ Can _ xs ys from fun hp => absurd ((hP.out.1 hp).2.2.2.1 hX0.out).1 (by have := hY0.out; omega))
            go_wp2
            go_ret
            exact ⟨false, rfl, ⟨fun h => absurd h (by decide), fun h => absurd h hN.out⟩, hzz⟩
        · have hne5 : ((m5 : Int) == 0) = false := by rw [beq_eq_false_iff_ne]; omega
          have hX0 := Lib.hid (show 0 < X by have := hX.out; exact of_decide_eq_true (this.symm.trans (decide_eq_true hm)))
          rcases Nat.eq_zero_or_pos m6 with hk | hk
          · subst hk
            have hY0 := Lib.hid (show Y = 0 by have := hY.out; have h9 : ¬ 0 < Y := of_decide_eq_false (this.symm.trans (by decide)); omega)
            have hN := Lib.hid (show Can _ xs ys from hP.out.2 ⟨f1.out, f2.out, hy1.out, fun h => absurd h (by have := hX0.out; omega), fun _ => .inl hY0.out⟩)
            go_wp2
            go_ret
            exact ⟨true, rfl, ⟨fun _ => hN.out, fun _ => rfl⟩, hzz⟩
          · have hne : ((m6 : Int) == 0) = false := by rw [beq_eq_false_iff_ne]; omega
            have hY0 := Lib.hid (show 0 < Y by have := hY.out; exact of_decide_eq_true (this.symm.trans (decide_eq_true hk)))
            go_wp2_with fail
            refine (gcd64_any _ _ _ _ _ _ u5 u6 _ D5 D6 N5 N6 X Y V5 V6 (by omega) (by omega)).mono ?_
            rintro e w8 ⟨A8, m8, c8, u8, rfl, D8, N8, V8, M8, hb8⟩
            have hzz := hzz.trans (hb8.mono hzz.size)
            go_wp2_with fail
            by_cases hg : X.gcd Y = 1
            · have hN := Lib.hid (show Can _ xs ys from hP.out.2 ⟨f1.out, f2.out, hy1.out, fun h => absurd h (by have := hX0.out; omega), fun _ => .inr hg⟩)
              refine (isOne_any _ _ _ u8 _ D8 N8 _ V8 true (decide_eq_true hg)).mono ?_
              rintro e w9 ⟨rfl, rfl⟩
              clear hg
              go_wp2
              go_ret
              exact ⟨true, rfl, ⟨fun _ => hN.out, fun _ => rfl⟩, hzz⟩
            · have hN := Lib.hid (show ¬ Can _ xs ys from fun hp => by
                rcases (hP.out.1 hp).2.2.2.2 hX0.out with h | h
                · have := hY0.out; omega
                · exact hg h)
              refine (isOne_any _ _ _ u8 _ D8 N8 _ V8 false (decide_eq_false hg)).mono ?_
              rintro e w9 ⟨rfl, rfl⟩
              clear hg
              go_wp2
              go_ret
              exact ⟨false, rfl, ⟨fun h => absurd h (by decide), fun h => absurd h hN.out⟩, hzz⟩

set_option linter.unusedSimpArgs false in
set_option maxHeartbeats 6400000 in
set_option maxRecDepth 100000 in
theorem refCanonicalQ (s : Bool) (A : Option Addr) (n c : Nat) (A' : Option Addr) (n' c' : Nat) (xs ys : List Nat) (w : World) (h : Dg .u32 w A n c xs) (h' : Dg .u32 w A' n' c' ys) (hn : n ≤ 12) (hn' : n' ≤ 12) :
    Calls Tryz.prog 24 #[.agg #[.bool s, .slice A n c, .slice A' n' c']] w fun e w' => ∃ b, e = .returned (.bool b) ∧ Hid (b = true ↔ Can s xs ys) ∧ Below w.heap.size w w' := by
  have B1 := Blk.new w 24 #[.bool s, .slice A n c, .slice A' n' c']
  have hw0 := (Below.refl w.heap.size w).alloc (Nat.le_refl _) (.cells #[.bool s, .slice A n c, .slice A' n' c'] 24)
  have h := h.below hw0
  have h' := h'.below hw0
  go_enter Tryz.func24, Tryz.ntmps24
  go_upto_region 1 with fail
  generalize w.alloc (.cells #[.bool s, .slice A n c, .slice A' n' c'] 24) = w1 at *
  have hbd : Below w1.heap.size w1 w1.drew := (Below.refl _ _).drew
  have hq := AF.of (s := s) (h.below hbd) (h'.below hbd) hn hn'
  have hP1 := can_iff (s := s) (xs := xs) (ys := ys)
  have hP := Lib.hid hP1
  clear hP1
  generalize fq s (vl (bs .u32) xs) (dn (vl (bs .u32) ys)) = q at *
  have K0 : w1.cell? ⟨w.heap.size, 0, none⟩ = some (.bool s) ∧ w1.cell? ⟨w.heap.size, 1, none⟩ = some (.slice A n c) ∧ w1.cell? ⟨w.heap.size, 2, none⟩ = some (.slice A' n' c') := ⟨B1.cell 0, B1.cell 1, B1.cell 2⟩
  obtain ⟨k0, k1, k2⟩ := K0
  go_region_held3 (fun wx => wx.cell? ⟨w.heap.size, 0, none⟩ = some (.bool s) ∧ wx.cell? ⟨w.heap.size, 1, none⟩ = some (.slice A n c) ∧ wx.cell? ⟨w.heap.size, 2, none⟩ = some (.slice A' n' c'))
    (first | exact ⟨k0, k1, k2⟩ | exact Kw5 | exact Kw6)
    (first
      | (go_at_call 26; refine (refCanonQ _ _ 12 _ hq (by decide)).mono ?_; rintro e w5 ⟨_, rfl, ⟨_, _, rfl, ⟨A3, n3, c3, u3, rfl, D3, N3, V3, M3⟩, ⟨A4, n4, c4, u4, rfl, D4, N4, V4, M4⟩⟩, hb5⟩; have Kw5 : w5.cell? ⟨w.heap.size, 0, none⟩ = some (.bool s) ∧ w5.cell? ⟨w.heap.size, 1, none⟩ = some (.slice A n c) ∧ w5.cell? ⟨w.heap.size, 2, none⟩ = some (.slice A' n' c') := ⟨((B1.drew).below hb5).cell 0, ((B1.drew).below hb5).cell 1, ((B1.drew).below hb5).cell 2⟩)
      | (go_at_call 25; refine (same_any _ _ _ _ _ _ _ _ _ _ _ _ _ _ xs ys u3 u4 _ ((h.below hbd).below hb5) ((h'.below hbd).below hb5) D3 D4).mono ?_; rintro e w6 ⟨rfl, hb6⟩; have Kw6 : w6.cell? ⟨w.heap.size, 0, none⟩ = some (.bool s) ∧ w6.cell? ⟨w.heap.size, 1, none⟩ = some (.slice A n c) ∧ w6.cell? ⟨w.heap.size, 2, none⟩ = some (.slice A' n' c') := ⟨(((B1.drew).below hb5).below hb6).cell 0, (((B1.drew).below hb5).below hb6).cell 1, (((B1.drew).below hb5).below hb6).cell 2⟩; generalize hb0 : (decide (s = _) && decide (xs = u3) && decide (ys = u4)) = b; have hbb := Lib.hid hb0; clear hb0))
  have z1 := hw0.drew
  have z2 := z1.trans (hb5.mono z1.size)
  have hzz := z2.trans (hb6.mono z2.size)
  have hfin := Lib.hid (show b = true ↔ Can s xs ys by
    rw [hP.out, ← hbb.out]
    unfold Can2
    simp only [Bool.and_eq_true, decide_eq_true_eq]
    constructor
    · rintro ⟨⟨g1, rfl⟩, rfl⟩
      exact ⟨N3, N4, g1, V3.out, V4.out⟩
    · rintro ⟨g1, g2, g3, g4, g5⟩
      exact ⟨⟨g3, Nrm.unique one_lt_bs32 h.ok D3.ok g1 N3 (g4.trans V3.out.symm)⟩, Nrm.unique one_lt_bs32 h'.ok D4.ok g2 N4 (g5.trans V4.out.symm)⟩)
  go_wp2
  go_ret
  exact ⟨b, rfl, hfin.out, hzz⟩

theorem canonicalT (v : Value) (q : Rat) (L : Nat) (w : World) (h : FQ w v q L) (hL : L ≤ 700000) :
    Calls Tryz.prog 23 #[v] w fun e w' => e = .returned (.bool true) ∧ Below w.heap.size w w' := by
  obtain ⟨_, _, rfl, ⟨A3, n3, c3, u3, rfl, D3, N3, V3, M3⟩, ⟨A4, n4, c4, u4, rfl, D4, N4, V4, M4⟩⟩ := h
  refine (canonicalQ _ _ _ _ _ _ _ u3 u4 w D3 D4 (by omega) (by omega)).mono ?_
  rintro e w' ⟨b, rfl, hb, hw⟩
  refine ⟨?_, hw⟩
  rw [hb.out.2 (can_iff.2 ?_)]
  rw [V3.out, V4.out, dn_dw q.den_pos, fq_self]
  exact ⟨N3, N4, rfl, V3.out, V4.out⟩
end Go.Proofs.YtanaljnclajkdaaGreatDoor.Fr
