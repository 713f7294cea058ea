import Derived.Test.YtbgihlfblmilmaaGreatDoorB1
import Derived.Test.YtbgihlfblmilmaaGreatDoorGS
import Derived.Test.YtbgihlfblmilmaaGreatDoorA5
namespace Go.Proofs.YtbgihlfblmilmaaGreatDoor.Fr
open Go.RowKit Num

theorem same_digits_true (A A' : Option Addr) (n c n' c' : Nat) (xs ys : List Nat) (w : World) (h : Dg .u32 w A n c xs) (h' : Dg .u32 w A' n' c' ys) (he : xs = ys) :
    Calls Tryz.prog 76 #[.slice A n c, .slice A' n' c'] w fun e w' => ∃ m, e = .returned (.bool true) ∧ w' = w.drewN m :=
  (sameDigits_any A A' n c n' c' xs ys w h h').mono fun e w' ⟨m, h1, h2⟩ => ⟨m, by rw [h1, decide_eq_true he], h2⟩

set_option maxHeartbeats 800000 in
/-- numbers with the same sign and the same values are the same, digit by digit -/
theorem same_true (v v' : Value) (neg : Bool) (N D L L' : Nat) (w : World) (h : FV w v neg N D L) (h' : FV w v' neg N D L') :
    Calls Tryz.prog 25 #[v, v'] w fun e w' => e = .returned (.bool true) ∧ Below w.heap.size w w' := by
  obtain ⟨_, _, rfl, ⟨A1, n1, c1, x1, rfl, h1, N1, v1, _⟩, ⟨A2, n2, c2, x2, rfl, h2, N2, v2, _⟩⟩ := h
  obtain ⟨_, _, rfl, ⟨A3, n3, c3, x3, rfl, h3, N3, v3, _⟩, ⟨A4, n4, c4, x4, rfl, h4, N4, v4, _⟩⟩ := h'
  have e1 := Lib.hid (Nrm.unique one_lt_bs32 h1.ok h3.ok N1 N3 (v1.out.trans v3.out.symm))
  have e2 := Lib.hid (Nrm.unique one_lt_bs32 h2.ok h4.ok N2 N4 (v2.out.trans v4.out.symm))
  have B1 := (Blk.new w 24 #[.bool neg, .slice A1 n1 c1, .slice A2 n2 c2]).alloc (.cells #[.bool neg, .slice A3 n3 c3, .slice A4 n4 c4] 24)
  have B2 := Blk.new (w.alloc (.cells #[.bool neg, .slice A1 n1 c1, .slice A2 n2 c2] 24)) 24 #[.bool neg, .slice A3 n3 c3, .slice A4 n4 c4]
  have e0 : (w.alloc (.cells #[.bool neg, .slice A1 n1 c1, .slice A2 n2 c2] 24)).heap.size = w.heap.size + 1 := by simp
  have hw0 := ((Below.refl w.heap.size w).alloc (Nat.le_refl _) (.cells #[.bool neg, .slice A1 n1 c1, .slice A2 n2 c2] 24)).alloc (by rw [e0]; omega) (.cells #[.bool neg, .slice A3 n3 c3, .slice A4 n4 c4] 24)
  rw [e0] at B2
  clear e0
  go_enter Tryz.func25, Tryz.ntmps25
  go_upto_region 1 with fail
  generalize (w.alloc (.cells #[.bool neg, .slice A1 n1 c1, .slice A2 n2 c2] 24)).alloc (.cells #[.bool neg, .slice A3 n3 c3, .slice A4 n4 c4] 24) = w1 at *
  have k0 : w1.cell? ⟨w.heap.size, 0, none⟩ = some (.bool neg) := B1.cell 0
  have k1 : w1.cell? ⟨w.heap.size, 1, none⟩ = some (.slice A1 n1 c1) := B1.cell 1
  have k2 : w1.cell? ⟨w.heap.size, 2, none⟩ = some (.slice A2 n2 c2) := B1.cell 2
  have k3 : w1.cell? ⟨w.heap.size + 1, 0, none⟩ = some (.bool neg) := B2.cell 0
  have k4 : w1.cell? ⟨w.heap.size + 1, 1, none⟩ = some (.slice A3 n3 c3) := B2.cell 1
  have k5 : w1.cell? ⟨w.heap.size + 1, 2, none⟩ = some (.slice A4 n4 c4) := B2.cell 2
  have g1 := h1.below hw0
  have g2 := h2.below hw0
  have g3 := h3.below hw0
  have g4 := h4.below hw0
  have hbb : ((neg : Bool) == neg) = true := by simp
  go_wp2_with fail
  refine (same_digits_true _ _ _ _ _ _ _ _ _ g1 g3 e1.out).mono ?_
  rintro e w2 ⟨m, rfl, rfl⟩
  have k2' : (w1.drewN m).cell? ⟨w.heap.size, 2, none⟩ = some (.slice A2 n2 c2) := k2
  have k5' : (w1.drewN m).cell? ⟨w.heap.size + 1, 2, none⟩ = some (.slice A4 n4 c4) := k5
  go_wp2_with fail
  refine (same_digits_true _ _ _ _ _ _ _ _ _ (g2.drewN m) (g4.drewN m) e2.out).mono ?_
  rintro e w3 ⟨m2, rfl, rfl⟩
  go_wp2
  go_ret
  exact ⟨rfl, bel_drewN hw0 _⟩

theorem Dg.nob32 {k : IntKind} {w : World} {A : Option Addr} {n c : Nat} {xs : List Nat} (h : Dg k w A n c xs) {g : Nat} {t : TypeId} {a : Bool} {p1 q1 : Option Addr} {p2 p3 q2 q3 : Nat}
    (hB : Blk w g t #[.bool a, .slice p1 p2 p3, .slice q1 q2 q3]) : 0 < n → ∀ ad, A = some ad → ad.block ≠ g := by
  intro hp ad he hg
  obtain ⟨ad', x, e2, hc, _⟩ := h.at_ hp
  rw [he] at e2
  injection e2 with e2
  subst e2
  unfold Blk at hB
  rw [← hg] at hB
  rw [show ad.add 0 = ad from rfl] at hc
  simp only [World.cell?, hB] at hc
  have h3 : ∀ i : Nat, ∀ v, (#[Value.bool a, .slice p1 p2 p3, .slice q1 q2 q3] : Array Value)[i]? = some v → (∃ b, v = .bool b) ∨ ∃ x y z, v = .slice x y z := by
    intro i v hv
    match i, hv with
    | 0, hv => simp at hv; exact .inl ⟨_, hv.symm⟩
    | 1, hv => simp at hv; exact .inr ⟨_, _, _, hv.symm⟩
    | 2, hv => simp at hv; exact .inr ⟨_, _, _, hv.symm⟩
    | (i + 3), hv => simp at hv
  split at hc
  · cases hc
  · rcases h3 _ _ hc with ⟨b, hv⟩ | ⟨x1, y1, z1, hv⟩ <;> cases hv
theorem nv_le {k : IntKind} {w : World} {v : Value} {x L L' : Nat} (h : NV k w v x L) (hl : L ≤ L') : NV k w v x L' := by
  obtain ⟨A, m, c, us, e, hD, h1, h2, h3⟩ := h
  exact ⟨A, m, c, us, e, hD, h1, h2, Nat.le_trans h3 hl⟩
theorem nv_set3_32 {k : IntKind} {w : World} {v : Value} {x L : Nat} (h : NV k w v x L) {g : Nat} {t : TypeId} {a : Bool} {p1 q1 : Option Addr} {p2 p3 q2 q3 : Nat} (hB : Blk w g t #[.bool a, .slice p1 p2 p3, .slice q1 q2 q3]) (x1 x2 x3 : Value) :
    NV k (((w.setCell ⟨g, 0, none⟩ x1).setCell ⟨g, 1, none⟩ x2).setCell ⟨g, 2, none⟩ x3) v x L := by
  obtain ⟨A, m, c, us, e, hD, h1, h2, h3⟩ := h
  have hn := hD.nob32 hB
  have st : ∀ {w' : World} (i : Nat) (u : Value), Dg k w' A m c us → Dg k (w'.setCell ⟨g, i, none⟩ u) A m c us := fun i u hd =>
    ⟨hd.len, hd.cap, hd.top, hd.ok, fun hp => by
      obtain ⟨ad, e, hc⟩ := hd.cell hp
      refine ⟨ad, e, fun j x hx => ?_⟩
      rw [World.cell?_setCell_other _ _ _ u (fun e2 => by have h2 := congrArg Addr.block e2; rw [block_of_add] at h2; exact hn hp ad e h2.symm)]
      exact hc j x hx⟩
  exact ⟨A, m, c, us, e, st 2 _ (st 1 _ (st 0 _ hD)), h1, h2, h3⟩

set_option maxHeartbeats 800000 in
theorem refMake_any (n d : Int) (w : World) (hr : -9223372036854775808 ≤ n ∧ n ≤ 9223372036854775807) (hd : -9223372036854775808 ≤ d ∧ d ≤ 9223372036854775807) :
    Calls Tryz.prog 33 #[.int .i64 n, .int .i64 d] w (RetQ w (decide (n < 0) != decide (d < 0)) n.natAbs (dn d.natAbs) 5) := by
  have B0 := Blk.new w 24 #[.bool false, .slice none 0 0, .slice none 0 0]
  have hw0 := (Below.refl w.heap.size w).alloc (Nat.le_refl _) (.cells #[.bool false, .slice none 0 0, .slice none 0 0] 24)
  go_enter Tryz.func33, Tryz.ntmps33
  go_wp2_with fail
  generalize w.alloc (.cells #[.bool false, .slice none 0 0, .slice none 0 0] 24) = w1 at *
  refine (size_any n _ hr).mono ?_
  rintro e w' ⟨rfl, rfl⟩
  go_wp2_with fail
  refine (natural_any n.natAbs _ (by omega)).mono ?_
  rintro e w2 ⟨A2, m2, c2, us2, rfl, hD2, hN2, hv2, hm2, hb2⟩
  go_wp2_with fail
  refine (size_any d _ hd).mono ?_
  rintro e w' ⟨rfl, rfl⟩
  go_wp2_with fail
  refine (natural_any d.natAbs _ (by omega)).mono ?_
  rintro e w3 ⟨A3, m3, c3, us3, rfl, hD3, hN3, hv3, hm3, hb3⟩
  have hw2 := hw0.trans (hb2.mono hw0.size)
  have hw3 := hw2.trans (hb3.mono hw2.size)
  have hbb := Lib.hid (show (!decide (n < 0) == decide (d < 0)) = (decide (n < 0) != decide (d < 0)) from rfl)
  go_wp2_with fail
  refine (make1_any _ _ _ _ _ _ _ _ _ _ (hD2.below hb3) hD3 (by omega) (by omega)).mono ?_
  rintro e w4 ⟨_, rfl, ⟨_, _, rfl, n5, n6⟩, hb4⟩
  rw [hv2.out, hv3.out] at n5 n6
  have C4 := ((B0.below hb2).below hb3).below hb4
  have hw4 := hw3.trans (hb4.mono hw3.size)
  have r0 := C4.cell 0
  have r1 := C4.cell 1
  have r2 := C4.cell 2
  have f0 := C4.frozen 0
  have f1 := C4.frozen 1
  have f2 := C4.frozen 2
  have hsg := Lib.hid (show vl (bs .u32) us2 = n.natAbs from hv2.out)
  have n5' := nv_le n5 (show m2 + m3 + 1 ≤ 5 by omega)
  have n6' := nv_le n6 (show m2 + m3 + 1 ≤ 5 by omega)
  obtain ⟨A5, m5, c5, us5, rfl, g5⟩ := n5
  obtain ⟨A6, m6, c6, us6, rfl, g6⟩ := n6
  rw [hsg.out]
  go_wp2
  exact ret_frac rfl rfl (((C4.set_ 0 _).set_ 1 _).set_ 2 _) rfl ⟨_, rfl, ⟨_, _, rfl, nv_set3_32 n5' C4 _ _ _, nv_set3_32 n6' C4 _ _ _⟩, bel_set3 hw4 (Nat.le_refl _) _ _ _⟩
end Go.Proofs.YtbgihlfblmilmaaGreatDoor.Fr

/- The reference's numbers as rational numbers. -/
namespace Go.Proofs.YtbgihlfblmilmaaGreatDoor.Fr
open Go.RowKit Num

theorem retq_fq {w w' : World} {e : Ending} {neg : Bool} {N D L : Nat} (hD : 0 < D) (h : RetQ w neg N D L e w') : RetFQ w (fq neg N D) L e w' := by
  obtain ⟨v, rfl, hv, hb⟩ := h
  refine ⟨v, rfl, ?_, hb⟩
  unfold FQ
  rw [fq_lt hD, fq_abs hD, fq_den hD]
  have e1 : (neg && decide (0 < N)) = cneg neg N := by unfold cneg; congr 1; exact decide_eq_decide.2 (by omega)
  have e2 : dw (D / N.gcd D) = cden N D := by
    unfold dw cden
    by_cases h0 : N = 0
    · subst h0; rw [Nat.gcd_zero_left, Nat.div_self hD, if_pos rfl, if_pos rfl]
    · rw [if_neg h0]
  rw [e1, e2]
  exact hv
theorem len_lt32 {us : List Nat} {x k : Nat} (hN : Nrm us) (hv : vl (bs .u32) us = x) (hx : x < bs .u32 ^ k) : us.length ≤ k := by
  rcases Nat.lt_or_ge k us.length with h | h
  · have h1 := hN.le (b := bs .u32) (by omega)
    have h2 : bs .u32 ^ k ≤ bs .u32 ^ (us.length - 1) := Nat.pow_le_pow_right (by decide) (by omega)
    omega
  · exact h
theorem NV.tight {w : World} {v : Value} {x L K : Nat} (h : NV .u32 w v x L) (hx : x < bs .u32 ^ K) : NV .u32 w v x K := by
  obtain ⟨A, m, c, us, e, hD, hN, hv, hm⟩ := h
  exact ⟨A, m, c, us, e, hD, hN, hv, by have := len_lt32 hN hv.out hx; rw [hD.len] at this; exact this⟩
theorem pow_mono32 (b : Nat) (hb : 0 < b) {x a k : Nat} (hx : x < b ^ a) (h : a ≤ k) : x < b ^ k := Nat.lt_of_lt_of_le hx (Nat.pow_le_pow_right hb h)
theorem dn_lt32 (b : Nat) (hb : 1 < b) {x n k : Nat} (hx : x < b ^ n) (h : n + 1 ≤ k) : dn x < b ^ k := by
  unfold dn
  split
  · exact Nat.one_lt_pow (by omega) hb
  · exact pow_mono32 b (by omega) hx (by omega)
theorem make1Q (neg : Bool) (A A' : Option Addr) (n c n' c' : Nat) (xs ys : List Nat) (w : World) (h : Dg .u32 w A n c xs) (h' : Dg .u32 w A' n' c' ys) (hn : n ≤ 900000) (hn' : n' ≤ 900000) :
    Calls Tryz.prog 77 #[.bool neg, .slice A n c, .slice A' n' c'] w (RetFQ w (fq neg (vl (bs .u32) xs) (dn (vl (bs .u32) ys))) (max n n' + 1)) := by
  refine (make1_any neg A A' n c n' c' xs ys w h h' hn hn').mono fun _ _ hr => ?_
  obtain ⟨v, e, ⟨v1, v2, e2, h1, h2⟩, hb⟩ := retq_fq (dn_pos' _) hr
  have hx := vl_lt h.ok
  have hy := vl_lt h'.ok
  rw [h.len] at hx
  rw [h'.len] at hy
  refine ⟨v, e, ⟨v1, v2, e2, h1.tight ?_, h2.tight ?_⟩, hb⟩
  · rw [fq_abs (dn_pos' _)]
    exact Nat.lt_of_le_of_lt (Nat.div_le_self _ _) (pow_mono32 (bs .u32) (by decide) hx (by omega))
  · rw [fq_den (dn_pos' _)]
    refine Nat.lt_of_le_of_lt ?_ (dn_lt32 (bs .u32) one_lt_bs32 hy (show n' + 1 ≤ max n n' + 1 by omega))
    refine Nat.le_trans ?_ (Nat.div_le_self (dn (vl (bs .u32) ys)) ((vl (bs .u32) xs).gcd (dn (vl (bs .u32) ys))))
    unfold dw
    split
    · exact Nat.zero_le _
    · exact Nat.le_refl _
theorem trimB (A : Option Addr) (n c : Nat) (xs : List Nat) (w : World) (h : Dg .u32 w A n c xs) :
    Calls Tryz.prog 89 #[.slice A n c] w fun e w' => ∃ m ys, e = .returned (.slice A m c) ∧ Dg .u32 w' A m c ys ∧ Nrm ys ∧ Hid (vl (bs .u32) ys = vl (bs .u32) xs) ∧ m ≤ n ∧ Below w.heap.size w w' := by
  refine (trim_any A n c xs w h).mono ?_
  rintro e w' ⟨rfl, rfl⟩
  exact ⟨_, _, rfl, h.tr, nrm_tr xs, vl_tr _ xs, by have := tl_le xs; rw [h.len] at this; exact this, Below.refl _ _⟩

set_option maxHeartbeats 1600000 in
theorem lowQ (s : Bool) (A A' : Option Addr) (n c n' c' : Nat) (ys : List Nat) (w : World) (h' : Dg .u32 w A' n' c' ys) :
    Calls Tryz.prog 81 #[.agg #[.bool s, .slice A n c, .slice A' n' c']] w (RetN .u32 w (dn (vl (bs .u32) ys)) (n' + 1)) := by
  have B1 := Blk.new w 24 #[.bool s, .slice A n c, .slice A' n' c']
  have hw0 := (Below.refl w.heap.size w).alloc (Nat.le_refl _) (.cells #[.bool s, .slice A n c, .slice A' n' c'] 24)
  have h1 := h'.below hw0
  go_enter Tryz.func81, Tryz.ntmps81
  go_upto_region 1 with fail
  generalize w.alloc (.cells #[.bool s, .slice A n c, .slice A' n' c'] 24) = w1 at *
  have r2 := B1.cell 2
  go_wp2_with fail
  refine (trimB _ _ _ _ _ h1).mono ?_
  rintro e w2 ⟨m, zs, rfl, hD, hN, hv, hm, hb⟩
  have hw2 := hw0.trans (hb.mono hw0.size)
  have t1 := hD.cap
  rcases Nat.eq_zero_or_pos m with hz | hz
  · subst hz
    have h0 := Lib.hid (show vl (bs .u32) ys = 0 by rw [← hv.out, List.eq_nil_of_length_eq_zero hD.len]; rfl)
    go_wp2
    go_ret
    exact ⟨_, _, _, [1], rfl, Mk.dg (Mk.new w2 _ .u32 [1]) rfl (by decide : 1 ≤ 1000000) (by intro x hx; simp at hx; subst hx; decide), by intro h; exact (by decide : (1 : Nat) ≠ 0), by show _ = _; rw [h0.out]; simp [vl, dn], by omega, hw2.alloc hw2.size _⟩
  · have hne : ((m : Int) == 0) = false := by rw [beq_eq_false_iff_ne]; omega
    have hp := Lib.hid (show vl (bs .u32) zs = dn (vl (bs .u32) ys) by
      have h1 := nv_pos hD hN (by decide) hv
      rw [decide_eq_true hz] at h1
      rw [dn_pos (of_decide_eq_true h1.symm), hv.out])
    go_wp2
    go_ret
    exact ⟨_, _, _, _, rfl, hD, hN, hp, by omega, hw2⟩

set_option maxHeartbeats 1600000 in
theorem refSignQ (v1 : Value) (q1 : Rat) (L : Nat) (w : World) (h1 : AF w v1 q1 L) :
    Calls Tryz.prog 45 #[v1] w fun e w' => e = .returned (.int .i64 (qs q1)) ∧ Below w.heap.size w w' := by
  obtain ⟨s, A, n, c, A', n', c', xs, ys, rfl, d1, d2, l1, l2, hq⟩ := h1
  have B1 := Blk.new w 24 #[.bool s, .slice A n c, .slice A' n' c']
  have hw0 := (Below.refl w.heap.size w).alloc (Nat.le_refl _) (.cells #[.bool s, .slice A n c, .slice A' n' c'] 24)
  have d1 := d1.below hw0
  have hq2 := Lib.hid (show sgn (s && decide (0 < vl (bs .u32) xs)) (vl (bs .u32) xs) = qs q1 by
    rw [← hq.out, sgn_qs (D := dn (vl (bs .u32) ys)) (dn_pos' _) (fun hs => by rw [Bool.and_eq_true] at hs; exact of_decide_eq_true hs.2), fq_sign])
  go_enter Tryz.func45, Tryz.ntmps45
  go_upto_region 1 with fail
  generalize w.alloc (.cells #[.bool s, .slice A n c, .slice A' n' c'] 24) = w1 at *
  have r0 := B1.cell 0
  have r1 := B1.cell 1
  go_wp2_with fail
  refine (trimB _ _ _ _ _ d1).mono ?_
  rintro e w2 ⟨m, zs, rfl, hD, hN, hv, hm, hb⟩
  have hw2 := hw0.trans (hb.mono hw0.size)
  have t1 := hD.cap
  have B2 := B1.below hb
  have r0 := B2.cell 0
  have hp := nv_pos hD hN (by decide) hv
  rcases Nat.eq_zero_or_pos m with hz | hz
  · subst hz
    have hx : vl (bs .u32) xs = 0 := by
      rcases Nat.eq_zero_or_pos (vl (bs .u32) xs) with h | h
      · exact h
      · rw [decide_eq_true h] at hp; exact absurd hp (by decide)
    have hres := Lib.hid (show (0 : Int) = qs q1 by rw [← hq2.out, hx]; cases s <;> rfl)
    clear hx hp
    go_wp2
    go_ret
    exact ⟨ret_i64 hres.out, hw2⟩
  · have hne : ((m : Int) == 0) = false := by rw [beq_eq_false_iff_ne]; omega
    have hx : 0 < vl (bs .u32) xs := by rw [decide_eq_true hz] at hp; exact of_decide_eq_true hp.symm
    have hx0 : vl (bs .u32) xs ≠ 0 := by omega
    cases s with
    | true =>
      have hres := Lib.hid (show (-1 : Int) = qs q1 by rw [← hq2.out, decide_eq_true hx]; rfl)
      clear hx hp hx0
      go_wp2
      go_ret
      exact ⟨ret_i64 hres.out, hw2⟩
    | false =>
      have hres := Lib.hid (show (1 : Int) = qs q1 by rw [← hq2.out]; simp [sgn, hx0])
      clear hx hp hx0
      go_wp2
      go_ret
      exact ⟨ret_i64 hres.out, hw2⟩

set_option maxHeartbeats 1600000 in
theorem refCanonQ (v1 : Value) (q1 : Rat) (L : Nat) (w : World) (h1 : AF w v1 q1 L) (hL : L ≤ 400000) :
    Calls Tryz.prog 26 #[v1] w (RetFQ w (q1) (L + 1)) := by
  obtain ⟨s, A, n, c, A', n', c', xs, ys, rfl, d1, d2, l1, l2, hq⟩ := h1
  obtain ⟨B1, B2, hw0⟩ := two_blk w 24 #[.bool s, .slice A n c, .slice A' n' c'] #[.bool false, .slice none 0 0, .slice none 0 0]
  have d1 := d1.below hw0
  have d2 := d2.below hw0
  go_enter Tryz.func26, Tryz.ntmps26
  go_upto_region 1 with fail
  generalize (w.alloc (.cells #[.bool s, .slice A n c, .slice A' n' c'] 24)).alloc (.cells #[.bool false, .slice none 0 0, .slice none 0 0] 24) = w1 at *
  have y0 := B1.cell 0
  have y1 := B1.cell 1
  have y2 := B1.cell 2
  go_wp2_with fail
  refine (make1Q (s) _ _ _ _ _ _ _ _ _ d1 d2 (by omega) (by omega)).mono ?_
  rintro e w9 ⟨_, rfl, hq9, hb9⟩
  rw [hq.out] at hq9
  have hq9 := hq9.le (show max n n' + 1 ≤ L + 1 by omega)
  have C9 := B2.below hb9
  have hw9 := hw0.trans (hb9.mono hw0.size)
  obtain ⟨s9, A9, n9, c9, A10, n10, c10, rfl⟩ := hq9.form
  have r0 := C9.cell 0
  have r1 := C9.cell 1
  have r2 := C9.cell 2
  have f0 := C9.frozen 0
  have f1 := C9.frozen 1
  have f2 := C9.frozen 2
  go_wp2
  exact ret_frac rfl rfl (((C9.set_ 0 _).set_ 1 _).set_ 2 _) rfl ⟨_, rfl, hq9.set3 C9 _ _ _, bel_set3 hw9 (by omega) _ _ _⟩

set_option maxHeartbeats 1600000 in
theorem refNegQ (v1 : Value) (q1 : Rat) (L : Nat) (w : World) (h1 : AF w v1 q1 L) (hL : L ≤ 400000) :
    Calls Tryz.prog 41 #[v1] w (RetFQ w (-q1) (L + 1)) := by
  obtain ⟨s, A, n, c, A', n', c', xs, ys, rfl, d1, d2, l1, l2, hq⟩ := h1
  obtain ⟨B1, B2, hw0⟩ := two_blk w 24 #[.bool s, .slice A n c, .slice A' n' c'] #[.bool false, .slice none 0 0, .slice none 0 0]
  have d1 := d1.below hw0
  have d2 := d2.below hw0
  go_enter Tryz.func41, Tryz.ntmps41
  go_upto_region 1 with fail
  generalize (w.alloc (.cells #[.bool s, .slice A n c, .slice A' n' c'] 24)).alloc (.cells #[.bool false, .slice none 0 0, .slice none 0 0] 24) = w1 at *
  have y0 := B1.cell 0
  have y1 := B1.cell 1
  have y2 := B1.cell 2
  go_wp2_with fail
  refine (make1Q (!s) _ _ _ _ _ _ _ _ _ d1 d2 (by omega) (by omega)).mono ?_
  rintro e w9 ⟨_, rfl, hq9, hb9⟩
  rw [← fq_neg, hq.out] at hq9
  have hq9 := hq9.le (show max n n' + 1 ≤ L + 1 by omega)
  have C9 := B2.below hb9
  have hw9 := hw0.trans (hb9.mono hw0.size)
  obtain ⟨s9, A9, n9, c9, A10, n10, c10, rfl⟩ := hq9.form
  have r0 := C9.cell 0
  have r1 := C9.cell 1
  have r2 := C9.cell 2
  have f0 := C9.frozen 0
  have f1 := C9.frozen 1
  have f2 := C9.frozen 2
  go_wp2
  exact ret_frac rfl rfl (((C9.set_ 0 _).set_ 1 _).set_ 2 _) rfl ⟨_, rfl, hq9.set3 C9 _ _ _, bel_set3 hw9 (by omega) _ _ _⟩
end Go.Proofs.YtbgihlfblmilmaaGreatDoor.Fr
