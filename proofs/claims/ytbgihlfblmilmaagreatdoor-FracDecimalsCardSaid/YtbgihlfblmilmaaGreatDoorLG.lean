/- Decimal places: what is read back, and how far it is. -/
import Derived.Test.YtbgihlfblmilmaaGreatDoorLA
import Derived.Test.YtbgihlfblmilmaaGreatDoorJI
import Derived.Test.YtbgihlfblmilmaaGreatDoorGQ
import Derived.Test.YtbgihlfblmilmaaGreatDoorHF
import Derived.Test.YtbgihlfblmilmaaGreatDoorHE
import Derived.Test.YtbgihlfblmilmaaGreatDoorJK
import Derived.BigQuiet
import Derived.Deep.QuietTactic
namespace Go.Proofs.YtbgihlfblmilmaaGreatDoor.Fr
open Go.RowKit Num

/-- the number with p decimal places -/
def dq (q : Rat) (p : Nat) : Rat := fq (decide (q.num < 0 ∧ 0 < rdd q p)) (rdd q p) (10 ^ p)
theorem dval_zeros (k : Nat) (l : List UInt8) : dval (List.replicate k 48 ++ l) = dval l := by
  induction k with
  | zero => rfl
  | succ k ih => rw [List.replicate_succ, List.cons_append, dval_cons, ih]; simp
theorem zeros_all (k : Nat) : (List.replicate k (48 : UInt8)).all dgt = true := by
  rw [List.all_eq_true]
  intro x hx
  rw [List.eq_of_mem_replicate hx]; rfl
theorem dcz_all (q : Rat) (p : Nat) : (dcz q p).all dgt = true := by
  unfold dcz; rw [List.all_append, zeros_all, dec_all]; rfl
theorem dcz_val (q : Rat) (p : Nat) : dval (dcz q p) = rdd q p := by
  unfold dcz; rw [dval_zeros, dec_val]
theorem dcz_len (q : Rat) (p : Nat) : p + 1 ≤ (dcz q p).length := by
  unfold dcz; rw [List.length_append, List.length_replicate]; omega
theorem psz_dec (z : List UInt8) (p : Nat) (hz : z.all dgt = true) (hl : p + 1 ≤ z.length) :
    psz (z.take (z.length - p) ++ (if 0 < p then 46 :: z.drop (z.length - p) else [])) = (dval z, 10 ^ p, true) := by
  by_cases hp : 0 < p
  · rw [if_pos hp]
    have e1 := List.take_append_drop (z.length - p) z
    have l1 : (z.take (z.length - p)).length = z.length - p := by rw [List.length_take]; omega
    have l2 : (z.drop (z.length - p)).length = p := by rw [List.length_drop]; omega
    generalize z.take (z.length - p) = a at *
    generalize z.drop (z.length - p) = b at *
    subst e1
    rw [List.all_append, Bool.and_eq_true] at hz
    have c1 : Lib.cut (a ++ 46 :: b) [47] = (a ++ 46 :: b, [], false) := cut_none (by
      intro i
      rcases Nat.lt_or_ge i a.length with h | h
      · rw [List.getElem?_append_left h]; exact all_ne hz.1 (by decide) i
      · rw [List.getElem?_append_right h]
        rcases Nat.eq_zero_or_pos (i - a.length) with h0 | h0
        · rw [h0]; intro h1; injection h1 with h1; exact absurd h1 (by decide)
        · obtain ⟨j, hj⟩ : ∃ j, i - a.length = j + 1 := ⟨i - a.length - 1, by omega⟩
          rw [hj, List.getElem?_cons_succ]; exact all_ne hz.2 (by decide) j)
    have c2 := cut_at (l := a ++ 46 :: b) (c := 46) (j := a.length) (by rw [List.getElem?_append_right (Nat.le_refl _), Nat.sub_self]; rfl) (fun i hi => by
      rw [List.getElem?_append_left hi]; exact all_ne hz.1 (by decide) i)
    have t1 : (a ++ 46 :: b).take a.length = a := by rw [List.take_append_of_le_length (Nat.le_refl _), List.take_length]
    have t2 : (a ++ 46 :: b).drop (a.length + 1) = b := by
      rw [List.drop_append, List.drop_eq_nil_of_le (by omega), show a.length + 1 - a.length = 1 by omega]; rfl
    rw [t1, t2] at c2
    unfold psz
    rw [c1, c2]
    have h1 : (a ++ b).all dgt = true := by rw [List.all_append, hz.1, hz.2]; rfl
    have h2 : okd (a ++ b) = true := okd_iff.2 ⟨h1, by rw [List.length_append]; omega⟩
    simp only [Bool.false_eq_true, if_false, if_true, l2]
    rw [h2, decide_eq_true (by omega : 0 < a.length), decide_eq_true hp]
    unfold dv
    rw [if_pos h1]
    rfl
  · have hp0 : p = 0 := by omega
    subst hp0
    rw [if_neg hp, Nat.sub_zero, List.take_length, List.append_nil]
    unfold psz
    rw [cut_none (all_ne hz (by decide)), cut_none (all_ne hz (by decide)), show okd z = true from okd_iff.2 ⟨hz, by omega⟩]
    unfold dv
    rw [if_pos hz]
    rfl
theorem dcm_read (q : Rat) (p : Nat) (hl : (dcm q p).length ≤ 10000) : pre (dcm q p) = 0 ∧ prq (dcm q p) = dq q p := by
  have h3 := psz_dec (dcz q p) p (dcz_all q p) (dcz_len q p)
  rw [dcz_val] at h3
  have h0 : ((dcz q p).take ((dcz q p).length - p) ++ (if 0 < p then 46 :: (dcz q p).drop ((dcz q p).length - p) else []))[0]? ≠ some 45 := by
    have hl := dcz_len q p
    rw [List.getElem?_append_left (by rw [List.length_take]; omega), List.getElem?_take, if_pos (by omega)]
    exact all_ne (dcz_all q p) (by decide) 0
  have ht : dcm q p = (if decide (q.num < 0 ∧ 0 < rdd q p) = true then [45] else []) ++ ((dcz q p).take ((dcz q p).length - p) ++ (if 0 < p then 46 :: (dcz q p).drop ((dcz q p).length - p) else [])) := by
    unfold dcm; simp
  obtain ⟨h1, h2⟩ := signed_trim (decide (q.num < 0 ∧ 0 < rdd q p)) _ h0
  rw [← ht] at h1 h2
  have hp : pre (dcm q p) = 0 := by
    unfold pre
    rw [if_neg (by omega), h2, h3, if_neg (by simp), if_neg (show ¬ 10 ^ p = 0 by have := Nat.pow_pos (n := p) (show 0 < 10 by decide); omega)]
  refine ⟨hp, ?_⟩
  unfold prq
  rw [if_pos hp, h1, h2, h3]
  rfl
/-- the rounded units -/
theorem rdd_floor (q : Rat) (p : Nat) : (fq false q.num.natAbs q.den * (10 : Rat) ^ p + (1 : Rat) * (2 : Rat)⁻¹).floor = (rdd q p : Int) := by
  have hD : 0 < q.den := q.den_pos
  have h10 : ((10 : Rat) ^ p) = ((10 ^ p : Nat) : Rat) := by rw [Rat.natCast_pow]; rfl
  have e : fq false q.num.natAbs q.den * (10 : Rat) ^ p + (1 : Rat) * (2 : Rat)⁻¹ = fq false (q.num.natAbs * 10 ^ p + q.num.natAbs * 10 ^ p + q.den) (q.den + q.den) := by
    rw [fq_div, fq_div, h10]
    simp only [Bool.false_eq_true, if_false]
    have hd : ((q.den : Nat) : Rat) ≠ 0 := by intro h; have := Rat.natCast_eq_zero_iff.1 h; omega
    rw [Rat.natCast_add, Rat.natCast_add, Rat.natCast_add, Rat.natCast_mul]
    generalize ((q.num.natAbs : Nat) : Rat) = a at *
    generalize ((q.den : Nat) : Rat) = d at *
    generalize ((10 ^ p : Nat) : Rat) = t at *
    have h2 : d + d ≠ 0 := by grind
    grind
  rw [e]
  rw [floor_fq_pos (by omega)]
  rfl
theorem abs_q (x : Rat) : fq false x.num.natAbs x.den = x ∨ fq false x.num.natAbs x.den = -x := by
  have h := fq_self x
  by_cases hx : x.num < 0
  · right
    rw [decide_eq_true hx] at h
    rw [← h, fq_neg]
    rw [h]; rfl
  · left
    rw [decide_eq_false hx] at h
    exact h
theorem sign_q (q : Rat) : q = if q.num < 0 then -(fq false q.num.natAbs q.den) else fq false q.num.natAbs q.den := by
  have h := fq_self q
  by_cases hx : q.num < 0
  · rw [if_pos hx, fq_neg]
    rw [decide_eq_true hx] at h
    exact h.symm
  · rw [if_neg hx]
    rw [decide_eq_false hx] at h
    exact h.symm
theorem dq_sign (q : Rat) (p : Nat) : dq q p = if q.num < 0 then -((rdd q p : Rat) / ((10 : Rat) ^ p)) else (rdd q p : Rat) / ((10 : Rat) ^ p) := by
  have h10 : ((10 : Rat) ^ p) = ((10 ^ p : Nat) : Rat) := by rw [Rat.natCast_pow]; rfl
  unfold dq
  rw [fq_div, h10]
  by_cases hx : q.num < 0
  · rw [if_pos hx]
    by_cases hk : 0 < rdd q p
    · rw [decide_eq_true ⟨hx, hk⟩, if_pos rfl]; grind
    · have h0 : rdd q p = 0 := by omega
      rw [h0, decide_eq_false (fun h => by omega), if_neg (by simp)]
      have hz : ((0 : Nat) : Rat) = 0 := rfl
      rw [hz]
      grind
  · rw [if_neg hx, decide_eq_false (fun h => hx h.1), if_neg (by simp)]
theorem near (X k κ T : Rat) (hκ : κ * T = k) (h1 : k ≤ X * T + 1 * 2⁻¹) (h2 : X * T + 1 * 2⁻¹ < k + 1) : (X - κ) * (2 * T) ≤ 1 ∧ (-(X - κ)) * (2 * T) ≤ 1 := by
  have e1 : (X - κ) * (2 * T) = 2 * (X * T) - 2 * k := by grind
  have e2 : (-(X - κ)) * (2 * T) = 2 * k - 2 * (X * T) := by grind
  rw [e1, e2]
  generalize X * T = Y at *
  constructor <;> grind
theorem dq_near (q : Rat) (p : Nat) : fq false (q + -(dq q p)).num.natAbs (q + -(dq q p)).den * (2 * (10 : Rat) ^ p) ≤ 1 := by
  have hf := rdd_floor q p
  have h1 := Rat.floor_le (fq false q.num.natAbs q.den * (10 : Rat) ^ p + (1 : Rat) * (2 : Rat)⁻¹)
  have h2 := Rat.lt_floor_add_one (fq false q.num.natAbs q.den * (10 : Rat) ^ p + (1 : Rat) * (2 : Rat)⁻¹)
  rw [hf] at h1 h2
  rw [Rat.intCast_add] at h2
  have hT : ((10 : Rat) ^ p) ≠ 0 := by
    have h10 : ((10 : Rat) ^ p) = ((10 ^ p : Nat) : Rat) := by rw [Rat.natCast_pow]; rfl
    rw [h10]
    intro h
    have := Rat.natCast_eq_zero_iff.1 h
    have := Nat.pow_pos (n := p) (show 0 < 10 by decide)
    omega
  have hn := near (fq false q.num.natAbs q.den) (rdd q p : Rat) ((rdd q p : Rat) / ((10 : Rat) ^ p)) ((10 : Rat) ^ p) (by grind) h1 h2
  have hx : q + -(dq q p) = fq false q.num.natAbs q.den - (rdd q p : Rat) / ((10 : Rat) ^ p) ∨ q + -(dq q p) = -(fq false q.num.natAbs q.den - (rdd q p : Rat) / ((10 : Rat) ^ p)) := by
    have e1 := sign_q q
    have e2 := dq_sign q p
    by_cases hs : q.num < 0
    · rw [if_pos hs] at e1 e2
      right
      rw [e2]
      generalize fq false q.num.natAbs q.den = X at *
      grind
    · rw [if_neg hs] at e1 e2
      left
      rw [e2]
      generalize fq false q.num.natAbs q.den = X at *
      grind
  rcases abs_q (q + -(dq q p)) with h3 | h3 <;> rcases hx with h4 | h4 <;> rw [h3, h4]
  · exact hn.1
  · exact hn.2
  · exact hn.2
  · rw [Rat.neg_neg]; exact hn.1
theorem cq_le {a b : Rat} (h : a ≤ b) : cq a b ≤ 0 := by
  unfold cq
  by_cases h1 : a < b
  · rw [if_pos h1]; decide
  · rw [if_neg h1]
    by_cases h2 : b < a
    · exact absurd h (Rat.not_le.2 h2)
    · rw [if_neg h2]; decide
end Go.Proofs.YtbgihlfblmilmaaGreatDoor.Fr

/- A number with decimal places, by the document. -/
namespace Go.Proofs.YtbgihlfblmilmaaGreatDoor.Fr
open Go.RowKit Num

theorem num_nat (k : Nat) : ((k : Int) : Rat).num.natAbs = k := by rw [Rat.num_intCast]; simp
theorem dcz_zeros (q : Rat) (p j : Nat) (z : List UInt8) (hz : Lib.decDigits (rdd q p) = z) (hj : j ≤ p + 1 - z.length) (hp : p < j + z.length) : List.replicate j 48 ++ z = dcz q p := by
  unfold dcz
  rw [hz, show p + 1 - z.length = j by omega]
theorem noi3 (s : Bool) (A B : Option Addr) (n c m d : Nat) : Noi #[.bool s, .slice A n c, .slice B m d] := by
  intro i v hv k x
  match i, hv with
  | 0, hv => injection hv with hv; subst hv; intro h; cases h
  | 1, hv => injection hv with hv; subst hv; intro h; cases h
  | 2, hv => injection hv with hv; subst hv; intro h; cases h
  | i + 3, hv => simp at hv
/-- the same digits without the sign -/
theorem FQ.abs {w : World} {q : Rat} {L : Nat} {s : Bool} {A B : Option Addr} {n c m d : Nat} (h : FQ w (.agg #[.bool s, .slice A n c, .slice B m d]) q L) : AF w (.agg #[.bool false, .slice A n c, .slice B m d]) (fq false q.num.natAbs q.den) L := by
  obtain ⟨_, _, he, ⟨A1, n1, c1, x1, rfl, h1, N1, v1, l1⟩, ⟨A2, n2, c2, x2, rfl, h2, N2, v2, l2⟩⟩ := h
  injection he with he
  simp only [Array.mk.injEq, List.cons.injEq, and_true, Value.slice.injEq, Value.bool.injEq] at he
  obtain ⟨rfl, ⟨rfl, rfl, rfl⟩, ⟨rfl, rfl, rfl⟩⟩ := he
  exact ⟨_, _, _, _, _, _, _, _, _, rfl, h1, h2, l1, l2, by show _ = _; rw [v1.out, v2.out, dn_dw q.den_pos]⟩
theorem cons_zero (j : Nat) (l : List UInt8) : (48 : UInt8) :: (List.replicate j 48 ++ l) = List.replicate (j + 1) 48 ++ l := by rw [List.replicate_succ, List.cons_append]
theorem app_zero (l : List UInt8) : (⟨#[48]⟩ : ByteArray) ++ ⟨l.toArray⟩ = ⟨(48 :: l).toArray⟩ := app_bytes 48 l

set_option linter.unusedSimpArgs false in
set_option maxHeartbeats 12800000 in
set_option maxRecDepth 100000 in
theorem refDecimalQ (v1 : Value) (q1 : Rat) (p L : Nat) (w : World) (h1 : AF w v1 q1 L) (hL : L ≤ 1000) (hp : p ≤ 1000) :
    Calls Tryz.prog 67 #[v1, .int .i64 (p : Int)] w fun e w' => e = .returned (.string ⟨(dcm q1 p).toArray⟩) ∧ Below w.heap.size w w' := by
  have hq0 := h1
  obtain ⟨s1, A1, n1, c1, A2, n2, c2, xs1, ys1, rfl, d1, d2, l1, l2, hfq⟩ := h1
  have hsg := Lib.hid (show decide (q1.num < 0 ∧ 0 < rdd q1 p) = (s1 && decide (0 < rdd q1 p)) from by
    have hlt := fq_lt (s := s1) (N := vl (bs .u32) xs1) (dn_pos' (vl (bs .u32) ys1))
    rw [hfq.out] at hlt
    by_cases hr : 0 < rdd q1 p
    · have hN : 0 < vl (bs .u32) xs1 := by
        rcases Nat.eq_zero_or_pos (vl (bs .u32) xs1) with h | h
        · exfalso
          have h0 : q1 = 0 := by rw [← hfq.out, h]; exact (fq_zero (dn_pos' _)).2 rfl
          rw [h0] at hr
          unfold rdd at hr
          simp at hr
        · exact h
      rw [decide_eq_true hN, Bool.and_true] at hlt
      rw [decide_eq_true hr, Bool.and_true, ← hlt]
      exact decide_eq_decide.2 ⟨fun h => h.1, fun h => ⟨h, hr⟩⟩
    · rw [decide_eq_false hr, Bool.and_false]
      exact decide_eq_false (fun h => hr h.2))
  clear d1 d2 l1 l2 hfq
  have B1 := Blk.new w 24 #[.bool s1, .slice A1 n1 c1, .slice A2 n2 c2]
  have hw := (Below.refl w.heap.size w).alloc (Nat.le_refl _) (.cells #[.bool s1, .slice A1 n1 c1, .slice A2 n2 c2] 24)
  have h1 := hq0.below hw
  clear hq0
  go_enter Tryz.func67, Tryz.ntmps67
  go_upto_region 1 with fail
  generalize w.alloc (.cells #[.bool s1, .slice A1 n1 c1, .slice A2 n2 c2] 24) = w1 at *
  go_wp2_with fail
  refine (refOfQ 10 _ (by decide)).mono ?_
  rintro e w2 ⟨_, rfl, q2, hb⟩
  obtain ⟨s2, A3, n3, c3, A4, n4, c4, rfl⟩ := q2.form
  have B1 := B1.below hb
  have h1 := h1.below hb
  have hw := hw.trans (hb.mono hw.size)
  clear hb
  go_wp2_with fail
  refine (refPowQ _ _ p 3 _ q2.af (by omega) (by omega)).mono ?_
  rintro e w3 ⟨_, rfl, q3, hb⟩
  have q3 := q3.le (show _ ≤ 8100 by omega)
  obtain ⟨s3, A5, n5, c5, A6, n6, c6, rfl⟩ := q3.form
  have B1 := B1.below hb
  have h1 := h1.below hb
  have hw := hw.trans (hb.mono hw.size)
  have hba := (Below.refl w3.heap.size w3).alloc (Nat.le_refl _) (.cells #[.bool s3, .slice A5 n5 c5, .slice A6 n6 c6] 24)
  have B5 := Blk.new w3 24 #[.bool s3, .slice A5 n5 c5, .slice A6 n6 c6]
  have hgw5 := hw.size
  have hw := hw.alloc hw.size (.cells #[.bool s3, .slice A5 n5 c5, .slice A6 n6 c6] 24)
  have B1 := B1.below hba
  have h1 := h1.below hba
  have q3 := q3.below hba
  clear hb hba q2
  go_upto_region 2 with fail
  generalize w3.heap.size = g5 at *
  generalize w3.alloc (.cells #[.bool s3, .slice A5 n5 c5, .slice A6 n6 c6] 24) = w4 at *
  have k0 := B1.cell 0
  have k1 := B1.cell 1
  have k2 := B1.cell 2
  go_wp2_with fail
  refine (refCanonQ _ q1 L _ h1 (by omega)).mono ?_
  rintro e w5 ⟨_, rfl, q5, hb⟩
  clear k0 k1 k2
  have B1 := B1.below hb
  have B5 := B5.below hb
  have q3 := q3.below hb
  have hw := hw.trans (hb.mono hw.size)
  clear hb h1
  obtain ⟨sq, A7, n7, c7, A8, n8, c8, rfl⟩ := q5.form
  have hba := (Below.refl w5.heap.size w5).alloc (Nat.le_refl _) (.cells #[.bool sq, .slice A7 n7 c7, .slice A8 n8 c8] 24)
  have B6 := Blk.new w5 24 #[.bool sq, .slice A7 n7 c7, .slice A8 n8 c8]
  have hgw6 := hw.size
  have hg56 := B5.lt
  have hg16 := B1.lt
  have hw := hw.alloc hw.size (.cells #[.bool sq, .slice A7 n7 c7, .slice A8 n8 c8] 24)
  have B1 := B1.below hba
  have B5 := B5.below hba
  have q3 := q3.below hba
  have q5 := q5.below hba
  clear hba
  go_upto_region 3 with fail
  generalize w5.heap.size = g6 at *
  generalize w5.alloc (.cells #[.bool sq, .slice A7 n7 c7, .slice A8 n8 c8] 24) = w6 at *
  have k0 := B6.cell 0
  have f0 := B6.frozen 0
  have q3 := q3.setb B6 (noi3 _ _ _ _ _ _ _) 0 (.bool false)
  have q5 := q5.setb B6 (noi3 _ _ _ _ _ _ _) 0 (.bool false)
  have B1 := B1.far (p := ⟨g6, 0, none⟩) (by show w.heap.size ≠ g6; omega) (.bool false)
  have B5 := B5.far (p := ⟨g6, 0, none⟩) (by show g5 ≠ g6; omega) (.bool false)
  have hw := hw.setCell (p := ⟨g6, 0, none⟩) hgw6 (.bool false)
  have B6 : Blk (w6.setCell ⟨g6, 0, none⟩ (.bool false)) g6 24 #[.bool false, .slice A7 n7 c7, .slice A8 n8 c8] := B6.set_ 0 (.bool false)
  go_upto_region 4 with fail
  clear k0 f0
  generalize w6.setCell ⟨g6, 0, none⟩ (.bool false) = w7 at *
  have qa := q5.abs
  have k60 := B6.cell 0
  have k61 := B6.cell 1
  have k62 := B6.cell 2
  have k50 := B5.cell 0
  have k51 := B5.cell 1
  have k52 := B5.cell 2
  have hfl := Lib.hid (rdd_floor q1 p)
  obtain ⟨qab, hqab⟩ : ∃ x, fq false q1.num.natAbs q1.den = x := ⟨_, rfl⟩
  rw [hqab] at qa hfl
  clear hqab
  go_wp2_with fail
  refine (refMulQ _ _ qab _ (L + 1) 8100 _ qa q3.af (by omega)).mono ?_
  rintro e w8 ⟨_, rfl, q8, hb⟩
  clear k60 k61 k62 k50 k51 k52 qa q3 B5 B6 q5
  obtain ⟨s8, A9, n9, c9, A10, n10, c10, rfl⟩ := q8.form
  have B1 := B1.below hb
  have hw := hw.trans (hb.mono hw.size)
  clear hb
  go_wp2_with fail
  refine (refMakeQ 1 2 _ (by decide) (by decide) (by decide)).mono ?_
  rintro e w9 ⟨_, rfl, q9, hb⟩
  obtain ⟨s9, A11, n11, c11, A12, n12, c12, rfl⟩ := q9.form
  have B1 := B1.below hb
  have q8 := q8.below hb
  have hw := hw.trans (hb.mono hw.size)
  clear hb
  go_wp2_with fail
  refine (refAddQ _ _ _ _ (L + 1 + 8100 + 3) 5 _ q8.af q9.af (by omega)).mono ?_
  rintro e w10 ⟨_, rfl, q10, hb⟩
  obtain ⟨s10, A13, n13, c13, A14, n14, c14, rfl⟩ := q10.form
  have B1 := B1.below hb
  have hw := hw.trans (hb.mono hw.size)
  clear hb q8 q9
  go_wp2_with fail
  refine (refDownQ _ _ (L + 1 + 8100 + 3 + 5 + 3) _ q10.af (by omega)).mono ?_
  rintro e w11 ⟨_, rfl, q11, hb⟩
  rw [show ((10 : Int) : Rat) = (10 : Rat) from rfl, show ((1 : Int) : Rat) = (1 : Rat) from rfl, show ((2 : Int) : Rat) = (2 : Rat) from rfl, hfl.out] at q11
  obtain ⟨s11, A15, n15, c15, A16, n16, c16, rfl⟩ := q11.form
  have B1 := B1.below hb
  have hw := hw.trans (hb.mono hw.size)
  clear hb q10 hfl
  have hba := (Below.refl w11.heap.size w11).alloc (Nat.le_refl _) (.cells #[.bool s11, .slice A15 n15 c15, .slice A16 n16 c16] 24)
  have B7 := Blk.new w11 24 #[.bool s11, .slice A15 n15 c15, .slice A16 n16 c16]
  have hw := hw.alloc hw.size (.cells #[.bool s11, .slice A15 n15 c15, .slice A16 n16 c16] 24)
  have B1 := B1.below hba
  have q11 := q11.below hba
  clear hba
  go_upto_region 5 with fail
  generalize w11.heap.size = g7 at *
  generalize w11.alloc (.cells #[.bool s11, .slice A15 n15 c15, .slice A16 n16 c16] 24) = w12 at *
  obtain ⟨_, _, he, ⟨_, _, _, y3, rfl, D3, N3, V3, M3⟩, ⟨_, _, _, y4, rfl, D4, N4, V4, M4⟩⟩ := q11
  injection he with he
  simp only [Array.mk.injEq, List.cons.injEq, and_true, Value.slice.injEq, Value.bool.injEq] at he
  obtain ⟨rfl, ⟨rfl, rfl, rfl⟩, ⟨rfl, rfl, rfl⟩⟩ := he
  rw [num_nat] at V3
  clear D4 N4 V4 M4
  have hzl := dec32 D3 V3 M3
  have hnp := Lib.hid (nv_pos D3 N3 (by decide) V3)
  obtain ⟨s11, hs11⟩ : ∃ b, decide ((((rdd q1 p : Nat) : Int) : Rat).num < 0) = b := ⟨_, rfl⟩
  rw [hs11] at B7
  clear hs11
  have k71 := B7.cell 1
  obtain ⟨z, hz⟩ : ∃ z, Lib.decDigits (rdd q1 p) = z := ⟨_, rfl⟩
  go_wp2_with fail
  refine (refDigits_any _ _ _ _ _ D3 (by omega) _ V3).mono ?_
  rintro e w13 ⟨rfl, hb⟩
  rw [hz]
  rw [hz] at hzl
  have hz := Lib.hid hz
  clear k71 D3 N3 V3
  have B1 := B1.below hb
  have B7 := B7.below hb
  have hw := hw.trans (hb.mono hw.size)
  clear hb
  have happ := app_zero
  go_wp2
  go_loopg [8] (p + 1 - z.length) (fun g sv wr => ∃ j : Nat, sv = .string ⟨(List.replicate j 48 ++ z).toArray⟩ ∧ Hid (g + j = p + 1 - z.length) ∧ Blk wr w.heap.size 24 #[.bool s1, .slice A1 n1 c1, .slice A2 n2 c2] ∧ Blk wr g7 24 #[.bool s11, .slice A15 n15 c15, .slice A16 n16 c16] ∧ Below w.heap.size w wr)
  case atStart => exact ⟨0, rfl, rfl, B1, B7, hw⟩
  case round =>
    clear B1 B7 hw
    obtain ⟨j, rfl, hg, B1, B7, hw⟩ := hrel
    have hjl : (List.replicate j (48 : UInt8) ++ z).length = j + z.length := by rw [List.length_append, List.length_replicate]
    have hjz := Lib.hid (cons_zero j z)
    have hend := Lib.hid (fun h => dcz_zeros q1 p j z hz.out (by have := hg.out; omega) h)
    have hjp : j ≤ p + 1 := by have := hg.out; omega
    generalize List.replicate j (48 : UInt8) ++ z = zj at *
    by_cases hlt : j + z.length ≤ p
    · have d1 : decide ((zj.length : Int) ≤ (p : Int)) = true := decide_eq_true (by omega)
      go_wp2
      go_roundg (p + 1 - z.length - (j + 1))
      case measure => have := hg.out; omega
      case rel => exact ⟨j + 1, congrArg (fun l : List UInt8 => Value.string ⟨l.toArray⟩) hjz.out, (by have := hg.out; show _ = _; omega), B1, B7, hw⟩
    · have d1 : decide ((zj.length : Int) ≤ (p : Int)) = false := decide_eq_false (by omega)
      have d0 : p < zj.length := by omega
      have d00 : ¬ zj.length ≤ p := by omega
      have hzz := Lib.hid (hend.out (by omega))
      have hzb : zj.length ≤ 200000 := by omega
      clear hjl
      obtain ⟨pt, hpt⟩ : ∃ pt, zj.length - p = pt := ⟨_, rfl⟩
      have hpt2 : (zj.length : Int) - (p : Int) = (pt : Int) := by omega
      have hptl : pt ≤ zj.length := by omega
      have hs1 := slice_to zj pt hptl
      have hs2 := slice_from zj pt hptl
      have hfin := Lib.hid (show dcm q1 p = (if decide (q1.num < 0 ∧ 0 < rdd q1 p) = true then [45] else []) ++ (zj.take pt ++ (if 0 < p then 46 :: zj.drop pt else [])) by
        unfold dcm; rw [← hzz.out, hpt]; simp)
      rw [hsg.out] at hfin
      obtain ⟨za, hza⟩ : ∃ za, zj.take pt = za := ⟨_, rfl⟩
      obtain ⟨zb, hzb2⟩ : ∃ zb, zj.drop pt = zb := ⟨_, rfl⟩
      have hzal : za.length ≤ 200000 := by rw [← hza, List.length_take]; omega
      have hzbl : zb.length ≤ 200000 := by rw [← hzb2, List.length_drop]; omega
      have hz0 := Lib.hid (fun h : p = 0 => show zj = za by rw [← hza, ← hpt, h, Nat.sub_zero, List.take_length])
      rw [hza] at hs1 hfin
      rw [hzb2] at hs2 hfin
      clear hza hzb2 hjz hend hg hlt hpt
      obtain ⟨sr, hsr⟩ : ∃ b, decide (0 < rdd q1 p) = b := ⟨_, rfl⟩
      rw [hsr] at hnp hfin
      clear hsr hsg happ
      have k10 := B1.cell 0
      have k71 := B7.cell 1
      have hn15 := hnp.out
      by_cases hp0 : 0 < p
      · have d2 : decide ((0 : Int) < (p : Int)) = true := decide_eq_true (by omega)
        rw [if_pos hp0] at hfin
        have hfi := hfin.out
        have hfin := Lib.hid hfi
        clear hfi
        cases s1 <;> cases sr <;>
        · have d3 := hn15
          go_wp2
          go_quiet (fail)
          go_wp2
          go_ret
          exact ⟨ret_str (by rw [hfin.out]; simp), bel_drewN hw _⟩
      · have d2 : decide ((0 : Int) < (p : Int)) = false := decide_eq_false (by omega)
        have he := hz0.out (by omega)
        subst he
        rw [if_neg hp0, List.append_nil] at hfin
        clear hs1 hs2
        cases s1 <;> cases sr <;>
        · have d3 := hn15
          go_wp2
          go_ret
          exact ⟨ret_str (by rw [hfin.out]; simp), hw⟩
end Go.Proofs.YtbgihlfblmilmaaGreatDoor.Fr
