/- A number with decimal places, as a string. -/
import Derived.Test.YtbgihlfblmilmaaGreatDoorJE
import Derived.Test.YtbgihlfblmilmaaGreatDoorGS
namespace Go.Proofs.YtbgihlfblmilmaaGreatDoor.Fr
open Go.RowKit Num

/-- a number without its sign, in units of the last of p decimal places, rounded, halves up -/
def rdd (q : Rat) (p : Nat) : Nat := (q.num.natAbs * 10 ^ p + q.num.natAbs * 10 ^ p + q.den) / (q.den + q.den)
theorem rdd_fq {s : Bool} {N D p : Nat} {q : Rat} (hD : 0 < D) (hq : fq s N D = q) : (N * 10 ^ p + N * 10 ^ p + D) / (D + D) = rdd q p := by
  unfold rdd
  rw [← hq, fq_abs hD, fq_den hD]
  have hg : 0 < N.gcd D := Nat.gcd_pos_of_pos_right N hD
  obtain ⟨a, ha⟩ := Nat.gcd_dvd_left N D
  obtain ⟨b, hb⟩ := Nat.gcd_dvd_right N D
  generalize N.gcd D = g at *
  subst ha hb
  rw [Nat.mul_div_cancel_left _ hg, Nat.mul_div_cancel_left _ hg, show g * a * 10 ^ p + g * a * 10 ^ p + g * b = g * (a * 10 ^ p + a * 10 ^ p + b) by rw [Nat.mul_add, Nat.mul_add, Nat.mul_assoc], show g * b + g * b = g * (b + b) by rw [Nat.mul_add], Nat.mul_div_mul_left _ _ hg]
/-- the digits, with zeros before them, until there is one before the point -/
def dcz (q : Rat) (p : Nat) : List UInt8 := List.replicate (p + 1 - (Lib.decDigits (rdd q p)).length) 48 ++ Lib.decDigits (rdd q p)
/-- a number with p decimal places -/
def dcm (q : Rat) (p : Nat) : List UInt8 :=
  (if q.num < 0 ∧ 0 < rdd q p then [45] else []) ++ ((dcz q p).take ((dcz q p).length - p) ++ (if 0 < p then 46 :: (dcz q p).drop ((dcz q p).length - p) else []))
theorem ret_strE {a b : ByteArray} {z : Int} (h : a.data.toList = b.data.toList) : Ending.returned (.tuple #[.string a, .int .i64 z]) = .returned (.tuple #[.string b, .int .i64 z]) := by
  have : a = b := by
    cases a; cases b; congr 1; exact Array.ext' h
  rw [this]
theorem slice_to (l : List UInt8) (k : Nat) (hk : k ≤ l.length) (w : World) : (Instr.slice 9 (.string ⟨l.toArray⟩) none (some (.int .i64 (k : Int))) none).run Tryz.prog w = .ok (.string ⟨(l.take k).toArray⟩) w := by
  rw [run_slice_string_h w 9 ⟨l.toArray⟩ Tryz.underlying9 .i64 (k : Int) (by omega) (by show (k : Int) ≤ ((l.length : Nat) : Int); omega), Lib.extract_eq]
  simp
theorem slice_from (l : List UInt8) (k : Nat) (hk : k ≤ l.length) (w : World) : (Instr.slice 9 (.string ⟨l.toArray⟩) (some (.int .i64 (k : Int))) none none).run Tryz.prog w = .ok (.string ⟨(l.drop k).toArray⟩) w := by
  rw [run_slice_string_l w 9 ⟨l.toArray⟩ Tryz.underlying9 .i64 (k : Int) (by omega) (by show (k : Int) ≤ ((l.length : Nat) : Int); omega), Lib.extract_eq]
  rw [show (⟨l.toArray⟩ : ByteArray).data.toList = l from rfl, show (⟨l.toArray⟩ : ByteArray).size = l.length from rfl, show ((k : Int)).toNat = k by omega, List.take_of_length_le (by rw [List.length_drop]; omega)]

set_option maxHeartbeats 1600000 in
theorem DecimalBadQ (v1 : Value) (q1 : Rat) (z : Int) (L : Nat) (w : World) (h1 : AF w v1 q1 L) (hz : z < 0 ∨ 1000 < z) :
    Calls Tryz.prog 66 #[v1, .int .i64 z] w fun e w' => e = .returned (.tuple #[.string ⟨#[]⟩, .int .i64 2]) ∧ Below w.heap.size w w' := by
  obtain ⟨s1, A1, n1, c1, A2, n2, c2, rfl⟩ := h1.form
  have hw0 := (Below.refl w.heap.size w).alloc (Nat.le_refl _) (.cells #[.bool s1, .slice A1 n1 c1, .slice A2 n2 c2] 24)
  by_cases hn : z < 0
  · have d1 : decide (z < 0) = true := decide_eq_true hn
    clear hz hn
    go_enter Tryz.func66, Tryz.ntmps66
    go_wp2
    go_ret2
    exact ⟨rfl, hw0⟩
  · have d1 : decide (z < 0) = false := decide_eq_false hn
    have d2 : decide ((1000 : Int) < z) = true := decide_eq_true (by omega)
    clear hz hn
    go_enter Tryz.func66, Tryz.ntmps66
    go_wp2
    go_ret2
    exact ⟨rfl, hw0⟩

set_option maxHeartbeats 6400000 in
set_option maxRecDepth 100000 in
theorem DecimalQ (v1 : Value) (q1 : Rat) (p L : Nat) (w : World) (h1 : AF w v1 q1 L) (hL : L ≤ 10000) (hp : p ≤ 1000) (hG : Gl w) :
    Calls Tryz.prog 66 #[v1, .int .i64 (p : Int)] w fun e w' => e = .returned (.tuple #[.string ⟨(dcm q1 p).toArray⟩, .int .i64 0]) ∧ Below w.heap.size w w' := by
  obtain ⟨s1, A1, n1, c1, A2, n2, c2, rfl⟩ := h1.form
  have B1 := Blk.new w 24 #[.bool s1, .slice A1 n1 c1, .slice A2 n2 c2]
  have hw0 := (Below.refl w.heap.size w).alloc (Nat.le_refl _) (.cells #[.bool s1, .slice A1 n1 c1, .slice A2 n2 c2] 24)
  have h1 := h1.below hw0
  have hG := Lib.hid hG
  have d1 : decide ((p : Int) < 0) = false := decide_eq_false (by omega)
  have d2 : decide ((1000 : Int) < (p : Int)) = false := decide_eq_false (by omega)
  go_enter Tryz.func66, Tryz.ntmps66
  go_upto_region 1 with fail
  generalize w.alloc (.cells #[.bool s1, .slice A1 n1 c1, .slice A2 n2 c2] 24) = w1 at *
  have k0 : w1.cell? ⟨w.heap.size, 0, none⟩ = some (.bool s1) := B1.cell 0
  have k1 : w1.cell? ⟨w.heap.size, 1, none⟩ = some (.slice A1 n1 c1) := B1.cell 1
  have k2 : w1.cell? ⟨w.heap.size, 2, none⟩ = some (.slice A2 n2 c2) := B1.cell 2
  go_wp2_with fail
  refine (loadQ _ q1 L _ h1 (by omega)).mono ?_
  rintro r w2 ⟨_, rfl, hq2, hb2⟩
  have hw2 := hw0.trans (hb2.mono hw0.size)
  obtain ⟨s, N, D, ⟨_, _, rfl, ⟨A3, m3, c3, us3, rfl, hD3, hN3, hv3, hm3⟩, ⟨A4, m4, c4, us4, rfl, hD4, hN4, hv4, hm4⟩⟩, hDp, hsN, hfq⟩ := hq2
  clear B1 h1 k0 k1 k2 hb2
  have hba := (Below.refl w2.heap.size w2).alloc (Nat.le_refl _) (.cells #[.bool s, .slice A3 m3 c3, .slice A4 m4 c4] 67)
  have E3 := Blk.new w2 67 #[.bool s, .slice A3 m3 c3, .slice A4 m4 c4]
  have hw3 := hw2.alloc hw2.size (.cells #[.bool s, .slice A3 m3 c3, .slice A4 m4 c4] 67)
  have hD3 := hD3.below hba
  have hD4 := hD4.below hba
  go_upto_region 4 with fail
  generalize w2.heap.size = g1 at *
  generalize w2.alloc (.cells #[.bool s, .slice A3 m3 c3, .slice A4 m4 c4] 67) = wa at *
  have k1 : wa.cell? ⟨g1, 1, none⟩ = some (.slice A3 m3 c3) := E3.cell 1
  go_region_held3 (fun wx => wx.cell? ⟨g1, 1, none⟩ = some (.slice A3 m3 c3))
    (first | exact k1 | exact K5 | exact K6)
    (first
      | (go_at_call 113; refine (tenToQ p _ (by omega)).mono ?_; rintro e w5 ⟨A5, m5, c5, us5, rfl, hD5, hN5, hv5, hm5, hb5⟩; have K5 : w5.cell? ⟨g1, 1, none⟩ = some (.slice A3 m3 c3) := (E3.drew.below hb5).cell 1)
      | (go_at_call 112; refine (mul64_any _ _ _ _ _ _ _ _ _ (hD3.drew.below hb5) hD5 (by omega) (by omega)).mono ?_; rintro e w6 ⟨A6, m6, c6, us6, rfl, hD6, hN6, hv6, hm6, hb6, _⟩; have K6 : w6.cell? ⟨g1, 1, none⟩ = some (.slice A3 m3 c3) := ((E3.drew.below hb5).below hb6).cell 1))
  have hv6 := Lib.hid (show vl (bs .u64) us6 = N * 10 ^ p by rw [hv6.out, hv3.out, hv5.out])
  have hw5 := (hw3.drew).trans (hb5.mono hw3.size)
  have hw6 := hw5.trans (hb6.mono hw5.size)
  have F3 := (E3.drew.below hb5).below hb6
  have hD4 := (hD4.drew.below hb5).below hb6
  clear E3 hD3 hN3 hv3 hD5 hN5 hv5 hb5 hb6 hw5 hw3 hba k1 K5 K6
  have k2 : w6.cell? ⟨g1, 2, none⟩ = some (.slice A4 m4 c4) := F3.cell 2
  go_upto_region 5 with fail
  go_region_held3 (fun wx => wx.cell? ⟨g1, 2, none⟩ = some (.slice A4 m4 c4))
    (first | exact k2 | exact K7 | exact K8 | exact K9 | exact K10)
    (first
      | (go_at_call_of 114 (Value.slice A6 m6 c6); refine (add_any _ _ _ _ _ _ _ _ _ hD6.drew hD6.drew (by omega) (by omega)).mono ?_; rintro e w7 ⟨A7, m7, c7, us7, rfl, hD7, hN7, hv7, hm7, hb7, _⟩; have K7 : w7.cell? ⟨g1, 2, none⟩ = some (.slice A4 m4 c4) := (F3.drew.below hb7).cell 2)
      | (go_at_call_of 114 (Value.slice A7 m7 c7); refine (add_any _ _ _ _ _ _ _ _ _ hD7 (hD4.drew.below hb7) (by omega) (by omega)).mono ?_; rintro e w8 ⟨A8, m8, c8, us8, rfl, hD8, hN8, hv8, hm8, hb8, _⟩; have K8 : w8.cell? ⟨g1, 2, none⟩ = some (.slice A4 m4 c4) := ((F3.drew.below hb7).below hb8).cell 2)
      | (go_at_call_of 114 (Value.slice A4 m4 c4); refine (add_any _ _ _ _ _ _ _ _ _ ((hD4.drew.below hb7).below hb8) ((hD4.drew.below hb7).below hb8) (by omega) (by omega)).mono ?_; rintro e w9 ⟨A9, m9, c9, us9, rfl, hD9, hN9, hv9, hm9, hb9, _⟩; have K9 : w9.cell? ⟨g1, 2, none⟩ = some (.slice A4 m4 c4) := (((F3.drew.below hb7).below hb8).below hb9).cell 2)
      | (go_at_call 115; refine (divide64_any _ _ _ _ _ _ _ _ _ (hD8.below hb9) hD9 hN8 hN9 (N * 10 ^ p + N * 10 ^ p + D) (D + D) (Lib.hid (by rw [hv8.out, hv7.out, hv6.out, hv4.out])) (Lib.hid (by rw [hv9.out, hv4.out])) (by omega) (by omega)).mono ?_; rintro e w10 ⟨_, _, rfl, ⟨A10, m10, c10, us10, rfl, hD10, hN10, hv10, hm10⟩, ⟨A11, m11, c11, us11, rfl, _, _, _, _⟩, hb10, _⟩; have K10 : w10.cell? ⟨g1, 2, none⟩ = some (.slice A4 m4 c4) := ((((F3.drew.below hb7).below hb8).below hb9).below hb10).cell 2))
  have z7 := (hw6.drew).trans (hb7.mono hw6.size)
  have z8 := z7.trans (hb8.mono z7.size)
  have z9 := z8.trans (hb9.mono z8.size)
  have z10 := z9.trans (hb10.mono z9.size)
  have F4 := (((F3.drew.below hb7).below hb8).below hb9).below hb10
  have hv10 := Lib.hid (show vl (bs .u64) us10 = rdd q1 p by rw [hv10.out, rdd_fq hDp hfq.out])
  have hsgn := Lib.hid (show decide (q1.num < 0) = s from sgn_fq hDp hsN hfq.out)
  have hm10' : m10 ≤ 30000 := by omega
  clear hfq F3 hD4 hN4 hv4 hD6 hN6 hv6 hD7 hN7 hv7 hD8 hN8 hv8 hD9 hN9 hv9 hb7 hb8 hb9 hb10 hw6 z7 z8 z9 k2 K7 K8 K9 K10
  have r0 := F4.cell 0
  obtain ⟨z, hz⟩ : ∃ z, Lib.decDigits (rdd q1 p) = z := ⟨_, rfl⟩
  have hzl : z.length ≤ 1000000 := by
    have := dec_len_le (nv_lt hD10 hv10 hm10')
    rw [hz] at this
    omega
  obtain ⟨zz, hzz⟩ : ∃ zz, dcz q1 p = zz := ⟨_, rfl⟩
  have hzz2 : Hid (List.replicate (p + 1 - z.length) 48 ++ z = zz) := by
    show _ = _
    rw [← hzz, ← hz]; rfl
  have hzzl : zz.length = max (p + 1) z.length := by
    rw [← hzz2.out, List.length_append, List.length_replicate]; omega
  have hz := Lib.hid hz
  have hpad : Hid (∀ W, Calls Tryz.prog 116 #[.string ⟨z.toArray⟩, .int .i64 ((p : Int) + 1)] W fun e w' => e = .returned (.string ⟨zz.toArray⟩) ∧ Below W.heap.size W w') := by
    intro W
    have := paddedQ z (p + 1) W (by omega) (by omega)
    rw [show ((p + 1 : Nat) : Int) = (p : Int) + 1 by omega, hzz2.out] at this
    exact this
  obtain ⟨pt, hpt⟩ : ∃ pt, zz.length - p = pt := ⟨_, rfl⟩
  have hpt2 : (zz.length : Int) - (p : Int) = (pt : Int) := by omega
  have hptl : pt ≤ zz.length := by omega
  have hs1 := Lib.hid (slice_to zz pt hptl)
  have hs2 := Lib.hid (slice_from zz pt hptl)
  obtain ⟨za, hza⟩ : ∃ za, zz.take pt = za := ⟨_, rfl⟩
  obtain ⟨zb, hzb⟩ : ∃ zb, zz.drop pt = zb := ⟨_, rfl⟩
  have hzzb : zz.length ≤ 3000000 := by omega
  have hzal : za.length ≤ 3000000 := by rw [← hza, List.length_take]; omega
  have hzbl : zb.length ≤ 3000000 := by rw [← hzb, List.length_drop]; omega
  rw [hza] at hs1
  rw [hzb] at hs2
  have hnp := nv_pos hD10 hN10 (by decide) hv10
  have hfin : Hid (dcm q1 p = (if (s && decide (0 < rdd q1 p)) = true then [45] else []) ++ (za ++ (if 0 < p then 46 :: zb else []))) := by
    show _ = _
    unfold dcm
    rw [hzz, hpt, hza, hzb]
    congr 1
    have h9 := hsgn.out
    by_cases ha : q1.num < 0 <;> by_cases hb : 0 < rdd q1 p <;> simp [ha, hb, ← h9]
  rw [← hnp] at hfin
  clear hzz hzz2 hzzl hza hzb hpt
  go_wp2_with fail
  refine (text_any A10 m10 c10 us10 _ hD10 hN10 _ hv10 (by omega) (hG.out.below z10)).mono ?_
  rintro e w11 ⟨rfl, hb11⟩
  rw [hz.out]
  go_wp2_with fail
  refine (hpad.out _).mono ?_
  rintro e w12 ⟨rfl, hb12⟩
  have hszz : (⟨zz.toArray⟩ : ByteArray).size = zz.length := rfl
  have r0' := ((F4.below hb11).below hb12).cell 0
  have hs1 := hs1.out
  have hs2 := hs2.out
  have hfin := hfin
  clear r0 F4
  cases s with
  | false =>
    by_cases hpp : 0 < p
    · have hp0 : decide ((0 : Int) < (p : Int)) = true := decide_eq_true (by omega)
      have hf := Lib.hid (show dcm q1 p = (za ++ 46 :: zb) by rw [hfin.out, Bool.false_and, if_neg (by decide), List.nil_append, if_pos hpp])
      have hpd := decide_eq_true hpp
      clear hfin
      go_wp2
      go_ret2
      exact ⟨ret_strE (by rw [hf.out]; simp), (z10.trans (hb11.mono z10.size)).trans (hb12.mono (Nat.le_trans z10.size hb11.size))⟩
    · have hp0 : decide ((0 : Int) < (p : Int)) = false := decide_eq_false (by omega)
      have hf := Lib.hid (show dcm q1 p = (za ++ []) by rw [hfin.out, Bool.false_and, if_neg (by decide), List.nil_append, if_neg hpp])
      have hpd := decide_eq_false hpp
      clear hfin
      go_wp2
      go_ret2
      exact ⟨ret_strE (by rw [hf.out]; simp), (z10.trans (hb11.mono z10.size)).trans (hb12.mono (Nat.le_trans z10.size hb11.size))⟩
  | true =>
    by_cases hmm : 0 < m10
    · have hm0 : decide ((0 : Int) < (m10 : Int)) = true := decide_eq_true (by omega)
      have hmd := Lib.hid (decide_eq_true hmm)
      have hmd2 := decide_eq_true hmm
      by_cases hpp : 0 < p
      · have hp0 : decide ((0 : Int) < (p : Int)) = true := decide_eq_true (by omega)
        have hf := Lib.hid (show dcm q1 p = [45] ++ (za ++ 46 :: zb) by rw [hfin.out, hmd.out, Bool.true_and, if_pos rfl, if_pos hpp])
        have hpd := decide_eq_true hpp
        clear hfin
        go_wp2
        go_ret2
        exact ⟨ret_strE (by rw [hf.out]; simp), (z10.trans (hb11.mono z10.size)).trans (hb12.mono (Nat.le_trans z10.size hb11.size))⟩
      · have hp0 : decide ((0 : Int) < (p : Int)) = false := decide_eq_false (by omega)
        have hf := Lib.hid (show dcm q1 p = [45] ++ (za ++ []) by rw [hfin.out, hmd.out, Bool.true_and, if_pos rfl, if_neg hpp])
        have hpd := decide_eq_false hpp
        clear hfin
        go_wp2
        go_ret2
        exact ⟨ret_strE (by rw [hf.out]; simp), (z10.trans (hb11.mono z10.size)).trans (hb12.mono (Nat.le_trans z10.size hb11.size))⟩
    · have hm0 : decide ((0 : Int) < (m10 : Int)) = false := decide_eq_false (by omega)
      have hmd := Lib.hid (decide_eq_false hmm)
      have hmd2 := decide_eq_false hmm
      by_cases hpp : 0 < p
      · have hp0 : decide ((0 : Int) < (p : Int)) = true := decide_eq_true (by omega)
        have hf := Lib.hid (show dcm q1 p = (za ++ 46 :: zb) by rw [hfin.out, hmd.out, Bool.true_and, if_neg (by decide), List.nil_append, if_pos hpp])
        have hpd := decide_eq_true hpp
        clear hfin
        go_wp2
        go_ret2
        exact ⟨ret_strE (by rw [hf.out]; simp), (z10.trans (hb11.mono z10.size)).trans (hb12.mono (Nat.le_trans z10.size hb11.size))⟩
      · have hp0 : decide ((0 : Int) < (p : Int)) = false := decide_eq_false (by omega)
        have hf := Lib.hid (show dcm q1 p = (za ++ []) by rw [hfin.out, hmd.out, Bool.true_and, if_neg (by decide), List.nil_append, if_neg hpp])
        have hpd := decide_eq_false hpp
        clear hfin
        go_wp2
        go_ret2
        exact ⟨ret_strE (by rw [hf.out]; simp), (z10.trans (hb11.mono z10.size)).trans (hb12.mono (Nat.le_trans z10.size hb11.size))⟩
end Go.Proofs.YtbgihlfblmilmaaGreatDoor.Fr
