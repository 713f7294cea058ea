/- The rows of the chapter's examples: 'known' answers true. -/
import Derived.Test.YtbgihlfblmilmaaGreatDoorJI
import Derived.Test.YtbgihlfblmilmaaGreatDoorJG
import Derived.Test.YtbgihlfblmilmaaGreatDoorHN
import Derived.Test.YtbgihlfblmilmaaGreatDoorHE
import Derived.Test.YtbgihlfblmilmaaGreatDoorGX
import Derived.Test.YtbgihlfblmilmaaGreatDoorR1
namespace Go.Proofs.YtbgihlfblmilmaaGreatDoor.Fr
open Go.RowKit Num

theorem fq_quot (n d : Int) (hd : d ≠ 0) : fq (decide (n < 0) != decide (d < 0)) n.natAbs d.natAbs = (n : Rat) * (d : Rat)⁻¹ := by
  rw [← fq_int n, ← fq_int d, fq_inv (by omega) (by decide), fq_mul, Nat.mul_one, Nat.one_mul]
theorem refMakeQ (n d : Int) (w : World) (hr : -9223372036854775808 ≤ n ∧ n ≤ 9223372036854775807) (hd : -9223372036854775808 ≤ d ∧ d ≤ 9223372036854775807) (hd0 : d ≠ 0) :
    Calls Tryz.prog 33 #[.int .i64 n, .int .i64 d] w (RetFQ w ((n : Rat) * (d : Rat)⁻¹) 5) := by
  refine (refMake_any n d w hr hd).mono fun e w' hr => ?_
  have h := retq_fq (dn_pos' _) hr
  rw [show dn d.natAbs = d.natAbs by unfold dn; rw [if_neg (by omega)], fq_quot n d hd0] at h
  exact h
theorem lawqQ (n d : Int) (w : World) (hr : -9223372036854775808 ≤ n ∧ n ≤ 9223372036854775807) (hd : -9223372036854775808 ≤ d ∧ d ≤ 9223372036854775807) (hd0 : d ≠ 0) :
    Calls Tryz.prog 69 #[.int .i64 n, .int .i64 d] w (RetFQ w ((n : Rat) * (d : Rat)⁻¹) 5) := by
  have B2 := Blk.new w 24 #[.bool false, .slice none 0 0, .slice none 0 0]
  have hw0 := (Below.refl w.heap.size w).alloc (Nat.le_refl _) (.cells #[.bool false, .slice none 0 0, .slice none 0 0] 24)
  go_enter Tryz.func69, Tryz.ntmps69
  go_upto_region 1 with fail
  generalize w.alloc (.cells #[.bool false, .slice none 0 0, .slice none 0 0] 24) = w1 at *
  go_wp2_with fail
  refine (refMakeQ n d _ hr hd hd0).mono ?_
  rintro e w2 ⟨_, rfl, hq, hb2⟩
  obtain ⟨s9, A9, n9, c9, A10, n10, c10, rfl⟩ := hq.form
  have C9 := B2.below hb2
  have hw9 := hw0.trans (hb2.mono hw0.size)
  have r0 := C9.cell 0
  have r1 := C9.cell 1
  have r2 := C9.cell 2
  have f0 := C9.frozen 0
  have f1 := C9.frozen 1
  have f2 := C9.frozen 2
  go_wp2
  exact ret_frac rfl rfl (((C9.set_ 0 _).set_ 1 _).set_ 2 _) rfl ⟨_, rfl, hq.set3 C9 _ _ _, bel_set3 hw9 (by omega) _ _ _⟩
theorem Ls.lit3 {P : World → Value → Rat → Nat → Prop} {w : World} {g L : Nat} {t : TypeId} {a b d a2 b2 d2 a3 b3 d3 : Value} {q1 q2 q3 : Rat} (hB : Blk w g t #[a, b, d, a2, b2, d2, a3, b3, d3]) (h1 : P w (.agg #[a, b, d]) q1 L) (h2 : P w (.agg #[a2, b2, d2]) q2 L) (h3 : P w (.agg #[a3, b3, d3]) q3 L) : Ls P w (some ⟨g, 0, none⟩) 3 3 L [q1, q2, q3] :=
  ⟨rfl, Nat.le_refl _, by decide, fun _ => ⟨_, rfl, fun j q hq => by
    match j, hq with
    | 0, hq => simp at hq; subst hq; exact ⟨a, b, d, hB.cell 0, hB.cell 1, hB.cell 2, h1⟩
    | 1, hq => simp at hq; subst hq; exact ⟨a2, b2, d2, hB.cell 3, hB.cell 4, hB.cell 5, h2⟩
    | 2, hq => simp at hq; subst hq; exact ⟨a3, b3, d3, hB.cell 6, hB.cell 7, hB.cell 8, h3⟩
    | (j + 3), hq => simp at hq⟩⟩
theorem txt_of {q : Rat} {n : Int} {d : Nat} {l : List UInt8} (h1 : q.num = n) (h2 : q.den = d) (h3 : (if n < 0 then [45] else []) ++ Lib.decDigits n.natAbs ++ (if d = 1 then [] else 47 :: Lib.decDigits d) = l) : txt q = l := by
  unfold txt; rw [h1, h2]; exact h3
theorem known_a : txt (((6 : Int) : Rat) * (((-4 : Int)) : Rat)⁻¹) = [45, 51, 47, 50] :=
  txt_of (n := -3) (d := 2) (by decide +kernel) (by decide +kernel) (by rw [Lib.decDigits_one (by decide), Lib.decDigits_one (by decide)]; rfl)
theorem known_b : txt ((((-2 : Int) : Rat) * (((3 : Int)) : Rat)⁻¹) ^ 3) = [45, 56, 47, 50, 55] :=
  txt_of (n := -8) (d := 27) (by decide +kernel) (by decide +kernel) (by rw [Lib.decDigits_one (by decide), Lib.decDigits_two (by decide) (by decide)]; rfl)
theorem known_c : txt (((((((5 : Int) : Rat) * (((7 : Int)) : Rat)⁻¹) * ((10 : Int) : Rat)).floor : Rat)) * (((10 : Int)) : Rat)⁻¹) = [55, 47, 49, 48] :=
  txt_of (n := 7) (d := 10) (by decide +kernel) (by decide +kernel) (by rw [show (7 : Int).natAbs = 7 from rfl, Lib.decDigits_one (by decide), Lib.decDigits_two (by decide) (by decide)]; rfl)
theorem known_d : dcm (((2 : Int) : Rat) * (((3 : Int)) : Rat)⁻¹) 3 = [48, 46, 54, 54, 55] := by
  have h1 : rdd (((2 : Int) : Rat) * (((3 : Int)) : Rat)⁻¹) 3 = 667 := by decide +kernel
  have h2 : Lib.decDigits 667 = [54, 54, 55] := by rw [Lib.decDigits, dif_neg (by decide), Lib.decDigits_two (by decide) (by decide)]; rfl
  unfold dcm dcz
  rw [h1, h2, if_neg (by decide +kernel)]
  rfl
theorem known_e0 : pre [45, 48, 49, 50, 46, 53, 48] = 0 := by decide +kernel
theorem known_e : txt (prq [45, 48, 49, 50, 46, 53, 48]) = [45, 50, 53, 47, 50] :=
  txt_of (n := -25) (d := 2) (by decide +kernel) (by decide +kernel) (by rw [show (-25 : Int).natAbs = 25 from rfl, Lib.decDigits_two (by decide) (by decide), Lib.decDigits_one (by decide)]; rfl)
theorem known_f : txt (((1 : Int) : Rat) * (((2 : Int)) : Rat)⁻¹ + ((1 : Int) : Rat) * (((3 : Int)) : Rat)⁻¹) = [53, 47, 54] :=
  txt_of (n := 5) (d := 6) (by decide +kernel) (by decide +kernel) (by rw [show (5 : Int).natAbs = 5 from rfl, Lib.decDigits_one (by decide), Lib.decDigits_one (by decide)]; rfl)
theorem known_g : bl (((1 : Int) : Rat) * (((2 : Int)) : Rat)⁻¹).num.natAbs + bl (((1 : Int) : Rat) * (((2 : Int)) : Rat)⁻¹).den = 3 := by decide +kernel
theorem known_h : bst [((1 : Int) : Rat) * (((2 : Int)) : Rat)⁻¹, ((2 : Int) : Rat) * (((3 : Int)) : Rat)⁻¹, ((4 : Int) : Rat) * (((6 : Int)) : Rat)⁻¹] 3 = 1 := by decide +kernel
end Go.Proofs.YtbgihlfblmilmaaGreatDoor.Fr

/- 'known' answers true. -/
namespace Go.Proofs.YtbgihlfblmilmaaGreatDoor.Fr
open Go.RowKit Num

set_option maxHeartbeats 12800000 in
set_option maxRecDepth 100000 in
theorem known_true (w : World) (hG : Gl w) : Calls Tryz.prog 21 #[] w fun e w' => e = .returned (.bool true) ∧ Below w.heap.size w w' := by
  have hb0 := Below.refl w.heap.size w
  have hG := Lib.hid hG
  go_enter Tryz.func21, Tryz.ntmps21
  go_wp2_with fail
  refine (makeQ 6 (-4) _ (by decide) (by decide) (by decide)).mono ?_
  rintro e w1 ⟨_, rfl, qa, hc1⟩
  have hb1 := hb0.trans (hc1.mono hb0.size)
  obtain ⟨sqa, Aqa, mqa, cqa, Bqa, nqa, dqa, rfl⟩ := qa.form
  have ha1 := (Below.refl w1.heap.size w1).alloc (Nat.le_refl _) (.cells #[.bool sqa, .slice Aqa mqa cqa, .slice Bqa nqa dqa] 24)
  have xa : Bx (w1.alloc (.cells #[.bool sqa, .slice Aqa mqa cqa, .slice Bqa nqa dqa] 24)) w1.heap.size _ _ := ⟨_, _, _, _, _, _, _, Blk.new _ _ _, qa.below ha1⟩
  have hz1 := hb1.alloc hb1.size (.cells #[.bool sqa, .slice Aqa mqa cqa, .slice Bqa nqa dqa] 24)
  go_wp2_with fail
  generalize w1.heap.size = ga at *
  generalize w1.alloc (.cells #[.bool sqa, .slice Aqa mqa cqa, .slice Bqa nqa dqa] 24) = u1 at *
  refine (lawqQ (-2) 3 _ (by decide) (by decide) (by decide)).mono ?_
  rintro e w2 ⟨_, rfl, qb0, hc2⟩
  have hb2 := hz1.trans (hc2.mono hz1.size)
  have xa := xa.below hc2
  go_wp2_with fail
  refine (PowQ _ _ 3 5 40 _ qb0.af (by decide) (by decide) (by decide) (by decide)).mono ?_
  rintro e w3 ⟨_, rfl, qb, hc3⟩
  have hb3 := hb2.trans (hc3.mono hb2.size)
  have xa := xa.below hc3
  obtain ⟨sqb, Aqb, mqb, cqb, Bqb, nqb, dqb, rfl⟩ := qb.form
  have ha3 := (Below.refl w3.heap.size w3).alloc (Nat.le_refl _) (.cells #[.bool sqb, .slice Aqb mqb cqb, .slice Bqb nqb dqb] 24)
  have xb : Bx (w3.alloc (.cells #[.bool sqb, .slice Aqb mqb cqb, .slice Bqb nqb dqb] 24)) w3.heap.size _ _ := ⟨_, _, _, _, _, _, _, Blk.new _ _ _, qb.below ha3⟩
  have hz3 := hb3.alloc hb3.size (.cells #[.bool sqb, .slice Aqb mqb cqb, .slice Bqb nqb dqb] 24)
  have xa := xa.below ha3
  go_wp2_with fail
  generalize w3.heap.size = gb at *
  generalize w3.alloc (.cells #[.bool sqb, .slice Aqb mqb cqb, .slice Bqb nqb dqb] 24) = u3 at *
  refine (lawqQ 5 7 _ (by decide) (by decide) (by decide)).mono ?_
  rintro e w4 ⟨_, rfl, qc0, hc4⟩
  have hb4 := hz3.trans (hc4.mono hz3.size)
  have xa := xa.below hc4
  have xb := xb.below hc4
  go_wp2_with fail
  refine (FloorQ _ _ 10 5 _ qc0.af (by decide) (by decide)).mono ?_
  rintro e w5 ⟨_, hfl⟩
  obtain ⟨_, rfl, qc, hc5⟩ := hfl (by decide)
  have hb5 := hb4.trans (hc5.mono hb4.size)
  have xa := xa.below hc5
  have xb := xb.below hc5
  obtain ⟨sqc, Aqc, mqc, cqc, Bqc, nqc, dqc, rfl⟩ := qc.form
  have ha5 := (Below.refl w5.heap.size w5).alloc (Nat.le_refl _) (.cells #[.bool sqc, .slice Aqc mqc cqc, .slice Bqc nqc dqc] 24)
  have xc : Bx (w5.alloc (.cells #[.bool sqc, .slice Aqc mqc cqc, .slice Bqc nqc dqc] 24)) w5.heap.size _ _ := ⟨_, _, _, _, _, _, _, Blk.new _ _ _, qc.below ha5⟩
  have hz5 := hb5.alloc hb5.size (.cells #[.bool sqc, .slice Aqc mqc cqc, .slice Bqc nqc dqc] 24)
  have xa := xa.below ha5
  have xb := xb.below ha5
  go_wp2_with fail
  generalize w5.heap.size = gc at *
  generalize w5.alloc (.cells #[.bool sqc, .slice Aqc mqc cqc, .slice Bqc nqc dqc] 24) = u5 at *
  refine (lawqQ 2 3 _ (by decide) (by decide) (by decide)).mono ?_
  rintro e w6 ⟨_, rfl, qd0, hc6⟩
  have hb6 := hz5.trans (hc6.mono hz5.size)
  have xa := xa.below hc6
  have xb := xb.below hc6
  have xc := xc.below hc6
  go_wp2_with fail
  refine (DecimalQ _ _ 3 5 _ qd0.af (by decide) (by decide) (hG.out.below hb6)).mono ?_
  rintro e w7 ⟨rfl, hc7⟩
  rw [known_d]
  have hb7 := hb6.trans (hc7.mono hb6.size)
  have xa := xa.below hc7
  have xb := xb.below hc7
  have xc := xc.below hc7
  go_wp2_with fail
  refine (ParseQ [45, 48, 49, 50, 46, 53, 48] _ (by decide) (hG.out.below hb7)).mono ?_
  rintro e w8 ⟨_, rfl, qe, hc8⟩
  rw [known_e0]
  have hb8 := hb7.trans (hc8.mono hb7.size)
  have xa := xa.below hc8
  have xb := xb.below hc8
  have xc := xc.below hc8
  obtain ⟨sqe, Aqe, mqe, cqe, Bqe, nqe, dqe, rfl⟩ := qe.form
  have ha8 := (Below.refl w8.heap.size w8).alloc (Nat.le_refl _) (.cells #[.bool sqe, .slice Aqe mqe cqe, .slice Bqe nqe dqe] 24)
  have xe : Bx (w8.alloc (.cells #[.bool sqe, .slice Aqe mqe cqe, .slice Bqe nqe dqe] 24)) w8.heap.size _ _ := ⟨_, _, _, _, _, _, _, Blk.new _ _ _, qe.below ha8⟩
  have hz8 := hb8.alloc hb8.size (.cells #[.bool sqe, .slice Aqe mqe cqe, .slice Bqe nqe dqe] 24)
  have xa := xa.below ha8
  have xb := xb.below ha8
  have xc := xc.below ha8
  obtain ⟨sga, Aga, mga, cga, Bga, nga, dga, Bxa, fxa⟩ := xa
  have k0ga := Bxa.cell 0
  have k1ga := Bxa.cell 1
  have k2ga := Bxa.cell 2
  go_wp2_with fail
  generalize w8.heap.size = ge at *
  generalize w8.alloc (.cells #[.bool sqe, .slice Aqe mqe cqe, .slice Bqe nqe dqe] 24) = u8 at *
  refine (TextQ _ _ _ _ fxa.af (by decide) (hG.out.below hz8)).mono ?_
  rintro e w9 ⟨rfl, hc9⟩
  rw [show (⟨(txt _).toArray⟩ : ByteArray) = _ from congrArg (fun l : List UInt8 => (⟨l.toArray⟩ : ByteArray)) known_a]
  have hb9 := hz8.trans (hc9.mono hz8.size)
  have xb := xb.below hc9
  have xc := xc.below hc9
  have xe := xe.below hc9
  obtain ⟨sgb, Agb, mgb, cgb, Bgb, ngb, dgb, Bxb, fxb⟩ := xb
  have k0gb := Bxb.cell 0
  have k1gb := Bxb.cell 1
  have k2gb := Bxb.cell 2
  go_wp2_with fail
  refine (TextQ _ _ _ _ fxb.af (by decide) (hG.out.below hb9)).mono ?_
  rintro e w10 ⟨rfl, hc10⟩
  rw [show (⟨(txt _).toArray⟩ : ByteArray) = _ from congrArg (fun l : List UInt8 => (⟨l.toArray⟩ : ByteArray)) known_b]
  have hb10 := hb9.trans (hc10.mono hb9.size)
  have xc := xc.below hc10
  have xe := xe.below hc10
  obtain ⟨sgc, Agc, mgc, cgc, Bgc, ngc, dgc, Bxc, fxc⟩ := xc
  have k0gc := Bxc.cell 0
  have k1gc := Bxc.cell 1
  have k2gc := Bxc.cell 2
  go_wp2_with fail
  refine (TextQ _ _ _ _ fxc.af (by decide) (hG.out.below hb10)).mono ?_
  rintro e w11 ⟨rfl, hc11⟩
  rw [show (⟨(txt _).toArray⟩ : ByteArray) = _ from congrArg (fun l : List UInt8 => (⟨l.toArray⟩ : ByteArray)) known_c]
  have hb11 := hb10.trans (hc11.mono hb10.size)
  have xe := xe.below hc11
  obtain ⟨sge, Age, mge, cge, Bge, nge, dge, Bxe, fxe⟩ := xe
  have k0ge := Bxe.cell 0
  have k1ge := Bxe.cell 1
  have k2ge := Bxe.cell 2
  go_wp2_with fail
  refine (TextQ _ _ _ _ fxe.af (by decide) (hG.out.below hb11)).mono ?_
  rintro e w12 ⟨rfl, hc12⟩
  rw [show (⟨(txt _).toArray⟩ : ByteArray) = _ from congrArg (fun l : List UInt8 => (⟨l.toArray⟩ : ByteArray)) known_e]
  have hb12 := hb11.trans (hc12.mono hb11.size)
  go_wp2_with fail
  refine (lawqQ 1 2 _ (by decide) (by decide) (by decide)).mono ?_
  rintro e w13 ⟨_, rfl, qh, hc13⟩
  have hb13 := hb12.trans (hc13.mono hb12.size)
  go_wp2_with fail
  refine (lawqQ 1 3 _ (by decide) (by decide) (by decide)).mono ?_
  rintro e w14 ⟨_, rfl, qt, hc14⟩
  have hb14 := hb13.trans (hc14.mono hb13.size)
  have qh := qh.below hc14
  go_wp2_with fail
  refine (addQ _ _ _ _ 5 _ qh.af qt.af (by decide)).mono ?_
  rintro e w15 ⟨_, rfl, qf, hc15⟩
  have hb15 := hb14.trans (hc15.mono hb14.size)
  go_wp2_with fail
  refine (TextQ _ _ _ _ qf.af (by decide) (hG.out.below hb15)).mono ?_
  rintro e w16 ⟨rfl, hc16⟩
  rw [show (⟨(txt _).toArray⟩ : ByteArray) = _ from congrArg (fun l : List UInt8 => (⟨l.toArray⟩ : ByteArray)) known_f]
  have hb16 := hb15.trans (hc16.mono hb15.size)
  go_wp2_with fail
  refine (lawqQ 1 2 _ (by decide) (by decide) (by decide)).mono ?_
  rintro e w17 ⟨_, rfl, qi, hc17⟩
  have hb17 := hb16.trans (hc17.mono hb16.size)
  go_wp2_with fail
  refine (SizeQ _ _ 5 _ qi.af (by decide)).mono ?_
  rintro e w18 ⟨rfl, hc18⟩
  rw [known_g]
  have hb18 := hb17.trans (hc18.mono hb17.size)
  go_wp2_with fail
  refine (lawqQ 1 2 _ (by decide) (by decide) (by decide)).mono ?_
  rintro e w19 ⟨_, rfl, qj, hc19⟩
  have hb19 := hb18.trans (hc19.mono hb18.size)
  go_wp2_with fail
  refine (lawqQ 2 3 _ (by decide) (by decide) (by decide)).mono ?_
  rintro e w20 ⟨_, rfl, qk, hc20⟩
  have hb20 := hb19.trans (hc20.mono hb19.size)
  have qj := qj.below hc20
  go_wp2_with fail
  refine (lawqQ 4 6 _ (by decide) (by decide) (by decide)).mono ?_
  rintro e w21 ⟨_, rfl, ql, hc21⟩
  have hb21 := hb20.trans (hc21.mono hb20.size)
  have qj := qj.below hc21
  have qk := qk.below hc21
  obtain ⟨sqj, Aqj, mqj, cqj, Bqj, nqj, dqj, rfl⟩ := qj.form
  obtain ⟨sqk, Aqk, mqk, cqk, Bqk, nqk, dqk, rfl⟩ := qk.form
  obtain ⟨sql, Aql, mql, cql, Bql, nql, dql, rfl⟩ := ql.form
  have hbl := (Below.refl w21.heap.size w21).alloc (Nat.le_refl _) (.cells #[.bool sqj, .slice Aqj mqj cqj, .slice Bqj nqj dqj, .bool sqk, .slice Aqk mqk cqk, .slice Bqk nqk dqk, .bool sql, .slice Aql mql cql, .slice Bql nql dql] 24)
  have hzl := hb21.alloc hb21.size (.cells #[.bool sqj, .slice Aqj mqj cqj, .slice Bqj nqj dqj, .bool sqk, .slice Aqk mqk cqk, .slice Bqk nqk dqk, .bool sql, .slice Aql mql cql, .slice Bql nql dql] 24)
  go_wp2_with fail
  refine (BestQ _ 3 3 5 [_, _, _] _ (Ls.lit3 (P := AF) (Blk.new _ _ _) (qj.af.below hbl) (qk.af.below hbl) (ql.af.below hbl)) (by decide) (by decide)).mono ?_
  rintro e w99 ⟨rfl, hc99⟩
  rw [known_h]
  go_wp2
  go_ret
  exact ⟨rfl, hzl.trans (hc99.mono hzl.size)⟩
end Go.Proofs.YtbgihlfblmilmaaGreatDoor.Fr

/- The document's Same in general; which lists of numbers are short. -/
namespace Go.Proofs.YtbgihlfblmilmaaGreatDoor.Fr
open Go.RowKit Num

set_option maxHeartbeats 3200000 in
theorem same_any (s s' : Bool) (A1 A2 A3 A4 : Option Addr) (n1 c1 n2 c2 n3 c3 n4 c4 : Nat) (x1 x2 x3 x4 : List Nat) (w : World) (h1 : Dg .u32 w A1 n1 c1 x1) (h2 : Dg .u32 w A2 n2 c2 x2) (h3 : Dg .u32 w A3 n3 c3 x3) (h4 : Dg .u32 w A4 n4 c4 x4) :
    Calls Tryz.prog 25 #[.agg #[.bool s, .slice A1 n1 c1, .slice A2 n2 c2], .agg #[.bool s', .slice A3 n3 c3, .slice A4 n4 c4]] w fun e w' => e = .returned (.bool (decide (s = s') && decide (x1 = x3) && decide (x2 = x4))) ∧ Below w.heap.size w w' := by
  obtain ⟨B1, B2, hw0⟩ := two_blk w 24 #[.bool s, .slice A1 n1 c1, .slice A2 n2 c2] #[.bool s', .slice A3 n3 c3, .slice A4 n4 c4]
  go_enter Tryz.func25, Tryz.ntmps25
  go_upto_region 1 with fail
  generalize (w.alloc (.cells #[.bool s, .slice A1 n1 c1, .slice A2 n2 c2] 24)).alloc (.cells #[.bool s', .slice A3 n3 c3, .slice A4 n4 c4] 24) = w1 at *
  have k0 : w1.cell? ⟨w.heap.size, 0, none⟩ = some (.bool s) := B1.cell 0
  have k1 : w1.cell? ⟨w.heap.size, 1, none⟩ = some (.slice A1 n1 c1) := B1.cell 1
  have k2 : w1.cell? ⟨w.heap.size, 2, none⟩ = some (.slice A2 n2 c2) := B1.cell 2
  have k3 : w1.cell? ⟨w.heap.size + 1, 0, none⟩ = some (.bool s') := B2.cell 0
  have k4 : w1.cell? ⟨w.heap.size + 1, 1, none⟩ = some (.slice A3 n3 c3) := B2.cell 1
  have k5 : w1.cell? ⟨w.heap.size + 1, 2, none⟩ = some (.slice A4 n4 c4) := B2.cell 2
  have g1 := h1.below hw0
  have g2 := h2.below hw0
  have g3 := h3.below hw0
  have g4 := h4.below hw0
  have hcase : (∃ t, s = t ∧ s' = t) ∨ (decide (s = s') = false ∧ (s == s') = false) := by cases s <;> cases s' <;> simp
  rcases hcase with ⟨t, rfl, rfl⟩ | ⟨hne, hne2⟩
  · have hbb : ((s' : Bool) == s') = true := by simp
    go_wp2_with fail
    refine (sameDigits_any _ _ _ _ _ _ _ _ _ g1 g3).mono ?_
    rintro e w2 ⟨m, rfl, rfl⟩
    have k2' : (w1.drewN m).cell? ⟨w.heap.size, 2, none⟩ = some (.slice A2 n2 c2) := k2
    have k5' : (w1.drewN m).cell? ⟨w.heap.size + 1, 2, none⟩ = some (.slice A4 n4 c4) := k5
    obtain ⟨b, hb⟩ : ∃ b, decide (x1 = x3) = b := ⟨_, rfl⟩
    rw [hb]
    have hb := Lib.hid hb
    cases b with
    | false =>
      go_wp2
      go_ret
      exact ⟨ret_bool (by simp), bel_drewN hw0 m⟩
    | true =>
      go_wp2_with fail
      refine (sameDigits_any _ _ _ _ _ _ _ _ _ (g2.drewN m) (g4.drewN m)).mono ?_
      rintro e w3 ⟨m2, rfl, rfl⟩
      go_wp2
      go_ret
      exact ⟨ret_bool (by simp), bel_drewN hw0 (m + m2)⟩
  · have hne := Lib.hid hne
    go_wp2
    go_ret
    rw [hne.out]
    exact ⟨rfl, hw0⟩
theorem sameQ (v v' : Value) (q q' : Rat) (L L' : Nat) (w : World) (h : FQ w v q L) (h' : FQ w v' q' L') :
    Calls Tryz.prog 25 #[v, v'] w fun e w' => e = .returned (.bool (decide (q = q'))) ∧ Below w.heap.size w w' := by
  obtain ⟨_, _, rfl, ⟨A1, n1, c1, x1, rfl, h1, N1, v1, _⟩, ⟨A2, n2, c2, x2, rfl, h2, N2, v2, _⟩⟩ := h
  obtain ⟨_, _, rfl, ⟨A3, n3, c3, x3, rfl, h3, N3, v3, _⟩, ⟨A4, n4, c4, x4, rfl, h4, N4, v4, _⟩⟩ := h'
  refine (same_any _ _ _ _ _ _ _ _ _ _ _ _ _ _ _ _ _ _ w h1 h2 h3 h4).mono ?_
  rintro e w' ⟨rfl, hb⟩
  refine ⟨ret_bool ?_, hb⟩
  by_cases hq : q = q'
  · subst hq
    rw [decide_eq_true rfl, decide_eq_true (Nrm.unique one_lt_bs32 h1.ok h3.ok N1 N3 (v1.out.trans v3.out.symm)), decide_eq_true (Nrm.unique one_lt_bs32 h2.ok h4.ok N2 N4 (v2.out.trans v4.out.symm)), decide_eq_true rfl]
    rfl
  · rw [decide_eq_false hq]
    cases hs : (decide ((decide (q.num < 0)) = decide (q'.num < 0)) && decide (x1 = x3) && decide (x2 = x4)) with
    | false => rfl
    | true =>
      exfalso
      simp only [Bool.and_eq_true, decide_eq_true_eq] at hs
      obtain ⟨⟨hs1, hs2⟩, hs3⟩ := hs
      apply hq
      have hn : q.num.natAbs = q'.num.natAbs := by rw [← v1.out, ← v3.out, hs2]
      have hd0 : dw q.den = dw q'.den := by rw [← v2.out, ← v4.out, hs3]
      have hd : q.den = q'.den := by rw [← dn_dw q.den_pos, ← dn_dw q'.den_pos, hd0]
      rw [← fq_self q, ← fq_self q', hn, hd]
      congr 1
theorem sameT (v v' : Value) (q q' : Rat) (L L' : Nat) (w : World) (h : FQ w v q L) (h' : FQ w v' q' L') (hq : q = q') :
    Calls Tryz.prog 25 #[v, v'] w fun e w' => e = .returned (.bool true) ∧ Below w.heap.size w w' := by
  have := sameQ v v' q q' L L' w h h'
  rw [decide_eq_true hq] at this
  exact this

/-- a list of numbers with so many digits in each part -/
structure Sm (w : World) (A : Option Addr) (n c : Nat) (ls : List (Nat × Nat)) : Prop where
  len : ls.length = n
  cap : n ≤ c
  top : c ≤ 9223372036854775807
  cell : 0 < n → ∃ ad, A = some ad ∧ ∀ (j : Nat) (p : Nat × Nat), ls[j]? = some p → ∃ A1 c1 A2 c2, w.cell? ⟨(ad.add (j * 3)).block, (ad.add (j * 3)).off + 1, none⟩ = some (.slice A1 p.1 c1) ∧ w.cell? ⟨(ad.add (j * 3)).block, (ad.add (j * 3)).off + 2, none⟩ = some (.slice A2 p.2 c2)

def RetSm (ls : List (Nat × Nat)) (w : World) (e : Ending) (w' : World) : Prop := ∃ b, e = .returned (.bool b) ∧ (b = true ↔ ∀ p ∈ ls, p.1 ≤ 12 ∧ p.2 ≤ 12) ∧ w = w'
set_option maxHeartbeats 3200000 in
theorem smallL_any (A : Option Addr) (n c : Nat) (ls : List (Nat × Nat)) (w : World) (h : Sm w A n c ls) :
    Calls Tryz.prog 20 #[.slice A n c] w (RetSm ls w) := by
  have hc1 := h.cap
  have hc2 := h.top
  have hlen := Lib.hid h.len
  go_enter Tryz.func20, Tryz.ntmps20
  go_wp2
  go_loopw [3] (fun iv wr => ∃ k : Nat, iv = .int .i64 k ∧ k ≤ n ∧ Hid (∀ p ∈ ls.take k, p.1 ≤ 12 ∧ p.2 ≤ 12) ∧ w = wr) (fun iv _ => n - (intOf iv).toNat)
  case atStart => exact ⟨0, rfl, Nat.zero_le _, fun p hp => by simp at hp, rfl⟩
  case round =>
    obtain ⟨k, rfl, hkn, hall, rfl⟩ := hrel
    by_cases hlt : k < n
    · obtain ⟨ad, rfl, hcell⟩ := h.cell (by omega)
      have hkl : k < ls.length := by rw [hlen.out]; exact hlt
      obtain ⟨p, hp⟩ : ∃ p, ls[k]? = some p := ⟨_, List.getElem?_eq_getElem hkl⟩
      obtain ⟨A1, c1, A2, c2', k1, k2⟩ := hcell k p hp
      obtain ⟨N, D⟩ := p
      have k1 : w.cell? ⟨(ad.add (k * 3)).block, (ad.add (k * 3)).off + 1, none⟩ = some (.slice A1 N c1) := k1
      have k2 : w.cell? ⟨(ad.add (k * 3)).block, (ad.add (k * 3)).off + 2, none⟩ = some (.slice A2 D c2') := k2
      have hmem := Lib.hid (List.mem_of_getElem? hp)
      have htk := Lib.hid (show ls.take (k + 1) = ls.take k ++ [(N, D)] by rw [List.take_add_one, hp]; rfl)
      clear hcell hp hkl
      by_cases hN : 12 < N
      · have d1 : decide ((12 : Int) < (N : Int)) = true := decide_eq_true (by omega)
        have d2 := decide_eq_true hN
        go_wp2
        go_ret
        exact ⟨false, rfl, ⟨fun h => (by cases h), fun h => (by have := (h _ hmem.out).1; simp only at this; omega)⟩, rfl⟩
      · have d1 : decide ((12 : Int) < (N : Int)) = false := decide_eq_false (by omega)
        have d2 := decide_eq_false hN
        by_cases hD : 12 < D
        · have d3 : decide ((12 : Int) < (D : Int)) = true := decide_eq_true (by omega)
          have d4 := decide_eq_true hD
          go_wp2
          go_ret
          exact ⟨false, rfl, ⟨fun h => (by cases h), fun h => (by have := (h _ hmem.out).2; simp only at this; omega)⟩, rfl⟩
        · have d3 : decide ((12 : Int) < (D : Int)) = false := decide_eq_false (by omega)
          have d4 := decide_eq_false hD
          have hst := Lib.hid (show ∀ p ∈ ls.take (k + 1), p.1 ≤ 12 ∧ p.2 ≤ 12 from fun p hp => by
            rw [htk.out] at hp
            rcases List.mem_append.1 hp with hp | hp
            · exact hall.out p hp
            · simp at hp; subst hp; exact ⟨by simp only; omega, by simp only; omega⟩)
          go_wp2
          go_roundw
          case rel => exact ⟨k + 1, by go_num, hlt, hst, by trivial⟩
          case measure => simp [intOf]; omega
    · obtain rfl : k = n := by omega
      have hall' := hall.out
      rw [List.take_of_length_le (by rw [hlen.out]; exact Nat.le_refl _)] at hall'
      have hall' := Lib.hid hall'
      go_wp2
      go_ret
      exact ⟨true, rfl, ⟨fun _ => hall'.out, fun _ => rfl⟩, rfl⟩
end Go.Proofs.YtbgihlfblmilmaaGreatDoor.Fr

/- Short lists of numbers; arguments as numbers. -/
namespace Go.Proofs.YtbgihlfblmilmaaGreatDoor.Fr
open Go.RowKit Num

theorem Sm.lit1 {w : World} {g : Nat} {t : TypeId} {s : Bool} {A B : Option Addr} {n c m e : Nat} (hB : Blk w g t #[.bool s, .slice A n c, .slice B m e]) : Sm w (some ⟨g, 0, none⟩) 1 1 [(n, m)] :=
  ⟨rfl, Nat.le_refl _, by decide, fun _ => ⟨_, rfl, fun j p hp => by
    match j, hp with
    | 0, hp => simp at hp; subst hp; exact ⟨A, c, B, e, hB.cell 1, hB.cell 2⟩
    | (j + 1), hp => simp at hp⟩⟩
theorem Sm.lit2 {w : World} {g : Nat} {t : TypeId} {s s2 : Bool} {A B A2 B2 : Option Addr} {n c m e n2 c2 m2 e2 : Nat} (hB : Blk w g t #[.bool s, .slice A n c, .slice B m e, .bool s2, .slice A2 n2 c2, .slice B2 m2 e2]) : Sm w (some ⟨g, 0, none⟩) 2 2 [(n, m), (n2, m2)] :=
  ⟨rfl, Nat.le_refl _, by decide, fun _ => ⟨_, rfl, fun j p hp => by
    match j, hp with
    | 0, hp => simp at hp; subst hp; exact ⟨A, c, B, e, hB.cell 1, hB.cell 2⟩
    | 1, hp => simp at hp; subst hp; exact ⟨A2, c2, B2, e2, hB.cell 4, hB.cell 5⟩
    | (j + 2), hp => simp at hp⟩⟩
theorem AF.of {w : World} {s : Bool} {A B : Option Addr} {n c m e L : Nat} {xs ys : List Nat} (hx : Dg .u32 w A n c xs) (hy : Dg .u32 w B m e ys) (hn : n ≤ L) (hm : m ≤ L) : AF w (.agg #[.bool s, .slice A n c, .slice B m e]) (fq s (vl (bs .u32) xs) (dn (vl (bs .u32) ys))) L :=
  ⟨s, A, n, c, B, m, e, xs, ys, rfl, hx, hy, hn, hm, rfl⟩
theorem small1_of {n m : Nat} (h : ∀ p ∈ [(n, m)], p.1 ≤ 12 ∧ p.2 ≤ 12) : n ≤ 12 ∧ m ≤ 12 := h (n, m) (by simp)
theorem small2_of {n m n2 m2 : Nat} (h : ∀ p ∈ [(n, m), (n2, m2)], p.1 ≤ 12 ∧ p.2 ≤ 12) : (n ≤ 12 ∧ m ≤ 12) ∧ (n2 ≤ 12 ∧ m2 ≤ 12) := ⟨h (n, m) (by simp), h (n2, m2) (by simp)⟩
end Go.Proofs.YtbgihlfblmilmaaGreatDoor.Fr
