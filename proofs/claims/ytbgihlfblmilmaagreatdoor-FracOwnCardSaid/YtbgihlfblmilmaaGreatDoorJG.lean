/- A number without a sign, read from a string. -/
import Derived.Test.YtbgihlfblmilmaaGreatDoorHL
import Derived.Test.YtbgihlfblmilmaaGreatDoorJA
import Derived.Test.YtbgihlfblmilmaaGreatDoorGY
import Derived.Test.YtbgihlfblmilmaaGreatDoorGS
namespace Go.Proofs.YtbgihlfblmilmaaGreatDoor.Fr
open Go.RowKit Num

def dv (l : List UInt8) : Nat := if l.all dgt then dval l else 0
def okd (l : List UInt8) : Bool := l.all dgt && decide (0 < l.length)
/-- what parseSize says of a string: numerator, denominator, and whether it is a number -/
def psz (l : List UInt8) : Nat × Nat × Bool :=
  if (Lib.cut l [47]).2.2 then (dv (Lib.cut l [47]).1, dv (Lib.cut l [47]).2.1, okd (Lib.cut l [47]).1 && okd (Lib.cut l [47]).2.1)
  else if (Lib.cut l [46]).2.2 then (dv ((Lib.cut l [46]).1 ++ (Lib.cut l [46]).2.1), 10 ^ (Lib.cut l [46]).2.1.length, okd ((Lib.cut l [46]).1 ++ (Lib.cut l [46]).2.1) && decide (0 < (Lib.cut l [46]).1.length) && decide (0 < (Lib.cut l [46]).2.1.length))
  else (dv l, 1, okd l)
def RetPs (w : World) (l : List UInt8) (e : Ending) (w' : World) : Prop :=
  ∃ v1 v2 b, e = .returned (.tuple #[v1, v2, .bool b]) ∧ Hid (b = (psz l).2.2) ∧ NV .u64 w' v1 (psz l).1 20001 ∧ NV .u64 w' v2 (psz l).2.1 20001 ∧ Below w.heap.size w w'

theorem toList_isEmpty (l : List UInt8) : (⟨l.toArray⟩ : ByteArray).toList.isEmpty = decide (l.length = 0) := by
  rw [ByteArray.toList_eq]
  cases l with
  | nil => rfl
  | cons a l => rfl
theorem cat_bytes (l m : List UInt8) : (⟨l.toArray⟩ : ByteArray) ++ ⟨m.toArray⟩ = ⟨(l ++ m).toArray⟩ := by
  have : ((⟨l.toArray⟩ : ByteArray) ++ ⟨m.toArray⟩).data.toList = (l ++ m).toArray.toList := by simp
  generalize (⟨l.toArray⟩ : ByteArray) ++ ⟨m.toArray⟩ = S at *
  cases S
  congr 1
  exact Array.ext' this

theorem cut_len (l s : List UInt8) : (Lib.cut l s).1.length ≤ l.length ∧ (Lib.cut l s).2.1.length ≤ l.length := by
  unfold Lib.cut
  split
  · exact ⟨by rw [List.length_take]; omega, by rw [List.length_drop]; omega⟩
  · exact ⟨Nat.le_refl _, Nat.zero_le _⟩

set_option maxHeartbeats 6400000 in
set_option maxRecDepth 100000 in
theorem parseSize_any (l : List UInt8) (w : World) (hl : l.length ≤ 10000) (hG : Gl w) :
    Calls Tryz.prog 110 #[.string ⟨l.toArray⟩] w (RetPs w l) := by
  obtain ⟨ml, hml⟩ := hG.ml
  have hcut1 := Tryz.strings_Cut ⟨l.toArray⟩ ⟨#[47]⟩ ml w (by show l.length < _; omega) hml
  have hcut2 := fun n => Tryz.strings_Cut ⟨l.toArray⟩ ⟨#[46]⟩ ml (w.drewN n) (by show l.length < _; omega) hml
  rw [show (⟨l.toArray⟩ : ByteArray).data.toList = l from rfl, show (⟨#[47]⟩ : ByteArray).data.toList = [47] from rfl] at hcut1
  rw [show (⟨l.toArray⟩ : ByteArray).data.toList = l from rfl, show (⟨#[46]⟩ : ByteArray).data.toList = [46] from rfl] at hcut2
  have hcut1 := Lib.hid hcut1
  have hcut2 := Lib.hid hcut2
  obtain ⟨c1l, c2l⟩ := cut_len l [47]
  obtain ⟨c3l, c4l⟩ := cut_len l [46]
  obtain ⟨⟨top, bot, f1⟩, hc1⟩ : ∃ x, Lib.cut l [47] = x := ⟨_, rfl⟩
  obtain ⟨⟨fro, bac, f2⟩, hc2⟩ : ∃ x, Lib.cut l [46] = x := ⟨_, rfl⟩
  rw [hc1] at hcut1 c1l c2l
  rw [hc2] at hcut2 c3l c4l
  have c1l : top.length ≤ l.length := c1l
  have c2l : bot.length ≤ l.length := c2l
  have c3l : fro.length ≤ l.length := c3l
  have c4l : bac.length ≤ l.length := c4l
  have hps : Hid (psz l = if f1 = true then (dv top, dv bot, okd top && okd bot) else if f2 = true then (dv (fro ++ bac), 10 ^ bac.length, okd (fro ++ bac) && decide (0 < fro.length) && decide (0 < bac.length)) else (dv l, 1, okd l)) := by
    show _ = _
    unfold psz
    rw [hc1, hc2]
  clear hc1 hc2 hml
  cases f1 with
  | true =>
    have hpt := Lib.hid (hps.out.trans (if_pos rfl))
    clear hps
    go_enter Tryz.func110, Tryz.ntmps110
    go_wp2_with fail
    refine hcut1.out.mono ?_
    rintro e w1 ⟨rfl, n1, rfl⟩
    have hb1 := bel_drewN (Below.refl w.heap.size w) n1
    go_wp2_with fail
    refine (readDigits_any top _ (by omega)).mono ?_
    rintro e w2 ⟨v1, b1, rfl, hok1, hv1, hb2⟩
    go_wp2_with fail
    refine (readDigits_any bot _ (by omega)).mono ?_
    rintro e w3 ⟨v2, b2, rfl, hok2, hv2, hb3⟩
    have hb4 := (hb1.trans (hb2.mono hb1.size)).trans (hb3.mono (Nat.le_trans hb1.size hb2.size))
    have hv1 := hv1.below hb3
    cases b1 with
    | true =>
      go_wp2
      go_ret3
      refine ⟨v1, v2, _, rfl, ?_, ?_, ?_, hb4⟩
      · show _ = _
        rw [hpt.out]
        show _ = (okd top && okd bot)
        rw [show okd top = true from hok1.out.symm, show okd bot = b2 from hok2.out.symm]; rfl
      · rw [hpt.out]; exact hv1.le (by omega)
      · rw [hpt.out]; exact hv2.le (by omega)
    | false =>
      go_wp2
      go_ret3
      refine ⟨v1, v2, _, rfl, ?_, ?_, ?_, hb4⟩
      · show _ = _
        rw [hpt.out]
        show _ = (okd top && okd bot)
        rw [show okd top = false from hok1.out.symm]; rfl
      · rw [hpt.out]; exact hv1.le (by omega)
      · rw [hpt.out]; exact hv2.le (by omega)
  | false =>
    have hpt : Hid (psz l = if f2 = true then (dv (fro ++ bac), 10 ^ bac.length, okd (fro ++ bac) && decide (0 < fro.length) && decide (0 < bac.length)) else (dv l, 1, okd l)) := hps.out.trans (if_neg (by decide))
    clear hps
    cases f2 with
    | true =>
      have hps := Lib.hid (hpt.out.trans (if_pos rfl))
      clear hpt
      obtain ⟨F, hF⟩ : ∃ F : ByteArray, (⟨fro.toArray⟩ : ByteArray) = F := ⟨_, rfl⟩
      obtain ⟨B, hB⟩ : ∃ B : ByteArray, (⟨bac.toArray⟩ : ByteArray) = B := ⟨_, rfl⟩
      have hFe : F.toList.isEmpty = decide (fro.length = 0) := by rw [← hF]; exact toList_isEmpty _
      have hBe : B.toList.isEmpty = decide (bac.length = 0) := by rw [← hB]; exact toList_isEmpty _
      have hFs : F.size = fro.length := by rw [← hF]; rfl
      have hBs : B.size = bac.length := by rw [← hB]; rfl
      have hcat : Hid (F ++ B = ⟨(fro ++ bac).toArray⟩) := by show _ = _; rw [← hF, ← hB]; exact cat_bytes _ _
      rw [hF, hB] at hcut2
      obtain ⟨fe, hfe⟩ : ∃ fe, decide (fro.length = 0) = fe := ⟨_, rfl⟩
      obtain ⟨be, hbe⟩ : ∃ be, decide (bac.length = 0) = be := ⟨_, rfl⟩
      rw [hfe] at hFe
      rw [hbe] at hBe
      have hfe2 : Hid (decide (0 < fro.length) = !fe) := by show _ = _; rw [← hfe]; by_cases h0 : fro.length = 0 <;> simp [h0, Nat.pos_iff_ne_zero]
      have hbe2 : Hid (decide (0 < bac.length) = !be) := by show _ = _; rw [← hbe]; by_cases h0 : bac.length = 0 <;> simp [h0, Nat.pos_iff_ne_zero]
      rw [hfe2.out, hbe2.out] at hps
      obtain ⟨nb, hnb⟩ : ∃ nb, bac.length = nb := ⟨_, rfl⟩
      have hfbl : (fro ++ bac).length = fro.length + nb := by rw [List.length_append, hnb]
      rw [hnb] at hBs hps c4l
      have hfb := Lib.hid hfbl
      clear hF hB hfe hbe hnb hfbl
      obtain ⟨fb, hfbe⟩ : ∃ fb, fro ++ bac = fb := ⟨_, rfl⟩
      rw [hfbe] at hcat hps hfb
      clear hfbe
      go_enter Tryz.func110, Tryz.ntmps110
      go_wp2_with fail
      refine hcut1.out.mono ?_
      rintro e w1 ⟨rfl, n1, rfl⟩
      go_wp2_with fail
      refine (hcut2.out n1).mono ?_
      rintro e w2 ⟨rfl, n2, rfl⟩
      have hb1 := bel_drewN (Below.refl w.heap.size w) (n1 + n2)
      go_wp2_with fail
      rw [hcat.out]
      refine (readDigits_any fb _ (by have := hfb.out; omega)).mono ?_
      rintro e w3 ⟨v1, b1, rfl, hok1, hv1, hb3⟩
      have hb1' := hb1.trans (hb3.mono hb1.size)
      cases b1 with
      | true =>
        cases fe with
        | true =>
          go_wp2_with fail
          refine (tenToQ nb _ (by omega)).mono ?_
          rintro e w4 ⟨A4, m4, c4, us4, rfl, hD4, hN4, hv4, hm4, hb4⟩
          go_wp2
          go_ret3
          refine ⟨v1, _, _, rfl, ?_, ?_, ?_, hb1'.trans (hb4.mono hb1'.size)⟩
          · show _ = _
            rw [hps.out]
            show _ = (okd fb && !true && !be)
            rw [show okd fb = true from hok1.out.symm]
            first | rfl | (cases be <;> rfl) | (cases fe <;> cases be <;> rfl)
          · rw [hps.out]; exact (hv1.below hb4).le (by have := hfb.out; omega)
          · rw [hps.out]; exact NV.mk hD4 hN4 hv4 (by omega)
        | false =>
          go_wp2_with fail
          refine (tenToQ nb _ (by omega)).mono ?_
          rintro e w4 ⟨A4, m4, c4, us4, rfl, hD4, hN4, hv4, hm4, hb4⟩
          go_wp2
          go_ret3
          refine ⟨v1, _, _, rfl, ?_, ?_, ?_, hb1'.trans (hb4.mono hb1'.size)⟩
          · show _ = _
            rw [hps.out]
            show _ = (okd fb && !false && !be)
            rw [show okd fb = true from hok1.out.symm]
            first | rfl | (cases be <;> rfl) | (cases fe <;> cases be <;> rfl)
          · rw [hps.out]; exact (hv1.below hb4).le (by have := hfb.out; omega)
          · rw [hps.out]; exact NV.mk hD4 hN4 hv4 (by omega)
      | false =>
        go_wp2_with fail
        refine (tenToQ nb _ (by omega)).mono ?_
        rintro e w4 ⟨A4, m4, c4, us4, rfl, hD4, hN4, hv4, hm4, hb4⟩
        go_wp2
        go_ret3
        refine ⟨v1, _, _, rfl, ?_, ?_, ?_, hb1'.trans (hb4.mono hb1'.size)⟩
        · show _ = _
          rw [hps.out]
          show _ = (okd fb && !fe && !be)
          rw [show okd fb = false from hok1.out.symm]
          first | rfl | (cases be <;> rfl) | (cases fe <;> cases be <;> rfl)
        · rw [hps.out]; exact (hv1.below hb4).le (by have := hfb.out; omega)
        · rw [hps.out]; exact NV.mk hD4 hN4 hv4 (by omega)
    | false =>
      have hpz : Hid (psz l = (dv l, 1, okd l)) := hpt.out.trans (if_neg (by decide))
      clear hpt
      go_enter Tryz.func110, Tryz.ntmps110
      go_wp2_with fail
      refine hcut1.out.mono ?_
      rintro e w1 ⟨rfl, n1, rfl⟩
      go_wp2_with fail
      refine (hcut2.out n1).mono ?_
      rintro e w2 ⟨rfl, n2, rfl⟩
      have hb1 := bel_drewN (Below.refl w.heap.size w) (n1 + n2)
      go_wp2_with fail
      refine (readDigits_any l _ (by omega)).mono ?_
      rintro e w3 ⟨v1, b1, rfl, hok1, hv1, hb3⟩
      have hb3' := hb1.trans (hb3.mono hb1.size)
      have hbo := (Below.refl w3.heap.size w3).alloc (Nat.le_refl _) (.cells #[.int .u64 1] 82)
      have hone := Dg.lit_one64 w3 82
      have hv1 := hv1.below hbo
      go_wp2_with fail
      refine (one64_any _).mono ?_
      rintro e w4 ⟨rfl, rfl⟩
      go_wp2
      go_ret3
      refine ⟨v1, _, b1, rfl, ?_, ?_, ?_, hb3'.alloc hb3'.size _⟩
      · show _ = _
        rw [hpz.out]; exact hok1.out
      · rw [hpz.out]; exact hv1.le (by omega)
      · rw [hpz.out]; exact NV.mk hone nrm_lit1 (vl_lit1 _) (by decide)
end Go.Proofs.YtbgihlfblmilmaaGreatDoor.Fr

/- A number read from a string. -/
namespace Go.Proofs.YtbgihlfblmilmaaGreatDoor.Fr
open Go.RowKit Num

/-- the error of a string as a number -/
def pre (l : List UInt8) : Int :=
  if 10000 < l.length then 5 else if (psz (Lib.trimPrefix l [45])).2.2 = false then 4 else if (psz (Lib.trimPrefix l [45])).2.1 = 0 then 3 else 0
/-- the number of a string -/
def prq (l : List UInt8) : Rat := if pre l = 0 then fq (Lib.hasPrefix l [45]) (psz (Lib.trimPrefix l [45])).1 (psz (Lib.trimPrefix l [45])).2.1 else 0
theorem trim_len (l p : List UInt8) : (Lib.trimPrefix l p).length ≤ l.length := by
  unfold Lib.trimPrefix
  split
  · rw [List.length_drop]; omega
  · exact Nat.le_refl _

set_option maxHeartbeats 6400000 in
set_option maxRecDepth 100000 in
theorem ParseQ (l : List UInt8) (w : World) (hl : l.length ≤ 1000000000) (hG : Gl w) :
    Calls Tryz.prog 64 #[.string ⟨l.toArray⟩] w (RetFE w (prq l) 40002 (pre l)) := by
  have hsz : (⟨l.toArray⟩ : ByteArray).size = l.length := rfl
  have B := Blk.new w 24 #[.bool false, .slice none 0 0, .slice none 0 0]
  have hw0 := (Below.refl w.heap.size w).alloc (Nat.le_refl _) (.cells #[.bool false, .slice none 0 0, .slice none 0 0] 24)
  have hG1 := Lib.hid (hG.alloc (.cells #[.bool false, .slice none 0 0, .slice none 0 0] 24))
  have r0 := B.cell 0
  have r1 := B.cell 1
  have r2 := B.cell 2
  have f0 := B.frozen 0
  have f1 := B.frozen 1
  have f2 := B.frozen 2
  clear hG
  by_cases hlong : 10000 < l.length
  · have he := Lib.hid (show pre l = 5 by unfold pre; rw [if_pos hlong])
    have hq := Lib.hid (show prq l = 0 by unfold prq; rw [he.out, if_neg (by decide)])
    have d1 : decide ((10000 : Int) < (l.length : Int)) = true := decide_eq_true (by omega)
    clear hlong
    go_enter Tryz.func64, Tryz.ntmps64
    go_upto_region 1 with fail
    generalize w.alloc (.cells #[.bool false, .slice none 0 0, .slice none 0 0] 24) = w1 at *
    go_wp2
    rw [he.out, hq.out]
    exact ret_frac2 rfl rfl (((B.set_ 0 _).set_ 1 _).set_ 2 _) rfl ⟨_, rfl, (FQ.zero _).le (Nat.zero_le _), bel_set3 hw0 (by omega) _ _ _⟩
  · have d1 : decide ((10000 : Int) < (l.length : Int)) = false := decide_eq_false (by omega)
    have he := Lib.hid (show pre l = _ by unfold pre; rw [if_neg hlong])
    have hcp := Lib.hid (fun w => Tryz.strings_CutPrefix ⟨l.toArray⟩ ⟨#[45]⟩ w)
    have htl := trim_len l [45]
    obtain ⟨m, hm⟩ : ∃ m, Lib.trimPrefix l [45] = m := ⟨_, rfl⟩
    obtain ⟨ng, hng⟩ : ∃ b, Lib.hasPrefix l [45] = b := ⟨_, rfl⟩
    have hqq := Lib.hid (show prq l = if pre l = 0 then fq ng (psz m).1 (psz m).2.1 else 0 by unfold prq; rw [hng, hm])
    rw [hm] at he htl
    have hcp : Hid (∀ w, Calls Tryz.prog 109 #[.string ⟨l.toArray⟩, .string ⟨#[45]⟩] w fun e w' => e = .returned (.tuple #[.string ⟨m.toArray⟩, .bool ng]) ∧ w' = w) := by
      intro w
      have := hcp.out w
      rw [show (⟨l.toArray⟩ : ByteArray).data.toList = l from rfl, show (⟨#[45]⟩ : ByteArray).data.toList = [45] from rfl, hm, hng] at this
      exact this
    have hml : m.length ≤ 10000 := by omega
    clear hm hng htl hlong
    go_enter Tryz.func64, Tryz.ntmps64
    go_upto_region 1 with fail
    generalize w.alloc (.cells #[.bool false, .slice none 0 0, .slice none 0 0] 24) = w1 at *
    clear r0 r1 r2 f0 f1 f2
    go_wp2_with fail
    refine (hcp.out _).mono ?_
    rintro e w' ⟨rfl, rfl⟩
    go_wp2_with fail
    refine (parseSize_any m _ hml hG1.out).mono ?_
    rintro e w2 ⟨v1, v2, b, rfl, hb, hv1, hv2, hb2⟩
    obtain ⟨⟨n, d, ok⟩, hps⟩ : ∃ x, psz m = x := ⟨_, rfl⟩
    rw [hps] at hb hv1 hv2 he hqq
    have hb : Hid (b = ok) := hb
    have hv1 : NV .u64 w2 v1 n 20001 := hv1
    have hv2 : NV .u64 w2 v2 d 20001 := hv2
    have hqq : Hid (prq l = if pre l = 0 then fq ng n d else 0) := hqq
    have he : Hid (pre l = if ok = false then 4 else if d = 0 then 3 else 0) := he
    have hw2 := hw0.trans (hb2.mono hw0.size)
    have C := B.below hb2
    have r0 := C.cell 0
    have r1 := C.cell 1
    have r2 := C.cell 2
    have f0 := C.frozen 0
    have f1 := C.frozen 1
    have f2 := C.frozen 2
    clear hps hb2 B
    obtain ⟨A1, m1, c1, u1, rfl, hD1, hN1, hx1, hm1⟩ := hv1
    obtain ⟨A2, m2, c2, u2, rfl, hD2, hN2, hx2, hm2⟩ := hv2
    obtain rfl := hb.out
    cases b with
    | false =>
      have he2 := Lib.hid (show pre l = 4 by rw [he.out, if_pos rfl])
      have hq2 := Lib.hid (show prq l = 0 by rw [hqq.out, he2.out, if_neg (by decide)])
      clear he hqq
      go_wp2
      rw [he2.out, hq2.out]
      exact ret_frac2 rfl rfl (((C.set_ 0 _).set_ 1 _).set_ 2 _) rfl ⟨_, rfl, (FQ.zero _).le (Nat.zero_le _), bel_set3 hw2 (by omega) _ _ _⟩
    | true =>
      have hm0 := nv_pos hD2 hN2 (by decide) hx2
      by_cases hd0 : d = 0
      · have he2 := Lib.hid (show pre l = 3 by rw [he.out, if_neg (by decide), if_pos hd0])
        have hq2 := Lib.hid (show prq l = 0 by rw [hqq.out, he2.out, if_neg (by decide)])
        have hmz : m2 = 0 := by
          rw [hd0] at hm0
          have := of_decide_eq_false (hm0.trans (by decide))
          omega
        subst hmz
        clear he hqq hm0 hd0
        go_wp2
        rw [he2.out, hq2.out]
        exact ret_frac2 rfl rfl (((C.set_ 0 _).set_ 1 _).set_ 2 _) rfl ⟨_, rfl, (FQ.zero _).le (Nat.zero_le _), bel_set3 hw2 (by omega) _ _ _⟩
      · have he2 := Lib.hid (show pre l = 0 by rw [he.out, if_neg (by decide), if_neg hd0])
        have hq2 := Lib.hid (show prq l = fq ng n d by rw [hqq.out, he2.out, if_pos rfl])
        have hdp := Lib.hid (show 0 < d by omega)
        have hmz : ((m2 : Int) == 0) = false := by
          rw [decide_eq_true hdp.out] at hm0
          have := of_decide_eq_true hm0
          rw [beq_eq_false_iff_ne]; omega
        have hnp := Lib.hid (nv_pos hD1 hN1 (by decide) hx1)
        clear he hqq hm0 hd0
        go_wp2_with fail
        refine (signed_any ng A1 A2 m1 c1 m2 c2 _ (by omega)).mono ?_
        rintro e w3 ⟨rfl, hb3⟩
        have hRQ : RQ w3 (.agg #[.bool (ng && decide (0 < m1)), .slice A1 m1 c1, .slice A2 m2 c2]) (fq ng n d) 20001 :=
          ⟨_, n, d, ⟨_, _, rfl, NV.mk (hD1.below hb3) hN1 hx1 hm1, NV.mk (hD2.below hb3) hN2 hx2 hm2⟩, hdp.out, fun hs => by
            rw [Bool.and_eq_true, hnp.out] at hs; exact of_decide_eq_true hs.2, show _ = _ by rw [hnp.out, fq_sign]⟩
        go_wp2_with fail
        refine (storeQ _ _ 20001 _ hRQ (by decide)).mono ?_
        rintro e w4 ⟨_, rfl, hq4, hb4⟩
        obtain ⟨s4, A5, m5, c5, A6, m6, c6, rfl⟩ := hq4.form
        have C4 := (C.below hb3).below hb4
        have hw4 := (hw2.trans (hb3.mono hw2.size)).trans (hb4.mono (Nat.le_trans hw2.size hb3.size))
        have r0 := C4.cell 0
        have r1 := C4.cell 1
        have r2 := C4.cell 2
        have f0 := C4.frozen 0
        have f1 := C4.frozen 1
        have f2 := C4.frozen 2
        go_wp2
        rw [he2.out, hq2.out]
        exact ret_frac2 rfl rfl (((C4.set_ 0 _).set_ 1 _).set_ 2 _) rfl ⟨_, rfl, hq4.set3 C4 _ _ _, bel_set3 hw4 (by omega) _ _ _⟩
end Go.Proofs.YtbgihlfblmilmaaGreatDoor.Fr
