/- FracDecimals: numbers with decimal places. -/
import Derived.Test.YtbgihlfblmilmaaGreatDoorJK
import Derived.Test.YtbgihlfblmilmaaGreatDoorLG
import Derived.Test.YtbgihlfblmilmaaGreatDoorHC
import Derived.Deep.RegionHeld3
namespace Go.Proofs.YtbgihlfblmilmaaGreatDoor.Fr
open Go.RowKit Num

theorem refPowC (v1 : Value) (q1 : Rat) (n : Nat) (w : World) (h1 : AF w v1 q1 3) (hn : n ≤ 40) :
    Calls Tryz.prog 49 #[v1, .int .i64 (n : Int)] w (RetFQ w (q1 ^ n) 330) := by
  refine (refPowQ v1 q1 n 3 w h1 (by omega) (by omega)).mono ?_
  rintro e w' ⟨v, e1, h, hb⟩
  exact ⟨v, e1, h.le (by omega), hb⟩
theorem FQ.tight {w : World} {v : Value} {q : Rat} {L K : Nat} (h : FQ w v q L) (h1 : q.num.natAbs < bs .u32 ^ K) (h2 : q.den < bs .u32 ^ K) : FQ w v q K := by
  obtain ⟨v1, v2, e, n1, n2⟩ := h
  exact ⟨v1, v2, e, n1.tight h1, n2.tight (Nat.lt_of_le_of_lt (by unfold dw; split <;> omega) h2)⟩
theorem ten40 : (10 : Nat) ^ 40 < bs .u32 ^ 5 := by decide +kernel
theorem ten_le {p : Nat} (hp : p ≤ 40) : (10 : Nat) ^ p < bs .u32 ^ 5 := Nat.lt_of_le_of_lt (Nat.pow_le_pow_right (by decide) hp) ten40
theorem rdd_small {w : World} {v : Value} {q : Rat} (h : AF w v q 8) {p : Nat} (hp : p ≤ 40) : rdd q p < bs .u32 ^ 15 := by
  have h1 := h.small.1
  have h2 := ten_le hp
  unfold rdd
  have hd := q.den_pos
  have h3 : q.num.natAbs * 10 ^ p ≤ bs .u32 ^ 9 * bs .u32 ^ 5 := Nat.mul_le_mul (Nat.le_of_lt h1) (Nat.le_of_lt h2)
  rw [← Nat.pow_add] at h3
  generalize q.num.natAbs * 10 ^ p = m at *
  generalize q.den = d at *
  have h4 : (m + m + d) / (d + d) ≤ m + m + d := Nat.div_le_self _ _
  have h5 : (m + m + d) / (d + d) ≤ m + 1 := by
    apply Nat.le_of_lt_succ
    rw [Nat.div_lt_iff_lt_mul (by omega)]
    have : m * 1 ≤ m * d := Nat.mul_le_mul_left _ hd
    have e1 : (m + 1 + 1) * (d + d) = m * d + m * d + (d + d + d + d) := by rw [Nat.add_mul, Nat.add_mul, Nat.mul_add]; omega
    show m + m + d < (m + 1 + 1) * (d + d)
    omega
  have h6 : bs .u32 ^ (9 + 5) + 1 < bs .u32 ^ 15 := by decide +kernel
  omega
theorem dq_small {w : World} {v : Value} {q : Rat} (h : AF w v q 8) {p : Nat} (hp : p ≤ 40) : (dq q p).num.natAbs < bs .u32 ^ 20 ∧ (dq q p).den < bs .u32 ^ 20 := by
  have hT : 0 < 10 ^ p := Nat.pow_pos (by decide)
  unfold dq
  rw [fq_abs hT, fq_den hT]
  have m1 : bs .u32 ^ 15 < bs .u32 ^ 20 := by decide +kernel
  have m2 : bs .u32 ^ 5 < bs .u32 ^ 20 := by decide +kernel
  exact ⟨Nat.lt_of_le_of_lt (Nat.div_le_self _ _) (Nat.lt_trans (rdd_small h hp) m1), Nat.lt_of_le_of_lt (Nat.div_le_self _ _) (Nat.lt_trans (ten_le hp) m2)⟩
theorem dcm_len {w : World} {v : Value} {q : Rat} (h : AF w v q 8) {p : Nat} (hp : p ≤ 40) : (dcm q p).length ≤ 500 := by
  have h1 := dec_len32 (n := 14) (rdd_small h hp)
  have h2 : (dcz q p).length ≤ 200 := by unfold dcz; rw [List.length_append, List.length_replicate]; omega
  unfold dcm
  rw [List.length_append, List.length_append, List.length_take]
  have h3 : (if q.num < 0 ∧ 0 < rdd q p then [45] else [] : List UInt8).length ≤ 1 := by split <;> simp
  have h4 : (if 0 < p then 46 :: (dcz q p).drop ((dcz q p).length - p) else []).length ≤ 202 := by
    split
    · rw [List.length_cons, List.length_drop]; omega
    · simp
  omega
theorem ParseDecQ (q : Rat) (p : Nat) (w : World) (hl : (dcm q p).length ≤ 10000) (hG : Gl w) :
    Calls Tryz.prog 64 #[.string ⟨(dcm q p).toArray⟩] w (RetFE w (dq q p) 40002 0) := by
  have h := ParseQ (dcm q p) w (by omega) hG
  rw [(dcm_read q p hl).1, (dcm_read q p hl).2] at h
  exact h
theorem Dg.setb {k : IntKind} {w : World} {A : Option Addr} {m c : Nat} {us : List Nat} (hD : Dg k w A m c us) {g : Nat} {t : TypeId} {cs : Array Value} (hB : Blk w g t cs) (hc : Noi cs) (i : Nat) (u : Value) : Dg k (w.setCell ⟨g, i, none⟩ u) A m c us := by
  refine hD.farp (fun hp ad he hg => ?_) i u
  obtain ⟨ad', y, e2, hcy, _⟩ := hD.at_ hp
  rw [he] at e2
  injection e2 with e2
  subst e2
  rw [show ad.add 0 = ad from rfl] at hcy
  unfold Blk at hB
  rw [← hg] at hB
  simp only [World.cell?, hB] at hcy
  split at hcy
  · cases hcy
  · exact hc _ _ hcy _ _ rfl
theorem AF.setb1 {w : World} {v : Value} {q : Rat} {L g : Nat} {t : TypeId} {cs : Array Value} (h : AF w v q L) (hB : Blk w g t cs) (hc : Noi cs) (i : Nat) (u : Value) : AF (w.setCell ⟨g, i, none⟩ u) v q L := by
  obtain ⟨s, A, n, c, A', n', c', xs, ys, e, h1, h2, h3⟩ := h
  exact ⟨s, A, n, c, A', n', c', xs, ys, e, h1.setb hB hc i u, h2.setb hB hc i u, h3⟩

set_option linter.unusedSimpArgs false in
set_option maxHeartbeats 25600000 in
set_option maxRecDepth 100000 in
theorem decimals_law (sa : Bool) (Aa : Option Addr) (na ca : Nat) (Ba : Option Addr) (ma ea : Nat) (xa ya : List Nat) (n : Int) (w : World) (hxa : Dg .u32 w Aa na ca xa) (hya : Dg .u32 w Ba ma ea ya) (_hn : -9223372036854775808 ≤ n ∧ n ≤ 9223372036854775807) (hG : Gl w) :
    Calls Tryz.prog 17 #[.agg #[.bool sa, .slice Aa na ca, .slice Ba ma ea], .int .i64 n] w fun e w' => e = .returned (.bool true) ∧ Below w.heap.size w w' := by
  have hG := Lib.hid hG
  have Xa := Blk.new w 24 #[.bool sa, .slice Aa na ca, .slice Ba ma ea]
  have hw := ((Below.refl w.heap.size w).alloc (Nat.le_refl _) (.cells #[.bool sa, .slice Aa na ca, .slice Ba ma ea] 24))
  have hxa := hxa.below hw
  have hya := hya.below hw
  go_enter Tryz.func17, Tryz.ntmps17
  go_upto_region 1 with fail
  generalize (w.alloc (.cells #[.bool sa, .slice Aa na ca, .slice Ba ma ea] 24)) = w1 at *
  have hcase : (40 < n ∧ n ≤ 1000) ∨ (1000 < n) ∨ (n < 0) ∨ (0 ≤ n ∧ n ≤ 40) := by omega
  have ka0 : w1.cell? ⟨w.heap.size, 0, none⟩ = some (.bool sa) := Xa.cell 0
  have ka1 : w1.cell? ⟨w.heap.size, 1, none⟩ = some (.slice Aa na ca) := Xa.cell 1
  have ka2 : w1.cell? ⟨w.heap.size, 2, none⟩ = some (.slice Ba ma ea) := Xa.cell 2
  by_cases hl_na : 8 < na
  · have f1 : decide ((8 : Int) < (na : Int)) = true := decide_eq_true (by omega)
    have f2 := decide_eq_true hl_na
    go_wp2_with fail
    refine (known_true _ (hG.out.below hw)).mono ?_
    rintro e v1 ⟨rfl, hc1⟩
    go_wp2
    go_ret
    exact ⟨rfl, hw.trans (hc1.mono hw.size)⟩
  have g1_na : decide ((8 : Int) < (na : Int)) = false := decide_eq_false (by omega)
  have g2_na := decide_eq_false hl_na
  by_cases hl_ma : 8 < ma
  · have f1 : decide ((8 : Int) < (ma : Int)) = true := decide_eq_true (by omega)
    have f2 := decide_eq_true hl_ma
    go_wp2_with fail
    refine (known_true _ (hG.out.below hw)).mono ?_
    rintro e v1 ⟨rfl, hc1⟩
    go_wp2
    go_ret
    exact ⟨rfl, hw.trans (hc1.mono hw.size)⟩
  have g1_ma : decide ((8 : Int) < (ma : Int)) = false := decide_eq_false (by omega)
  have g2_ma := decide_eq_false hl_ma
  obtain ⟨qa, ha⟩ : ∃ q, AF w1 (.agg #[.bool sa, .slice Aa na ca, .slice Ba ma ea]) q 8 := ⟨_, AF.of hxa hya (by omega) (by omega)⟩
  have hB := Below.refl w1.heap.size w1
  clear hxa
  clear hya
  rcases hcase with hk | hbig | hneg | hin
  · have f1 : decide ((40 : Int) < n) = true := decide_eq_true (by omega)
    have f2 : decide (n ≤ 1000) = true := decide_eq_true (by omega)
    clear hk
    go_wp2_with fail
    refine (known_true _ (hG.out.below hw)).mono ?_
    rintro e v1 ⟨rfl, hc1⟩
    go_wp2
    go_ret
    exact ⟨rfl, hw.trans (hc1.mono hw.size)⟩
  · have f1 : decide ((40 : Int) < n) = true := decide_eq_true (by omega)
    have f2 : decide (n ≤ 1000) = false := decide_eq_false (by omega)
    have f3 : decide (n < 0) = false := decide_eq_false (by omega)
    have f4 : decide (1000 < n) = true := decide_eq_true (by omega)
    have hz := Lib.hid (show n < 0 ∨ 1000 < n from .inr hbig)
    clear hbig
    go_wp2_with fail
    clear ka0 ka1 ka2 hl_na g1_na g2_na hl_ma g1_ma g2_ma
    refine (DecimalBadQ _ qa n 8 _ ha hz.out).mono ?_
    rintro e v1 ⟨rfl, hc1⟩
    have hw := hw.trans (hc1.mono hw.size)
    have hB := Below.refl v1.heap.size v1
    have ha := ha.below hc1
    have Xa := Xa.below hc1
    go_wp2_with fail
    refine (known_true _ (hG.out.below hw)).mono ?_
    rintro e v2 ⟨rfl, hc2⟩
    have hw := hw.trans (hc2.mono hw.size)
    have hB := Below.refl v2.heap.size v2
    have ha := ha.below hc2
    have Xa := Xa.below hc2
    go_wp2
    go_ret
    exact ⟨rfl, hw⟩
  · have f1 : decide ((40 : Int) < n) = false := decide_eq_false (by omega)
    have f3 : decide (n < 0) = true := decide_eq_true (by omega)
    have hz := Lib.hid (show n < 0 ∨ 1000 < n from .inl hneg)
    clear hneg
    go_wp2_with fail
    clear ka0 ka1 ka2 hl_na g1_na g2_na hl_ma g1_ma g2_ma
    refine (DecimalBadQ _ qa n 8 _ ha hz.out).mono ?_
    rintro e v1 ⟨rfl, hc1⟩
    have hw := hw.trans (hc1.mono hw.size)
    have hB := Below.refl v1.heap.size v1
    have ha := ha.below hc1
    have Xa := Xa.below hc1
    go_wp2_with fail
    refine (known_true _ (hG.out.below hw)).mono ?_
    rintro e v2 ⟨rfl, hc2⟩
    have hw := hw.trans (hc2.mono hw.size)
    have hB := Below.refl v2.heap.size v2
    have ha := ha.below hc2
    have Xa := Xa.below hc2
    go_wp2
    go_ret
    exact ⟨rfl, hw⟩
  · obtain ⟨p, rfl⟩ : ∃ p : Nat, n = (p : Int) := ⟨n.toNat, by omega⟩
    have f1 : decide ((40 : Int) < (p : Int)) = false := decide_eq_false (by omega)
    have f3 : decide ((p : Int) < 0) = false := decide_eq_false (by omega)
    have f4 : decide (1000 < (p : Int)) = false := decide_eq_false (by omega)
    have hp40 : p ≤ 40 := by omega
    have hp := Lib.hid hp40
    clear hin
    have hsm := Lib.hid (dq_small ha hp40)
    have hln0 := dcm_len ha hp40
    have hPt := Lib.hid (fun (W : World) (hg : Gl W) => ParseDecQ qa p W (by omega) hg)
    clear hp40 hln0
    obtain ⟨tx, htx0⟩ : ∃ t, dcm qa p = t := ⟨_, rfl⟩
    rw [htx0] at hPt
    have htx := Lib.hid htx0
    clear htx0
    have hnr := Lib.hid (cq_le (dq_near qa p))
    obtain ⟨b, hb0⟩ : ∃ b, dq qa p = b := ⟨_, rfl⟩
    rw [hb0] at hsm hPt hnr
    clear hb0
    obtain ⟨y, hy0⟩ : ∃ y, fq false (qa + -b).num.natAbs (qa + -b).den = y := ⟨_, rfl⟩
    rw [hy0] at hnr
    have hy := Lib.hid hy0
    clear hy0
    obtain ⟨cz, hcz0⟩ : ∃ z, cq (y * (((2 : Int) : Rat) * ((10 : Int) : Rat) ^ p)) ((1 : Int) : Rat) = z := ⟨_, rfl⟩
    have hczd : decide (cz ≤ 0) = true := decide_eq_true (by rw [← hcz0]; exact hnr.out)
    have hcz := Lib.hid hcz0
    clear hcz0 hnr
    go_wp2_with fail
    clear ka0 ka1 ka2 hl_na g1_na g2_na hl_ma g1_ma g2_ma
    refine (DecimalQ _ qa p 8 _ ha (by decide) (by have := hp.out; omega) (hG.out.below hw)).mono ?_
    rintro e v1 ⟨rfl, hc1⟩
    rw [htx.out]
    have hw := hw.trans (hc1.mono hw.size)
    have hB := Below.refl v1.heap.size v1
    have ha := ha.below hc1
    have Xa := Xa.below hc1
    go_wp2_with fail
    refine (hPt.out _ (hG.out.below hw)).mono ?_
    rintro e v2 ⟨_, rfl, q2, hc2⟩
    have hw := hw.trans (hc2.mono hw.size)
    have hB := Below.refl v2.heap.size v2
    have ha := ha.below hc2
    have Xa := Xa.below hc2
    clear hPt
    have q2 := q2.tight hsm.out.1 hsm.out.2
    clear hsm
    have q2 := q2.le (show _ ≤ 20 by decide)
    obtain ⟨s2, A2, m2, c2, B2, n2, d2, rfl⟩ := q2.form
    have hab := (Below.refl v2.heap.size v2).alloc (Nat.le_refl _) (.cells #[.bool s2, .slice A2 m2 c2, .slice B2 n2 d2] 24)
    have Xb := Blk.new v2 24 #[.bool s2, .slice A2 m2 c2, .slice B2 n2 d2]
    have hw := hw.alloc hw.size (.cells #[.bool s2, .slice A2 m2 c2, .slice B2 n2 d2] 24)
    have ha := ha.below hab
    have q2 := q2.below hab
    have Xa := Xa.below hab
    clear hab
    go_upto_region 7 with fail
    generalize v2.heap.size = gb at *
    generalize v2.alloc (.cells #[.bool s2, .slice A2 m2 c2, .slice B2 n2 d2] 24) = ub at *
    have ka0 : ub.cell? ⟨w.heap.size, 0, none⟩ = some (.bool sa) := Xa.cell 0
    have ka1 : ub.cell? ⟨w.heap.size, 1, none⟩ = some (.slice Aa na ca) := Xa.cell 1
    have ka2 : ub.cell? ⟨w.heap.size, 2, none⟩ = some (.slice Ba ma ea) := Xa.cell 2
    have kb0 : ub.cell? ⟨gb, 0, none⟩ = some (.bool s2) := Xb.cell 0
    have kb1 : ub.cell? ⟨gb, 1, none⟩ = some (.slice A2 m2 c2) := Xb.cell 1
    have kb2 : ub.cell? ⟨gb, 2, none⟩ = some (.slice B2 n2 d2) := Xb.cell 2
    go_wp2_with fail
    clear ka0 ka1 ka2 kb0 kb1 kb2
    refine (refSubQ _ _ qa b 8 20 _ ha q2.af (by decide)).mono ?_
    rintro e v3 ⟨_, rfl, q3, hc3⟩
    have hw := hw.trans (hc3.mono hw.size)
    have hB := Below.refl v3.heap.size v3
    have ha := ha.below hc3
    have q2 := q2.below hc3
    have Xa := Xa.below hc3
    have Xb := Xb.below hc3
    have q3 := q3.le (show _ ≤ 32 by decide)
    obtain ⟨s3, A3, m3, c3, B3, n3, d3, rfl⟩ := q3.form
    have hgne_a : w.heap.size ≠ v3.heap.size := Nat.ne_of_lt Xa.lt
    have hgne_b : gb ≠ v3.heap.size := Nat.ne_of_lt Xb.lt
    have hgle : w.heap.size ≤ v3.heap.size := hw.size
    have haf := (Below.refl v3.heap.size v3).alloc (Nat.le_refl _) (.cells #[.bool s3, .slice A3 m3 c3, .slice B3 n3 d3] 24)
    have Xf := Blk.new v3 24 #[.bool s3, .slice A3 m3 c3, .slice B3 n3 d3]
    have hw := hw.alloc hw.size (.cells #[.bool s3, .slice A3 m3 c3, .slice B3 n3 d3] 24)
    have ha := ha.below haf
    have q2 := q2.below haf
    have q3 := q3.below haf
    have Xa := Xa.below haf
    have Xb := Xb.below haf
    clear haf
    go_upto_region 8 with fail
    generalize v3.heap.size = gf at *
    generalize v3.alloc (.cells #[.bool s3, .slice A3 m3 c3, .slice B3 n3 d3] 24) = uf at *
    have kf0 := Xf.cell 0
    have ff0 := Xf.frozen 0
    have q2 := q2.setb Xf (noi3 _ _ _ _ _ _ _) 0 (.bool false)
    have q3 := q3.setb Xf (noi3 _ _ _ _ _ _ _) 0 (.bool false)
    have ha := ha.setb1 Xf (noi3 _ _ _ _ _ _ _) 0 (.bool false)
    have hne1 : w.heap.size ≠ gf := hgne_a
    have hne2 : gb ≠ gf := hgne_b
    have Xa := Xa.far (p := ⟨gf, 0, none⟩) hne1 (.bool false)
    have Xb := Xb.far (p := ⟨gf, 0, none⟩) hne2 (.bool false)
    have hw := hw.setCell (p := ⟨gf, 0, none⟩) hgle (.bool false)
    have Xf : Blk (uf.setCell ⟨gf, 0, none⟩ (.bool false)) gf 24 #[.bool false, .slice A3 m3 c3, .slice B3 n3 d3] := Xf.set_ 0 (.bool false)
    go_upto_region 9 with fail
    clear kf0 ff0 hne1 hne2
    generalize uf.setCell ⟨gf, 0, none⟩ (.bool false) = wy at *
    have hfar := q3.abs
    rw [hy.out] at hfar
    have ka_0 : wy.cell? ⟨w.heap.size, 0, none⟩ = some (.bool sa) := Xa.cell 0
    have ka_1 : wy.cell? ⟨w.heap.size, 1, none⟩ = some (.slice Aa na ca) := Xa.cell 1
    have ka_2 : wy.cell? ⟨w.heap.size, 2, none⟩ = some (.slice Ba ma ea) := Xa.cell 2
    have kb_0 : wy.cell? ⟨gb, 0, none⟩ = some (.bool s2) := Xb.cell 0
    have kb_1 : wy.cell? ⟨gb, 1, none⟩ = some (.slice A2 m2 c2) := Xb.cell 1
    have kb_2 : wy.cell? ⟨gb, 2, none⟩ = some (.slice B2 n2 d2) := Xb.cell 2
    have kf_0 : wy.cell? ⟨gf, 0, none⟩ = some (.bool false) := Xf.cell 0
    have kf_1 : wy.cell? ⟨gf, 1, none⟩ = some (.slice A3 m3 c3) := Xf.cell 1
    have kf_2 : wy.cell? ⟨gf, 2, none⟩ = some (.slice B3 n3 d3) := Xf.cell 2
    have hKeep := Lib.hid (fun (wx : World) (hb : Below wy.heap.size wy wx) => (⟨(hb.cell (World.block_lt_of_cell? _ _ ka_0)).trans ka_0, (hb.cell (World.block_lt_of_cell? _ _ ka_1)).trans ka_1, (hb.cell (World.block_lt_of_cell? _ _ ka_2)).trans ka_2, (hb.cell (World.block_lt_of_cell? _ _ kb_0)).trans kb_0, (hb.cell (World.block_lt_of_cell? _ _ kb_1)).trans kb_1, (hb.cell (World.block_lt_of_cell? _ _ kb_2)).trans kb_2, (hb.cell (World.block_lt_of_cell? _ _ kf_0)).trans kf_0, (hb.cell (World.block_lt_of_cell? _ _ kf_1)).trans kf_1, (hb.cell (World.block_lt_of_cell? _ _ kf_2)).trans kf_2⟩ : wx.cell? ⟨w.heap.size, 0, none⟩ = some (.bool sa) ∧ wx.cell? ⟨w.heap.size, 1, none⟩ = some (.slice Aa na ca) ∧ wx.cell? ⟨w.heap.size, 2, none⟩ = some (.slice Ba ma ea) ∧ wx.cell? ⟨gb, 0, none⟩ = some (.bool s2) ∧ wx.cell? ⟨gb, 1, none⟩ = some (.slice A2 m2 c2) ∧ wx.cell? ⟨gb, 2, none⟩ = some (.slice B2 n2 d2) ∧ wx.cell? ⟨gf, 0, none⟩ = some (.bool false) ∧ wx.cell? ⟨gf, 1, none⟩ = some (.slice A3 m3 c3) ∧ wx.cell? ⟨gf, 2, none⟩ = some (.slice B3 n3 d3)))
    clear ka_0 ka_1 ka_2 kb_0 kb_1 kb_2 kf_0 kf_1 kf_2
    have hB := bel_drewN (Below.refl wy.heap.size wy) 1
    have ha := ha.below hB
    have q2 := q2.below hB
    have q3 := q3.below hB
    have hfar := hfar.below hB
    refine wp_region_held_drew (S := (fun wx => wx.cell? ⟨w.heap.size, 0, none⟩ = some (.bool sa) ∧ wx.cell? ⟨w.heap.size, 1, none⟩ = some (.slice Aa na ca) ∧ wx.cell? ⟨w.heap.size, 2, none⟩ = some (.slice Ba ma ea) ∧ wx.cell? ⟨gb, 0, none⟩ = some (.bool s2) ∧ wx.cell? ⟨gb, 1, none⟩ = some (.slice A2 m2 c2) ∧ wx.cell? ⟨gb, 2, none⟩ = some (.slice B2 n2 d2) ∧ wx.cell? ⟨gf, 0, none⟩ = some (.bool false) ∧ wx.cell? ⟨gf, 1, none⟩ = some (.slice A3 m3 c3) ∧ wx.cell? ⟨gf, 2, none⟩ = some (.slice B3 n3 d3))) (by kernel_rfl) (hKeep.out _ hB) (fun hHeld => ?_)
    refine wpAnyH_take (i := 0) (v := .int .i64 0) rfl (by kernel_rfl) (by kernel_rfl) (by kernel_rfl) (fun _ _ _ h => h) (Or.inl ⟨by kernel_rfl, by (intro w hSw; (try dsimp only at hSw); go_simp)⟩) hHeld ?_
    try simp only [Act.put, List.getElem_toArray, List.getElem_cons_succ, List.getElem_cons_zero, List.setIfInBounds_toArray, List.set_cons_zero, List.set_cons_succ]
    refine wpAnyH_take (i := 1) (v := .bool true) rfl (by kernel_rfl) (by kernel_rfl) (by kernel_rfl) (fun _ _ _ h => h) (Or.inl ⟨by kernel_rfl, by (intro w hSw; (try dsimp only at hSw); go_simp)⟩) hHeld ?_
    try simp only [Act.put, List.getElem_toArray, List.getElem_cons_succ, List.getElem_cons_zero, List.setIfInBounds_toArray, List.set_cons_zero, List.set_cons_succ]
    refine wpAnyH_take (i := 2) (v := .bool true) rfl (by kernel_rfl) (by kernel_rfl) (by kernel_rfl) (fun _ _ _ h => h) (Or.inl ⟨by kernel_rfl, by (intro w hSw; (try dsimp only at hSw); go_simp)⟩) hHeld ?_
    try simp only [Act.put, List.getElem_toArray, List.getElem_cons_succ, List.getElem_cons_zero, List.setIfInBounds_toArray, List.set_cons_zero, List.set_cons_succ]
    refine wpAnyH_take (i := 3) (v := .string ⟨tx.toArray⟩) rfl (by kernel_rfl) (by kernel_rfl) (by kernel_rfl) (fun _ _ _ h => h) (Or.inl ⟨by kernel_rfl, by (intro w hSw; (try dsimp only at hSw); go_simp)⟩) hHeld ?_
    try simp only [Act.put, List.getElem_toArray, List.getElem_cons_succ, List.getElem_cons_zero, List.setIfInBounds_toArray, List.set_cons_zero, List.set_cons_succ]
    refine wpAnyH_take (i := 4) (v := .agg #[.bool sa, .slice Aa na ca, .slice Ba ma ea]) rfl (by kernel_rfl) (by kernel_rfl) (by kernel_rfl) (fun _ _ _ h => h) (Or.inl ⟨by kernel_rfl, by (intro w hSw; (try dsimp only at hSw); go_simp)⟩) hHeld ?_
    try simp only [Act.put, List.getElem_toArray, List.getElem_cons_succ, List.getElem_cons_zero, List.setIfInBounds_toArray, List.set_cons_zero, List.set_cons_succ]
    refine wpAnyH_take (i := 5) (v := .int .i64 (p : Int)) rfl (by kernel_rfl) (by kernel_rfl) (by kernel_rfl) (fun _ _ _ h => h) (Or.inl ⟨by kernel_rfl, by (intro w hSw; (try dsimp only at hSw); go_simp)⟩) hHeld ?_
    try simp only [Act.put, List.getElem_toArray, List.getElem_cons_succ, List.getElem_cons_zero, List.setIfInBounds_toArray, List.set_cons_zero, List.set_cons_succ]
    refine wpAnyH_ready (rs := [6]) (by kernel_rfl) (by simp) ?_
    refine AllReadyH.cons rfl (fun K hK => ?_) AllReadyH.nil
    go_simp
    refine (refDecimalQ _ qa p 8 _ ha (by decide) (by have := hp.out; omega)).mono ?_
    rintro e v4 ⟨rfl, hc4⟩
    rw [htx.out]
    have hB := hB.trans (hc4.mono hB.size)
    have ha := ha.below hc4
    have q2 := q2.below hc4
    have q3 := q3.below hc4
    have hfar := hfar.below hc4
    go_wp2_with fail
    refine hK.out _ _ ?_ (fun hHeld => ?_)
    · exact hKeep.out _ hB
    clear hK K
    try simp only [Act.put, List.getElem_toArray, List.getElem_cons_succ, List.getElem_cons_zero, List.setIfInBounds_toArray, List.set_cons_zero, List.set_cons_succ]
    refine wpAnyH_take (i := 7) (v := .bool true) rfl (by kernel_rfl) (by kernel_rfl) (by kernel_rfl) (fun _ _ _ h => h) (Or.inl ⟨by kernel_rfl, by (intro w hSw; (try dsimp only at hSw); go_simp)⟩) hHeld ?_
    try simp only [Act.put, List.getElem_toArray, List.getElem_cons_succ, List.getElem_cons_zero, List.setIfInBounds_toArray, List.set_cons_zero, List.set_cons_succ]
    refine wpAnyH_take (i := 8) (v := .bool true) rfl (by kernel_rfl) (by kernel_rfl) (by kernel_rfl) (fun _ _ _ h => h) (Or.inl ⟨by kernel_rfl, by (intro w hSw; (try dsimp only at hSw); go_simp)⟩) hHeld ?_
    try simp only [Act.put, List.getElem_toArray, List.getElem_cons_succ, List.getElem_cons_zero, List.setIfInBounds_toArray, List.set_cons_zero, List.set_cons_succ]
    refine wpAnyH_take (i := 9) (v := .bool true) rfl (by kernel_rfl) (by kernel_rfl) (by kernel_rfl) (fun _ _ _ h => h) (Or.inl ⟨by kernel_rfl, by (intro w hSw; (try dsimp only at hSw); go_simp)⟩) hHeld ?_
    try simp only [Act.put, List.getElem_toArray, List.getElem_cons_succ, List.getElem_cons_zero, List.setIfInBounds_toArray, List.set_cons_zero, List.set_cons_succ]
    refine wpAnyH_take (i := 10) (v := .int .i64 0) rfl (by kernel_rfl) (by kernel_rfl) (by kernel_rfl) (fun _ _ _ h => h) (Or.inl ⟨by kernel_rfl, by (intro w hSw; (try dsimp only at hSw); go_simp)⟩) hHeld ?_
    try simp only [Act.put, List.getElem_toArray, List.getElem_cons_succ, List.getElem_cons_zero, List.setIfInBounds_toArray, List.set_cons_zero, List.set_cons_succ]
    refine wpAnyH_take (i := 11) (v := .bool true) rfl (by kernel_rfl) (by kernel_rfl) (by kernel_rfl) (fun _ _ _ h => h) (Or.inl ⟨by kernel_rfl, by (intro w hSw; (try dsimp only at hSw); go_simp)⟩) hHeld ?_
    try simp only [Act.put, List.getElem_toArray, List.getElem_cons_succ, List.getElem_cons_zero, List.setIfInBounds_toArray, List.set_cons_zero, List.set_cons_succ]
    refine wpAnyH_take (i := 12) (v := .bool true) rfl (by kernel_rfl) (by kernel_rfl) (by kernel_rfl) (fun _ _ _ h => h) (Or.inl ⟨by kernel_rfl, by (intro w hSw; (try dsimp only at hSw); go_simp)⟩) hHeld ?_
    try simp only [Act.put, List.getElem_toArray, List.getElem_cons_succ, List.getElem_cons_zero, List.setIfInBounds_toArray, List.set_cons_zero, List.set_cons_succ]
    refine wpAnyH_take (i := 13) (v := .bool true) rfl (by kernel_rfl) (by kernel_rfl) (by kernel_rfl) (fun _ _ _ h => h) (Or.inl ⟨by kernel_rfl, by (intro w hSw; (try dsimp only at hSw); go_simp)⟩) hHeld ?_
    try simp only [Act.put, List.getElem_toArray, List.getElem_cons_succ, List.getElem_cons_zero, List.setIfInBounds_toArray, List.set_cons_zero, List.set_cons_succ]
    refine wpAnyH_take (i := 14) (v := .agg #[.bool false, .slice A3 m3 c3, .slice B3 n3 d3]) rfl (by kernel_rfl) (by kernel_rfl) (by kernel_rfl) (fun _ _ _ h => h) (Or.inl ⟨by kernel_rfl, by (intro w hSw; (try dsimp only at hSw); go_simp)⟩) hHeld ?_
    try simp only [Act.put, List.getElem_toArray, List.getElem_cons_succ, List.getElem_cons_zero, List.setIfInBounds_toArray, List.set_cons_zero, List.set_cons_succ]
    refine wpAnyH_take (i := 17) (v := .int .i64 (p : Int)) rfl (by kernel_rfl) (by kernel_rfl) (by kernel_rfl) (fun _ _ _ h => h) (Or.inl ⟨by kernel_rfl, by (intro w hSw; (try dsimp only at hSw); go_simp)⟩) hHeld ?_
    try simp only [Act.put, List.getElem_toArray, List.getElem_cons_succ, List.getElem_cons_zero, List.setIfInBounds_toArray, List.set_cons_zero, List.set_cons_succ]
    refine wpAnyH_ready (rs := [15]) (by kernel_rfl) (by simp) ?_
    refine AllReadyH.cons rfl (fun K hK => ?_) AllReadyH.nil
    go_simp
    refine (refOfQ _ _ (by decide)).mono ?_
    rintro e v5 ⟨_, rfl, q5, hc5⟩
    have q5 := q5.le (show _ ≤ 3 by decide)
    obtain ⟨s5, A5, m5, c5, B5, n5, d5, rfl⟩ := q5.form
    have hB := hB.trans (hc5.mono hB.size)
    have ha := ha.below hc5
    have q2 := q2.below hc5
    have q3 := q3.below hc5
    have hfar := hfar.below hc5
    go_wp2_with fail
    refine hK.out _ _ ?_ (fun hHeld => ?_)
    · exact hKeep.out _ hB
    clear hK K
    try simp only [Act.put, List.getElem_toArray, List.getElem_cons_succ, List.getElem_cons_zero, List.setIfInBounds_toArray, List.set_cons_zero, List.set_cons_succ]
    refine wpAnyH_ready (rs := [16]) (by kernel_rfl) (by simp) ?_
    refine AllReadyH.cons rfl (fun K hK => ?_) AllReadyH.nil
    go_simp
    refine (refOfQ _ _ (by decide)).mono ?_
    rintro e v6 ⟨_, rfl, q6, hc6⟩
    have q6 := q6.le (show _ ≤ 3 by decide)
    obtain ⟨s6, A6, m6, c6, B6, n6, d6, rfl⟩ := q6.form
    have hB := hB.trans (hc6.mono hB.size)
    have ha := ha.below hc6
    have q2 := q2.below hc6
    have q3 := q3.below hc6
    have hfar := hfar.below hc6
    have q5 := q5.below hc6
    go_wp2_with fail
    refine hK.out _ _ ?_ (fun hHeld => ?_)
    · exact hKeep.out _ hB
    clear hK K
    try simp only [Act.put, List.getElem_toArray, List.getElem_cons_succ, List.getElem_cons_zero, List.setIfInBounds_toArray, List.set_cons_zero, List.set_cons_succ]
    refine wpAnyH_ready (rs := [18]) (by kernel_rfl) (by simp) ?_
    refine AllReadyH.cons rfl (fun K hK => ?_) AllReadyH.nil
    go_simp
    refine (refPowC _ _ p _ q6.af hp.out).mono ?_
    rintro e v7 ⟨_, rfl, q7, hc7⟩
    have q7 := q7.le (show _ ≤ 330 by decide)
    obtain ⟨s7, A7, m7, c7, B7, n7, d7, rfl⟩ := q7.form
    have hB := hB.trans (hc7.mono hB.size)
    have ha := ha.below hc7
    have q2 := q2.below hc7
    have q3 := q3.below hc7
    have hfar := hfar.below hc7
    have q5 := q5.below hc7
    have q6 := q6.below hc7
    go_wp2_with fail
    refine hK.out _ _ ?_ (fun hHeld => ?_)
    · exact hKeep.out _ hB
    clear hK K
    try simp only [Act.put, List.getElem_toArray, List.getElem_cons_succ, List.getElem_cons_zero, List.setIfInBounds_toArray, List.set_cons_zero, List.set_cons_succ]
    refine wpAnyH_ready (rs := [19]) (by kernel_rfl) (by simp) ?_
    refine AllReadyH.cons rfl (fun K hK => ?_) AllReadyH.nil
    go_simp
    refine (refMulQ _ _ _ _ 3 330 _ q5.af q7.af (by decide)).mono ?_
    rintro e v8 ⟨_, rfl, q8, hc8⟩
    have q8 := q8.le (show _ ≤ 336 by decide)
    obtain ⟨s8, A8, m8, c8, B8, n8, d8, rfl⟩ := q8.form
    have hB := hB.trans (hc8.mono hB.size)
    have ha := ha.below hc8
    have q2 := q2.below hc8
    have q3 := q3.below hc8
    have hfar := hfar.below hc8
    have q5 := q5.below hc8
    have q6 := q6.below hc8
    have q7 := q7.below hc8
    go_wp2_with fail
    refine hK.out _ _ ?_ (fun hHeld => ?_)
    · exact hKeep.out _ hB
    clear hK K
    try simp only [Act.put, List.getElem_toArray, List.getElem_cons_succ, List.getElem_cons_zero, List.setIfInBounds_toArray, List.set_cons_zero, List.set_cons_succ]
    refine wpAnyH_ready (rs := [20]) (by kernel_rfl) (by simp) ?_
    refine AllReadyH.cons rfl (fun K hK => ?_) AllReadyH.nil
    go_simp
    refine (refMulQ _ _ _ _ 32 336 _ hfar q8.af (by decide)).mono ?_
    rintro e v9 ⟨_, rfl, q9, hc9⟩
    have q9 := q9.le (show _ ≤ 371 by decide)
    obtain ⟨s9, A9, m9, c9, B9, n9, d9, rfl⟩ := q9.form
    have hB := hB.trans (hc9.mono hB.size)
    have ha := ha.below hc9
    have q2 := q2.below hc9
    have q3 := q3.below hc9
    have hfar := hfar.below hc9
    have q5 := q5.below hc9
    have q6 := q6.below hc9
    have q7 := q7.below hc9
    have q8 := q8.below hc9
    go_wp2_with fail
    refine hK.out _ _ ?_ (fun hHeld => ?_)
    · exact hKeep.out _ hB
    clear hK K
    try simp only [Act.put, List.getElem_toArray, List.getElem_cons_succ, List.getElem_cons_zero, List.setIfInBounds_toArray, List.set_cons_zero, List.set_cons_succ]
    refine wpAnyH_ready (rs := [21]) (by kernel_rfl) (by simp) ?_
    refine AllReadyH.cons rfl (fun K hK => ?_) AllReadyH.nil
    go_simp
    refine (refOfQ _ _ (by decide)).mono ?_
    rintro e v10 ⟨_, rfl, q10, hc10⟩
    have q10 := q10.le (show _ ≤ 3 by decide)
    obtain ⟨s10, A10, m10, c10, B10, n10, d10, rfl⟩ := q10.form
    have hB := hB.trans (hc10.mono hB.size)
    have ha := ha.below hc10
    have q2 := q2.below hc10
    have q3 := q3.below hc10
    have hfar := hfar.below hc10
    have q5 := q5.below hc10
    have q6 := q6.below hc10
    have q7 := q7.below hc10
    have q8 := q8.below hc10
    have q9 := q9.below hc10
    go_wp2_with fail
    refine hK.out _ _ ?_ (fun hHeld => ?_)
    · exact hKeep.out _ hB
    clear hK K
    try simp only [Act.put, List.getElem_toArray, List.getElem_cons_succ, List.getElem_cons_zero, List.setIfInBounds_toArray, List.set_cons_zero, List.set_cons_succ]
    refine wpAnyH_ready (rs := [22]) (by kernel_rfl) (by simp) ?_
    refine AllReadyH.cons rfl (fun K hK => ?_) AllReadyH.nil
    go_simp
    refine (refCmpQ _ _ _ _ 371 3 _ q9.af q10.af (by decide)).mono ?_
    rintro e v11 ⟨rfl, hc11⟩
    rw [hcz.out]
    have hB := hB.trans (hc11.mono hB.size)
    have ha := ha.below hc11
    have q2 := q2.below hc11
    have q3 := q3.below hc11
    have hfar := hfar.below hc11
    have q5 := q5.below hc11
    have q6 := q6.below hc11
    have q7 := q7.below hc11
    have q8 := q8.below hc11
    have q9 := q9.below hc11
    have q10 := q10.below hc11
    go_wp2_with fail
    refine hK.out _ _ ?_ (fun hHeld => ?_)
    · exact hKeep.out _ hB
    clear hK K
    try simp only [Act.put, List.getElem_toArray, List.getElem_cons_succ, List.getElem_cons_zero, List.setIfInBounds_toArray, List.set_cons_zero, List.set_cons_succ]
    refine wpAnyH_take (i := 23) (v := .bool true) rfl (by kernel_rfl) (by kernel_rfl) (by kernel_rfl) (fun _ _ _ h => h) (Or.inl ⟨by kernel_rfl, by (intro w hSw; (try dsimp only at hSw); go_simp)⟩) hHeld ?_
    try simp only [Act.put, List.getElem_toArray, List.getElem_cons_succ, List.getElem_cons_zero, List.setIfInBounds_toArray, List.set_cons_zero, List.set_cons_succ]
    refine wpAnyH_take (i := 24) (v := .bool true) rfl (by kernel_rfl) (by kernel_rfl) (by kernel_rfl) (fun _ _ _ h => h) (Or.inl ⟨by kernel_rfl, by (intro w hSw; (try dsimp only at hSw); go_simp)⟩) hHeld ?_
    try simp only [Act.put, List.getElem_toArray, List.getElem_cons_succ, List.getElem_cons_zero, List.setIfInBounds_toArray, List.set_cons_zero, List.set_cons_succ]
    refine wpAnyH_take (i := 25) (v := .bool true) rfl (by kernel_rfl) (by kernel_rfl) (by kernel_rfl) (fun _ _ _ h => h) (Or.inl ⟨by kernel_rfl, by (intro w hSw; (try dsimp only at hSw); go_simp)⟩) hHeld ?_
    try simp only [Act.put, List.getElem_toArray, List.getElem_cons_succ, List.getElem_cons_zero, List.setIfInBounds_toArray, List.set_cons_zero, List.set_cons_succ]
    refine wpAnyH_ready (rs := [26]) (by kernel_rfl) (by simp) ?_
    refine AllReadyH.cons rfl (fun K hK => ?_) AllReadyH.nil
    go_simp
    refine (known_true _ (hG.out.below (hw.trans (hB.mono hw.size)))).mono ?_
    rintro e v12 ⟨rfl, hc12⟩
    have hB := hB.trans (hc12.mono hB.size)
    have ha := ha.below hc12
    have q2 := q2.below hc12
    have q3 := q3.below hc12
    have hfar := hfar.below hc12
    have q5 := q5.below hc12
    have q6 := q6.below hc12
    have q7 := q7.below hc12
    have q8 := q8.below hc12
    have q9 := q9.below hc12
    have q10 := q10.below hc12
    go_wp2_with fail
    refine hK.out _ _ ?_ (fun hHeld => ?_)
    · exact hKeep.out _ hB
    clear hK K
    try simp only [Act.put, List.getElem_toArray, List.getElem_cons_succ, List.getElem_cons_zero, List.setIfInBounds_toArray, List.set_cons_zero, List.set_cons_succ]
    refine wpAnyH_take (i := 27) (v := .bool true) rfl (by kernel_rfl) (by kernel_rfl) (by kernel_rfl) (fun _ _ _ h => h) (Or.inl ⟨by kernel_rfl, by (intro w hSw; (try dsimp only at hSw); go_simp)⟩) hHeld ?_
    try simp only [Act.put, List.getElem_toArray, List.getElem_cons_succ, List.getElem_cons_zero, List.setIfInBounds_toArray, List.set_cons_zero, List.set_cons_succ]
    refine wpAnyH_take (i := 28) (v := .bool true) rfl (by kernel_rfl) (by kernel_rfl) (by kernel_rfl) (fun _ _ _ h => h) (Or.inl ⟨by kernel_rfl, by (intro w hSw; (try dsimp only at hSw); go_simp)⟩) hHeld ?_
    try simp only [Act.put, List.getElem_toArray, List.getElem_cons_succ, List.getElem_cons_zero, List.setIfInBounds_toArray, List.set_cons_zero, List.set_cons_succ]
    refine wpAnyH_done (by kernel_rfl) ?_ _
    have hw := hw.trans (hB.mono hw.size)
    have Xa := Xa.below hB
    have Xb := Xb.below hB
    have Xf := Xf.below hB
    go_wp2
    go_ret
    exact ⟨rfl, hw⟩
end Go.Proofs.YtbgihlfblmilmaaGreatDoor.Fr
