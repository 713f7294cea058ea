/- Logarithms: the document's, and the law's walk. -/
import Derived.Test.YtfgiiidfpbpniaaGreatDoorOC
import Derived.Test.YtfgiiidfpbpniaaGreatDoorPM
import Derived.Test.YtfgiiidfpbpniaaGreatDoorHA
namespace Go.Proofs.YtfgiiidfpbpniaaGreatDoor.Fr
open Go.RowKit Num

abbrev ldG (t : TypeId) (x : Operand) : Op := Op.load t x
theorem IV.parts {w : World} {v1 v2 : Value} {neg : Bool} {X L : Nat} (h : IV w (.agg #[.bool neg, v1, v2]) neg X L) : ∃ A m c A' c', v1 = .slice A m c ∧ v2 = .slice A' 0 c' := by
  obtain ⟨A, m, c, us, A', c', e, _⟩ := h.open_
  injection e with e
  have e1 := congrArg (fun a : Array Value => a[1]?) e
  have e2 := congrArg (fun a : Array Value => a[2]?) e
  simp at e1 e2
  exact ⟨A, m, c, A', c', e1, e2⟩
theorem IV.of_nv {w : World} {v1 v2 : Value} {neg : Bool} {X L : Nat} (h1 : NV .u32 w v1 X L) (h2 : NV .u32 w v2 0 L) : IV w (.agg #[.bool neg, v1, v2]) neg X L := ⟨v1, v2, rfl, h1, h2⟩
theorem IV.nv {w : World} {v1 v2 : Value} {neg : Bool} {X L : Nat} (h : IV w (.agg #[.bool neg, v1, v2]) neg X L) : NV .u32 w v1 X L ∧ NV .u32 w v2 0 L := by
  obtain ⟨a, b, e, h1, h2⟩ := h
  injection e with e
  have e1 := congrArg (fun a : Array Value => a[1]?) e
  have e2 := congrArg (fun a : Array Value => a[2]?) e
  simp at e1 e2
  subst e1 e2
  exact ⟨h1, h2⟩
theorem IV.set3 {w : World} {v1 v2 : Value} {neg : Bool} {X L : Nat} (h : IV w (.agg #[.bool neg, v1, v2]) neg X L) {g : Nat} {t : TypeId} {a : Bool} {p1 q1 : Option Addr} {p2 p3 q2 q3 : Nat} (hB : Blk w g t #[.bool a, .slice p1 p2 p3, .slice q1 q2 q3]) (x1 x2 x3 : Value) :
    IV (((w.setCell ⟨g, 0, none⟩ x1).setCell ⟨g, 1, none⟩ x2).setCell ⟨g, 2, none⟩ x3) (.agg #[.bool neg, v1, v2]) neg X L :=
  IV.of_nv (nv_set3_32 h.nv.1 hB x1 x2 x3) (nv_set3_32 h.nv.2 hB x1 x2 x3)
theorem blk_set3 {w : World} {g : Nat} {t : TypeId} {x y z a b c : Value} (h : Blk w g t #[x, y, z]) : Blk (((w.setCell ⟨g, 0, none⟩ a).setCell ⟨g, 1, none⟩ b).setCell ⟨g, 2, none⟩ c) g t #[a, b, c] := ((h.set_ 0 a).set_ 1 b).set_ 2 c
theorem blk_far3 {w : World} {g g' : Nat} {t : TypeId} {cs : Array Value} {a b c : Value} (h : Blk w g t cs) (hne : g ≠ g') : Blk (((w.setCell ⟨g', 0, none⟩ a).setCell ⟨g', 1, none⟩ b).setCell ⟨g', 2, none⟩ c) g t cs := ((h.far (p := ⟨g', 0, none⟩) hne a).far (p := ⟨g', 1, none⟩) hne b).far (p := ⟨g', 2, none⟩) hne c

set_option maxHeartbeats 6400000 in
set_option maxRecDepth 100000 in
theorem RLog_pos (e : Nat) (w : World) (he : 0 < e) (he2 : e ≤ 9223372036854775807) :
    Calls Tryz.prog 8 #[.int .i64 (e : Int)] w fun r w' => r = .returned (.int .i64 ((bl (e ^ 16) : Nat) - 1)) ∧ Below w.heap.size w w' := by
  have hz : ((e : Int) == 0) = false := by rw [beq_eq_false_iff_ne]; omega
  have hblp := bl_pow e 16 (by decide) (show e < 2 ^ 64 by omega)
  have hpp : 0 < e ^ 16 := Nat.pow_pos he
  have hbl1 : 1 ≤ bl (e ^ 16) := by
    rcases Nat.eq_zero_or_pos (bl (e ^ 16)) with h0 | h0
    · have := lt_bl (e ^ 16)
      rw [h0] at this
      omega
    · exact h0
  have hlt := Lib.hid (lt_bl (e ^ 16))
  have hle := Lib.hid (fun k (hk : e ^ 16 < 2 ^ k) => bl_le hk)
  go_enter Tryz.func8, Tryz.ntmps8
  go_wp2_with fail
  refine (refOf_int 1 w (by decide)).mono ?_
  rintro r w2 ⟨v2, rfl, hi2, hb2⟩
  obtain ⟨A, m, c, us, A', c', rfl, _⟩ := hi2.open_
  have hBp := Blk.new w2 48 #[.bool false, .slice A m c, .slice A' 0 c']
  have hb3 := hb2.alloc hb2.size (.cells #[.bool false, .slice A m c, .slice A' 0 c'] 48)
  have hi3 : IV (w2.alloc (.cells #[.bool false, .slice A m c, .slice A' 0 c'] 48)) (.agg #[.bool false, .slice A m c, .slice A' 0 c']) false (e ^ 0) 3 := FV.below hi2 ((Below.refl w2.heap.size w2).alloc (Nat.le_refl _) _)
  have hgp := hb2.size
  go_wp2
  generalize w2.alloc (.cells #[.bool false, .slice A m c, .slice A' 0 c'] 48) = w3 at *
  generalize w2.heap.size = gp at *
  clear hi2 hb2
  go_loopw [4] (fun iv wr' => ∃ (i : Nat) (v1 v2 : Value) (wr : World), wr = wr' ∧ iv = .int .i64 i ∧ i ≤ 16 ∧ Blk wr gp 48 #[.bool false, v1, v2] ∧ IV wr (.agg #[.bool false, v1, v2]) false (e ^ i) (3 + 6 * i) ∧ Below w.heap.size w wr) (fun iv _ => 16 - (intOf iv).toNat)
  case atStart => exact ⟨0, _, _, _, rfl, rfl, by decide, hBp, hi3, hb3⟩
  case round =>
    obtain ⟨i, v1, v2, wr, rfl, rfl, hi16, hB, hI, hbr⟩ := hrel
    clear hBp hi3 hb3
    obtain ⟨A1, m1, c1, A2, c2, rfl, rfl⟩ := hI.parts
    rcases Nat.lt_or_ge i 16 with hlt16 | hge16
    · have k0 : wr.drew.cell? ⟨gp, 0, none⟩ = some (.bool false) := hB.cell 0
      have k1 : wr.drew.cell? ⟨gp, 1, none⟩ = some (.slice A1 m1 c1) := hB.cell 1
      have k2 : wr.drew.cell? ⟨gp, 2, none⟩ = some (.slice A2 0 c2) := hB.cell 2
      have b1 : Below w.heap.size w wr.drew := bel_drewN hbr 1
      have b0 : Below wr.heap.size wr wr.drew := bel_drewN (Below.refl _ _) 1
      have hpw := Lib.hid (show e ^ (i + 1) = e ^ i * e from Nat.pow_succ e i)
      go_wp2
      rw [show Op.load 48 (Operand.tmp 3) = ldG 48 (Operand.tmp 3) from rfl]
      go_region_held3 (fun _ => True) (first | exact trivial | go_keep)
        (first
          | (go_at_call 28; refine (refOf_int e wr.drew he2).mono ?_; rintro r w5 ⟨v5, rfl, hi5, hb5⟩; obtain ⟨A5, m5, c5, us5, A6, c6, rfl, _⟩ := hi5.open_; have b5 := b1.trans (hb5.mono b1.size); have bw5 := b0.trans (hb5.mono b0.size); have hB5 := hB.below bw5; have d0 := hB5.cell 0; have d1 := hB5.cell 1; have d2 := hB5.cell 2)
          | (go_at_call 29; refine (refMul_int (e ^ i) e (3 + 6 * i) 3 _ _ w5 (FV.below hI bw5) hi5 (by omega) (by omega)).mono ?_; rw [← hpw.out]; rintro r w6 ⟨v6, rfl, hi6, hb6⟩; obtain ⟨A7, m7, c7, us7, A8, c8, rfl, _⟩ := hi6.open_; have b6 := b5.trans (hb6.mono b5.size); have hB6 := hB5.below hb6; have r0 := hB6.cell 0; have r1 := hB6.cell 1; have r2 := hB6.cell 2; have f0 := hB6.frozen 0; have f1 := hB6.frozen 1; have f2 := hB6.frozen 2; have hBn := Lib.hid (fun a b d => blk_set3 (a := a) (b := b) (c := d) hB6); have hIn := Lib.hid (fun a b d => hi6.set3 hB6 a b d); have hbn := Lib.hid (fun a b d => bel_set3 b6 hgp a b d)))
      all_goals
        go_wp2
        go_roundw
        case rel => exact ⟨i + 1, _, _, _, rfl, by go_num, by omega, hBn.out _ _ _, hIn.out _ _ _, hbn.out _ _ _⟩
        case measure => simp [intOf]; omega
    · have hi' : 16 = i := by omega
      subst hi'
      have hlp := Lib.hid (hB.lt)
      generalize hP : e ^ 16 = P at *
      generalize hLL : bl P = LL at *
      have hP := Lib.hid hP
      have hLL := Lib.hid hLL
      go_wp2_with fail
      refine (refOf_int 1 wr (by decide)).mono ?_
      rintro r w5 ⟨v5, rfl, hi5, hb5⟩
      obtain ⟨A5, m5, c5, us5, A6, c6, rfl, _⟩ := hi5.open_
      have hBq := Blk.new w5 48 #[.bool false, .slice A5 m5 c5, .slice A6 0 c6]
      have b5 := hbr.trans (hb5.mono hbr.size)
      have b7 := b5.alloc b5.size (.cells #[.bool false, .slice A5 m5 c5, .slice A6 0 c6] 48)
      have bq7 := (Below.refl w5.heap.size w5).alloc (Nat.le_refl _) (.cells #[.bool false, .slice A5 m5 c5, .slice A6 0 c6] 48)
      have hi7 : IV (w5.alloc (.cells #[.bool false, .slice A5 m5 c5, .slice A6 0 c6] 48)) (.agg #[.bool false, .slice A5 m5 c5, .slice A6 0 c6]) false (2 ^ 0) 3 := FV.below hi5 bq7
      have hB7 := (hB.below hb5).below bq7
      have hI7 := FV.below (FV.below hI hb5) bq7
      have hgq := b5.size
      have hgne : gp ≠ w5.heap.size := by have := hlp.out; have := hb5.size; omega
      go_wp2
      generalize w5.alloc (.cells #[.bool false, .slice A5 m5 c5, .slice A6 0 c6] 48) = w7 at *
      generalize w5.heap.size = gq at *
      clear hi5 hb5 b5 bq7 hB hI hbr
      go_loopw [6] (fun lv wr' => ∃ (l : Nat) (v3 v4 : Value) (wr : World), wr = wr' ∧ lv = .int .i64 l ∧ l + 1 ≤ LL ∧ Blk wr gp 48 #[.bool false, .slice A1 m1 c1, .slice A2 0 c2] ∧ IV wr (.agg #[.bool false, .slice A1 m1 c1, .slice A2 0 c2]) false P (3 + 6 * 16) ∧ Blk wr gq 48 #[.bool false, v3, v4] ∧ IV wr (.agg #[.bool false, v3, v4]) false (2 ^ l) (3 + 6 * l) ∧ Below w.heap.size w wr) (fun lv _ => LL - (intOf lv).toNat)
      case atStart => exact ⟨0, _, _, _, rfl, rfl, hbl1, hB7, hI7, hBq, hi7, b7⟩
      case round =>
        obtain ⟨l, v3, v4, wr, rfl, rfl, hl, hB, hI, hC, hJ, hbr⟩ := hrel
        clear hB7 hI7 hBq hi7 b7
        obtain ⟨A3, m3, c3, A4, c4, rfl, rfl⟩ := hJ.parts
        have b0 := Below.refl wr.heap.size wr
        have b1 : Below wr.heap.size wr wr.drew := bel_drewN b0 1
        have hKeep := Lib.hid (fun (wx : World) (hb : Below wr.heap.size wr wx) => show (wx.cell? ⟨gq, 0, none⟩ = some (.bool false) ∧ wx.cell? ⟨gq, 1, none⟩ = some (.slice A3 m3 c3) ∧ wx.cell? ⟨gq, 2, none⟩ = some (.slice A4 0 c4)) ∧ (wx.cell? ⟨gp, 0, none⟩ = some (.bool false) ∧ wx.cell? ⟨gp, 1, none⟩ = some (.slice A1 m1 c1) ∧ wx.cell? ⟨gp, 2, none⟩ = some (.slice A2 0 c2)) from ⟨keep3 hC hb, keep3 hB hb⟩)
        have hpw := Lib.hid (show 2 ^ (l + 1) = 2 ^ l * 2 from Nat.pow_succ 2 l)
        go_wp2
        go_region_held3 (fun wx => (wx.cell? ⟨gq, 0, none⟩ = some (.bool false) ∧ wx.cell? ⟨gq, 1, none⟩ = some (.slice A3 m3 c3) ∧ wx.cell? ⟨gq, 2, none⟩ = some (.slice A4 0 c4)) ∧ (wx.cell? ⟨gp, 0, none⟩ = some (.bool false) ∧ wx.cell? ⟨gp, 1, none⟩ = some (.slice A1 m1 c1) ∧ wx.cell? ⟨gp, 2, none⟩ = some (.slice A2 0 c2)))
          (first | exact hKeep.out _ b0 | exact hKeep.out _ b1 | exact hKeep.out _ b2 | exact hKeep.out _ b3 | exact hKeep.out _ b4 | go_keep)
          (first
            | (go_at_call 28; refine (refOf_int 2 wr.drew (by decide)).mono ?_; rintro r w8 ⟨v8, rfl, hi8, hb8⟩; obtain ⟨A7, m7, c7, us7, A8, c8, rfl, _⟩ := hi8.open_; have b2 := b1.trans (hb8.mono b1.size))
            | (go_at_call 29; refine (refMul_int (2 ^ l) 2 (3 + 6 * l) 3 _ _ w8 (FV.below hJ b2) hi8 (by omega) (by omega)).mono ?_; rw [← hpw.out]; rintro r w9 ⟨v9, rfl, hi9, hb9⟩; obtain ⟨A9, m9, c9, us9, A0, c0, rfl, _⟩ := hi9.open_; have b3 := b2.trans (hb9.mono b2.size))
            | (go_at_call 30; refine (refCmp_int (2 ^ (l + 1)) P (3 + 6 * l + 3 + 3) (3 + 6 * 16) _ _ w9 hi9 (FV.below hI b3) hpp (by omega) (by omega)).mono ?_; rintro r w10 ⟨q, rfl, hq0, hb10⟩; have hq := Lib.hid hq0; clear hq0; have b4 := b3.trans (hb10.mono b3.size)))
        have hB4 := hB.below b4
        have hI4 := FV.below hI b4
        have hC4 := hC.below b4
        have hJ4 := FV.below hJ b4
        have bw4 := hbr.trans (b4.mono hbr.size)
        clear hB hI hC hJ hKeep b0 b1 b2 b3 b4 hb8 hb9 hb10 hi8 hi9
        rcases Nat.lt_or_ge P (2 ^ (l + 1)) with hc | hc
        · have hqd : decide (q ≤ 0) = false := decide_eq_false (fun h9 => by have := hq.out.1 h9; omega)
          have hlfin := Lib.hid (show (l : Int) = (LL : Int) - 1 by
            have h9 := hle.out (l + 1) hc
            omega)
          clear hc hq
          rw [hqd]
          go_wp2
          go_ret
          exact ⟨ret_i64 (by rw [hP.out, hLL.out]; exact hlfin.out), bw4⟩
        · have hqd : decide (q ≤ 0) = true := decide_eq_true (hq.out.2 hc)
          have hl2 : l + 1 + 1 ≤ LL := by
            rcases Nat.lt_or_ge LL (l + 1 + 1) with h9 | h9
            · exfalso
              have e1 : LL = l + 1 := by omega
              have h8 := hlt.out
              rw [e1] at h8
              omega
            · exact h9
          clear hc hq
          rw [hqd]
          have k0 : w10.drew.cell? ⟨gq, 0, none⟩ = some (.bool false) := hC4.cell 0
          have k1 : w10.drew.cell? ⟨gq, 1, none⟩ = some (.slice A3 m3 c3) := hC4.cell 1
          have k2 : w10.drew.cell? ⟨gq, 2, none⟩ = some (.slice A4 0 c4) := hC4.cell 2
          have b1 : Below w.heap.size w w10.drew := bel_drewN bw4 1
          have b0 : Below w10.heap.size w10 w10.drew := bel_drewN (Below.refl _ _) 1
          go_wp2
          rw [show Op.load 48 (Operand.tmp 5) = ldG 48 (Operand.tmp 5) from rfl]
          go_region_held3 (fun _ => True) (first | exact trivial | go_keep)
            (first
              | (go_at_call 28; refine (refOf_int 2 w10.drew (by decide)).mono ?_; rintro r w11 ⟨v11, rfl, hi11, hb11⟩; obtain ⟨B5, n5, d5, vs5, B6, d6, rfl, _⟩ := hi11.open_; have b5 := b1.trans (hb11.mono b1.size); have bw5 := b0.trans (hb11.mono b0.size); have hB5 := hC4.below bw5; have e0 := hB5.cell 0; have e1 := hB5.cell 1; have e2 := hB5.cell 2)
              | (go_at_call 29; refine (refMul_int (2 ^ l) 2 (3 + 6 * l) 3 _ _ w11 (FV.below hJ4 bw5) hi11 (by omega) (by omega)).mono ?_; rw [← hpw.out]; rintro r w12 ⟨v12, rfl, hi12, hb12⟩; obtain ⟨B7, n7, d7, vs7, B8, d8, rfl, _⟩ := hi12.open_; have b6 := b5.trans (hb12.mono b5.size); have bw6 := bw5.trans (hb12.mono bw5.size); have hB6 := hB5.below hb12; have r0 := hB6.cell 0; have r1 := hB6.cell 1; have r2 := hB6.cell 2; have f0 := hB6.frozen 0; have f1 := hB6.frozen 1; have f2 := hB6.frozen 2; have hBn := Lib.hid (fun a b d => blk_set3 (a := a) (b := b) (c := d) hB6); have hIn := Lib.hid (fun a b d => hi12.set3 hB6 a b d); have hBp := Lib.hid (fun a b d => blk_far3 (a := a) (b := b) (c := d) (hB4.below bw6) hgne); have hIp := Lib.hid (fun a b d => (show IV w12 _ false P (3 + 6 * 16) from FV.below hI4 bw6).set3 hB6 a b d); have hbn := Lib.hid (fun a b d => bel_set3 b6 hgq a b d)))
          all_goals
            go_wp2
            go_roundw
            case rel => exact ⟨l + 1, _, _, _, rfl, by go_num, hl2, hBp.out _ _ _, hIp.out _ _ _, hBn.out _ _ _, hIn.out _ _ _, hbn.out _ _ _⟩
            case measure => simp [intOf]; omega
end Go.Proofs.YtfgiiidfpbpniaaGreatDoor.Fr

namespace Go.Proofs.YtfgiiidfpbpniaaGreatDoor
open Go.RowKit
theorem RLog_any (e : Nat) (w : World) (he2 : e ≤ 9223372036854775807) :
    Calls Tryz.prog 8 #[.int .i64 (e : Int)] w fun r w' => r = .returned (.int .i64 (lg e)) ∧ Below w.heap.size w w' := by
  rcases Nat.eq_zero_or_pos e with h0 | h0
  · subst h0
    go_enter Tryz.func8, Tryz.ntmps8
    go_wp2
    go_ret
    exact ⟨rfl, Below.refl _ _⟩
  · have hv : lg e = (Fr.bl (e ^ 16) : Nat) - 1 := by unfold lg; rw [if_neg (by omega)]
    rw [hv]
    exact Fr.RLog_pos e w h0 he2

theorem wf_hi {n : Int} (h : (Lit.int .i64 n).wf = true) : n ≤ 9223372036854775807 := by
  unfold Lit.wf at h
  simp only [Bool.and_eq_true, decide_eq_true_eq] at h
  exact h.2

set_option maxHeartbeats 1600000 in
theorem logs_law (e : Int) (w : World) (he : e ≤ 9223372036854775807) (hT : Tab w) :
    Calls Tryz.prog 3 #[.int .i64 e] w (YesF w) := by
  have hL := Log_any e w he
  by_cases h0 : e < 0
  · rw [if_pos h0] at hL
    have hL := Lib.hid hL
    have hd : decide (e < 0) = true := decide_eq_true h0
    go_enter Tryz.func3, Tryz.ntmps3
    go_wp2_with fail
    refine hL.out.mono ?_
    rintro r w2 ⟨rfl, hb2⟩
    have hT2 := hT.below hb2
    go_wp2_with fail
    refine (known_any _ hT2).mono ?_
    rintro r w99 ⟨rfl, hb99⟩
    go_wp2
    go_ret
    exact ⟨rfl, hb2.trans (hb99.mono hb2.size)⟩
  · rw [if_neg h0] at hL
    obtain ⟨m, rfl⟩ : ∃ m : Nat, e = m := ⟨e.toNat, by omega⟩
    rw [Int.toNat_natCast] at hL
    have hL := Lib.hid hL
    have hd : decide ((m : Int) < 0) = false := decide_eq_false h0
    have hR := Lib.hid (fun w9 => RLog_any m w9 (by omega))
    generalize lg m = q at *
    go_enter Tryz.func3, Tryz.ntmps3
    go_wp2_with fail
    refine hL.out.mono ?_
    rintro r w2 ⟨rfl, hb2⟩
    go_wp2_with fail
    refine (hR.out w2).mono ?_
    rintro r w3 ⟨rfl, hb23⟩
    have hb3 := hb2.trans (hb23.mono hb2.size)
    have hT3 := hT.below hb3
    go_wp2_with fail
    refine (known_any _ hT3).mono ?_
    rintro r w99 ⟨rfl, hb99⟩
    go_wp2
    go_ret
    exact ⟨rfl, hb3.trans (hb99.mono hb3.size)⟩
end Go.Proofs.YtfgiiidfpbpniaaGreatDoor
