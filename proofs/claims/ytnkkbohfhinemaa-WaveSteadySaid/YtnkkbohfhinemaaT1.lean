/- A steady recording stays what it is at every rate: the law's walk. -/
import Derived.Test.YtnkkbohfhinemaaT0
import Derived.Test.YtnkkbohfhinemaaC2
import Derived.Test.YtnkkbohfhinemaaK3
namespace Go.Proofs.Ytnkkbohfhinemaa
open Go.RowKit

theorem if_max (b x : Int) : (if b < x then x else b) = max b x := by split <;> omega
theorem if_min (b x : Int) : (if x < b then x else b) = min b x := by split <;> omega
abbrev YesT (w : World) (e : Ending) (w' : World) : Prop := e = .returned (.bool true) ∧ Below w.heap.size w w'

set_option maxHeartbeats 3200000 in
set_option maxRecDepth 100000 in
theorem st_skip (rate : Int) (A : Option Addr) (n c : Nat) (xs : List Int) (u d : Int) (w : World) (h : Sl .i64 w A n c xs) (hn : ¬ (n ≤ 2000 ∧ (okB 1 192000 rate && allB (-32768) 32767 xs) = true)) :
    Calls Try.prog 7 #[.agg #[.int .i64 rate, .slice A n c], .int .i64 u, .int .i64 d] w (YesT w) := by
  have hcap := h.cap
  have htop := h.top
  have hB1 := Blk.new w 24 #[.int .i64 rate, .slice A n c]
  have hb1 := (Below.refl w.heap.size w).alloc (Nat.le_refl _) (.cells #[.int .i64 rate, .slice A n c] 24)
  have h1 := h.below hb1
  rcases Nat.lt_or_ge 2000 n with h2 | h2
  · go_enter Try.func7, Try.ntmps7
    go_wp2_with fail
    refine (known_any _).mono ?_
    rintro e w7 ⟨rfl, hb7⟩
    go_wp2
    go_ret
    exact ⟨rfl, hb1.trans (hb7.mono hb1.size)⟩
  · have hv : (okB 1 192000 rate && allB (-32768) 32767 xs) = false := by
      cases hv : (okB 1 192000 rate && allB (-32768) 32767 xs) with
      | false => rfl
      | true => exact absurd ⟨h2, hv⟩ hn
    have hv := Lib.hid hv
    go_enter Try.func7, Try.ntmps7
    go_wp2_with fail
    refine (RValid_any _ _ _ _ _ _ h1 (by omega)).mono ?_
    rintro e w2 ⟨he, hb2⟩
    rw [hv.out] at he
    subst he
    have hb12 := hb1.trans (hb2.mono hb1.size)
    go_wp2_with fail
    refine (known_any _).mono ?_
    rintro e w7 ⟨rfl, hb7⟩
    go_wp2
    go_ret
    exact ⟨rfl, hb12.trans (hb7.mono hb12.size)⟩

set_option maxHeartbeats 3200000 in
set_option maxRecDepth 100000 in
theorem st_err (rate : Int) (A : Option Addr) (n c : Nat) (xs : List Int) (u d : Int) (w : World) (h : Sl .i64 w A n c xs) (hn : n ≤ 2000) (hv : (okB 1 192000 rate && allB (-32768) 32767 xs) = true) (hC : rsC rate xs u d ≠ 0) :
    Calls Try.prog 7 #[.agg #[.int .i64 rate, .slice A n c], .int .i64 u, .int .i64 d] w (YesT w) := by
  have hcap := h.cap
  have htop := h.top
  have hB1 := Blk.new w 24 #[.int .i64 rate, .slice A n c]
  have hb1 := (Below.refl w.heap.size w).alloc (Nat.le_refl _) (.cells #[.int .i64 rate, .slice A n c] 24)
  have h1 := h.below hb1
  have hv := Lib.hid hv
  have hno := Lib.hid (rs_no hC)
  have hne := Lib.hid hC
  go_enter Try.func7, Try.ntmps7
  go_wp2_with fail
  generalize w.alloc (.cells #[.int .i64 rate, .slice A n c] 24) = w1 at *
  refine (RValid_any _ _ _ _ _ _ h1 (by omega)).mono ?_
  rintro e w2 ⟨he, hb2⟩
  rw [hv.out] at he
  subst he
  have hb12 := hb1.trans (hb2.mono hb1.size)
  have h2 := h1.below hb2
  have hB2 := hB1.below hb2
  have r0 := hB2.cell 0
  have r1 := hB2.cell 1
  go_wp2_with fail
  refine (Resample_any _ _ _ _ _ _ _ _ h2).mono ?_
  rw [hno.out.1, hno.out.2]
  rintro e w3 ⟨A3, m3, c3, rfl, hS3, hb3⟩
  have hm : m3 = 0 := hS3.len.symm
  subst hm
  have hb13 := hb12.trans (hb3.mono hb12.size)
  obtain ⟨k, hk⟩ : ∃ k, rsC rate xs u d = k := ⟨_, rfl⟩
  rw [hk] at hne ⊢
  have hkb : (k == 0) = false := by simpa using hne.out
  clear hC hk
  clear r0 r1
  go_wp2_with fail
  refine (known_any _).mono ?_
  rintro e w7 ⟨rfl, hb7⟩
  have hb14 := hb13.alloc hb13.size (.cells #[.int .i64 0, .slice A3 0 c3] 24)
  go_wp2
  go_ret
  exact ⟨rfl, hb14.trans (hb7.mono hb14.size)⟩

set_option maxHeartbeats 3200000 in
set_option maxRecDepth 100000 in
theorem st_ok (rate : Int) (A : Option Addr) (n c : Nat) (xs : List Int) (u d : Int) (w : World) (h : Sl .i64 w A n c xs) (hn : n ≤ 2000) (hv : (okB 1 192000 rate && allB (-32768) 32767 xs) = true) (hC : rsC rate xs u d = 0) :
    Calls Try.prog 7 #[.agg #[.int .i64 rate, .slice A n c], .int .i64 u, .int .i64 d] w (YesT w) := by
  have hcap := h.cap
  have htop := h.top
  have hl := Lib.hid h.len
  have hB1 := Blk.new w 24 #[.int .i64 rate, .slice A n c]
  have hb1 := (Below.refl w.heap.size w).alloc (Nat.le_refl _) (.cells #[.int .i64 rate, .slice A n c] 24)
  have h1 := h.below hb1
  have hv := Lib.hid hv
  obtain ⟨hk, ⟨U, D, M, rfl, rfl, hU1, hU2, hD1, hD2, hm, hM, hM2, hL⟩, hR⟩ := rs_ok hC
  rw [hl.out] at hM
  have hL := Lib.hid hL
  have hR := Lib.hid hR
  have hC := Lib.hid hC
  have hrt := (Bool.and_eq_true _ _ ▸ hv.out : _ ∧ _).1
  have hr := okB_iff.1 hrt
  have hru1 : 0 ≤ rate * (U : Int) := Int.mul_nonneg (by omega) (by omega)
  have hru2 : rate * (U : Int) ≤ 192000 * 16 := Int.mul_le_mul hr.2 (by omega) (by omega) (by omega)
  have hdiv : rate * (U : Int) / (D : Int) * (D : Int) = rate * (U : Int) := Int.ediv_mul_cancel (Int.dvd_of_emod_eq_zero hm)
  have hM0 : (M = 0 ↔ n = 0) := by
    constructor
    · intro e
      rcases Nat.eq_zero_or_pos n with h0 | h0
      · exact h0
      · have := cnt_pos (n := n) hU1 hD1 h0
        rw [hM] at this; omega
    · rintro rfl
      have : rsCnt 0 (U : Int) (D : Int) = 0 := by
        unfold rsCnt
        rw [Int.natCast_zero, Int.zero_mul]
        exact Int.ediv_eq_zero_of_lt (by omega) (by omega)
      rw [hM] at this; omega
  have hMs : U = D → tab M (ipAt xs U D) = xs := by
    rintro rfl
    have := cnt_same (n := n) hU1
    rw [hM] at this
    have e : M = xs.length := by rw [hl.out]; omega
    rw [e]; exact ip_same hU1
  have hMs := Lib.hid hMs
  clear hk hm hM hrt
  generalize hP : rate * (U : Int) = P at *
  generalize hQ : P / (D : Int) = Q at *
  have hrc := Lib.hid hR
  have hP' := Lib.hid hP
  have hQ' := Lib.hid hQ
  clear hQ
  go_enter Try.func7, Try.ntmps7
  go_wp2_with fail
  generalize w.alloc (.cells #[.int .i64 rate, .slice A n c] 24) = w1 at *
  refine (RValid_any _ _ _ _ _ _ h1 (by omega)).mono ?_
  rintro e w2 ⟨he, hb2⟩
  rw [hv.out] at he
  subst he
  have hb12 := hb1.trans (hb2.mono hb1.size)
  have h2 := h1.below hb2
  have hB2 := hB1.below hb2
  have r0 := hB2.cell 0
  have r1 := hB2.cell 1
  go_wp2_with fail
  refine (Resample_any _ _ _ _ _ _ _ _ h2).mono ?_
  rw [hC.out, hL.out, hR.out]
  rintro e w3 ⟨A3, m3, c3, rfl, hS3, hb3⟩
  have hm : m3 = M := by rw [← hS3.len, tab_len]
  subst hm
  have hb13 := hb12.trans (hb3.mono hb12.size)
  have h3 := (h2.below hb3).alloc (.cells #[.int .i64 Q, .slice A3 m3 c3] 24)
  have hB3 := (hB2.below hb3).alloc (.cells #[.int .i64 Q, .slice A3 m3 c3] 24)
  have hS4 := hS3.alloc (.cells #[.int .i64 Q, .slice A3 m3 c3] 24)
  have hC4 := Blk.new w3 24 #[.int .i64 Q, .slice A3 m3 c3]
  have hb14 := hb13.alloc hb13.size (.cells #[.int .i64 Q, .slice A3 m3 c3] 24)
  clear r0 r1 hS3
  have hcap3 := hS4.cap
  have htop3 := hS4.top
  have r0 : (w3.alloc (.cells #[.int .i64 Q, .slice A3 m3 c3] 24)).cell? ⟨w.heap.size, 0, none⟩ = some (.int .i64 rate) := hB3.cell 0
  have r1 : (w3.alloc (.cells #[.int .i64 Q, .slice A3 m3 c3] 24)).cell? ⟨w.heap.size, 1, none⟩ = some (.slice A n c) := hB3.cell 1
  have hKp := Lib.hid (fun (wx : World) (hb : Below (w3.alloc (.cells #[.int .i64 Q, .slice A3 m3 c3] 24)).heap.size (w3.alloc (.cells #[.int .i64 Q, .slice A3 m3 c3] 24)) wx) => show (Blk wx w.heap.size 24 #[.int .i64 rate, .slice A n c] ∧ Blk wx w3.heap.size 24 #[.int .i64 Q, .slice A3 m3 c3]) ∧ Sl .i64 wx A n c xs ∧ Sl .i64 wx A3 m3 c3 (tab m3 (ipAt xs U D)) ∧ Below w.heap.size w wx from ⟨⟨hB3.below hb, hC4.below hb⟩, h3.below hb, hS4.below hb, hb14.trans (hb.mono hb14.size)⟩)
  have b1 : ((m3 : Int) == 0) = decide (n = 0) := by
    rw [Bool.eq_iff_iff]; simp; exact hM0
  have b2 : ((n : Int) == 0) = decide (n = 0) := by
    rw [Bool.eq_iff_iff]; simp
  have hM0' := Lib.hid hM0
  clear hM0
  by_cases hUD : U = D
  case' pos =>
    subst hUD
    have hMs2 := Lib.hid (hMs.out rfl)
    clear hMs
    cases hz : decide (n = 0)
    all_goals
      rw [hz] at b1 b2
      have hz := Lib.hid hz
      go_wp2_with fail
      refine (Same_any _ _ _ _ _ _ _ _ _ hS4 h3).mono ?_
      rintro e w5 ⟨k5, he, rfl⟩
      rw [sameB_yes hMs2.out] at he
      subst he
      have hb5 : Below (w3.alloc (.cells #[.int .i64 Q, .slice A3 m3 c3] 24)).heap.size (w3.alloc (.cells #[.int .i64 Q, .slice A3 m3 c3] 24)) ((w3.alloc (.cells #[.int .i64 Q, .slice A3 m3 c3] 24)).drewN k5) := bel_drewN (Below.refl _ _) k5
      obtain ⟨⟨hBx, hCx⟩, hSx, hTx, hbx⟩ := hKp.out _ hb5
      clear r0 r1 hKp hB3 h3 hS4 hC4 hb14 hb5
      go_upto_region 8 with fail
      generalize (w3.alloc (.cells #[.int .i64 Q, .slice A3 m3 c3] 24)).drewN k5 = wx at *
  case' neg =>
    have hUDb : ((U : Int) == (D : Int)) = false := by rw [beq_eq_false_iff_ne]; omega
    cases hz : decide (n = 0)
    all_goals
      rw [hz] at b1 b2
      have hz := Lib.hid hz
      obtain ⟨⟨hBx, hCx⟩, hSx, hTx, hbx⟩ := hKp.out _ (Below.refl _ _)
      go_upto_region 8 with fail
      clear r0 r1 hKp hB3 h3 hS4 hC4 hb14
      generalize w3.alloc (.cells #[.int .i64 Q, .slice A3 m3 c3] 24) = wx at *
  all_goals
    have r0 : wx.cell? ⟨w.heap.size, 0, none⟩ = some (.int .i64 rate) := hBx.cell 0
    have r1 : wx.cell? ⟨w.heap.size, 1, none⟩ = some (.slice A n c) := hBx.cell 1
    have q0 : wx.cell? ⟨w3.heap.size, 0, none⟩ = some (.int .i64 Q) := hCx.cell 0
    have q1 : wx.cell? ⟨w3.heap.size, 1, none⟩ = some (.slice A3 m3 c3) := hCx.cell 1
    first
      | have hz0 : n = 0 := of_decide_eq_true hz.out
        subst hz0
        go_wp2_with fail
        refine (known_any _).mono ?_
        rintro e w7 ⟨rfl, hb7⟩
        go_wp2
        go_ret
        exact ⟨rfl, hbx.trans (hb7.mono hbx.size)⟩
      | have hz0 : ¬ n = 0 := of_decide_eq_false hz.out
        have hz1 : 0 < n := by omega
        clear b1
        obtain ⟨ad, x0, rfl, hx0, hx0e⟩ := hSx.at_ hz1
        rw [show ad.add 0 = ad from by unfold Addr.add; rfl] at hx0
        go_wp2
        go_quiet (fail)
        have hBx2 := hBx.drewN nq
        have hCx2 := hCx.drewN nq
        have hSx2 := hSx.drewN nq
        have hTx2 := hTx.drewN nq
        have hbx2 := bel_drewN hbx nq
        generalize wx.drewN nq = wy at *
        clear r0 r1 q0 q1 hx0
        go_wp2
        go_loopw [9, 10, 11] (fun lo hi iv wr => ∃ (k r : Nat) (a b : Int), iv = .int .i64 k ∧ k ≤ n ∧ lo = .int .i64 a ∧ hi = .int .i64 b ∧ Hid (∀ x ∈ xs.take k, a ≤ x ∧ x ≤ b) ∧ wr = wy.drewN r) (fun _ _ iv _ => n - (intOf iv).toNat)
        case atStart => exact ⟨0, 0, x0, x0, rfl, Nat.zero_le _, rfl, rfl, (fun x hx => by simp at hx), rfl⟩
        case round =>
          obtain ⟨k, r, a, b, rfl, hk, rfl, rfl, hab, rfl⟩ := hrel
          have hr := hSx2.drewN r
          have r0 : (wy.drewN r).cell? ⟨w.heap.size, 0, none⟩ = some (.int .i64 rate) := (hBx2.drewN r).cell 0
          have r1 : (wy.drewN r).cell? ⟨w.heap.size, 1, none⟩ = some (.slice (some ad) n c) := (hBx2.drewN r).cell 1
          have q0 : (wy.drewN r).cell? ⟨w3.heap.size, 0, none⟩ = some (.int .i64 Q) := (hCx2.drewN r).cell 0
          have q1 : (wy.drewN r).cell? ⟨w3.heap.size, 1, none⟩ = some (.slice A3 m3 c3) := (hCx2.drewN r).cell 1
          have hT := hTx2.drewN r
          have hbr := bel_drewN hbx2 r
          generalize hw : wy.drewN r = wr at *
          have hw := Lib.hid hw
          rcases Nat.lt_or_ge k n with hlt | hge
          · obtain ⟨ad', x, he, hcx, hx⟩ := hr.at_ hlt
            injection he with he
            subst he
            have i1 : (k : Int) < (n : Int) := by omega
            have hs := Lib.hid (show ∀ y ∈ xs.take (k + 1), min a x ≤ y ∧ y ≤ max b x by
              intro y hy
              rw [take_snocD (by rw [hl.out]; exact hlt) hx.out, List.mem_append] at hy
              rcases hy with hy | hy
              · have := hab.out y hy; omega
              · simp at hy; omega)
            go_wp2
            go_quiet (fail)
            go_wp2
            go_roundw
            case rel => exact ⟨k + 1, r + nq, min a x, max b x, by go_num, hlt, by first | rfl | rw [if_min], by first | rfl | rw [if_max], hs.out, by rw [← hw.out]; exact dr_add wy r nq⟩
            case measure => simp [intOf]; omega
          · have hkn : k = n := by omega
            subst hkn
            have hall := hab.out
            rw [List.take_of_length_le (by rw [hl.out]; exact Nat.le_refl _)] at hall
            have hA := Lib.hid (ip_all (m := m3) hall (by rw [hl.out]; exact hz1) hU1 hD1)
            clear hall
            go_wp2_with fail
            refine (All_any _ _ _ _ _ _ _ hT).mono ?_
            rintro e w8 ⟨he, rfl⟩
            rw [hA.out] at he
            subst he
            go_wp2_with fail
            refine (known_any _).mono ?_
            rintro e w7 ⟨rfl, hb7⟩
            go_wp2
            go_ret
            exact ⟨rfl, hbr.trans (hb7.mono hbr.size)⟩

theorem steady_any (rate : Int) (A : Option Addr) (n c : Nat) (xs : List Int) (u d : Int) (w : World) (h : Sl .i64 w A n c xs) :
    Calls Try.prog 7 #[.agg #[.int .i64 rate, .slice A n c], .int .i64 u, .int .i64 d] w (YesT w) := by
  by_cases hn : n ≤ 2000 ∧ (okB 1 192000 rate && allB (-32768) 32767 xs) = true
  · by_cases hC : rsC rate xs u d = 0
    · exact st_ok rate A n c xs u d w h hn.1 hn.2 hC
    · exact st_err rate A n c xs u d w h hn.1 hn.2 hC
  · exact st_skip rate A n c xs u d w h hn
end Go.Proofs.Ytnkkbohfhinemaa
