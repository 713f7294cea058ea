/- What was packed and then kept badly: the law's walk. -/
import Derived.Test.YtnkkbohfhinemaaBA
import Derived.Test.YtnkkbohfhinemaaBB
import Derived.Test.YtnkkbohfhinemaaK3
import Derived.Test.YtnkkbohfhinemaaC2
namespace Go.Proofs.Ytnkkbohfhinemaa
open Go.RowKit

abbrev YesO (w : World) (e : Ending) (w' : World) : Prop := e = .returned (.bool true) ∧ Below w.heap.size w w'

set_option maxHeartbeats 1600000 in
set_option maxRecDepth 100000 in
theorem so_skip (rate : Int) (A : Option Addr) (n c : Nat) (xs : List Int) (at' by' : Int) (w : World) (h : Sl .i64 w A n c xs) (hn : ¬ (n ≤ 3000 ∧ (okB 1 192000 rate && allB (-32768) 32767 xs) = true)) :
    Calls Try.prog 5 #[.agg #[.int .i64 rate, .slice A n c], .int .i64 at', .int .u8 by'] w (YesO w) := by
  have hcap := h.cap
  have htop := h.top
  have hB1 := Blk.new w 24 #[.int .i64 rate, .slice A n c]
  have hb1 := (Below.refl w.heap.size w).alloc (Nat.le_refl _) (.cells #[.int .i64 rate, .slice A n c] 24)
  have h1 := h.below hb1
  rcases Nat.lt_or_ge 3000 n with h2 | h2
  · go_enter Try.func5, Try.ntmps5
    go_wp2_with fail
    refine (known_any _).mono ?_
    rintro e w7 ⟨rfl, hb7⟩
    go_wp2
    go_ret
    exact ⟨rfl, hb1.trans (hb7.mono hb1.size)⟩
  · have hv : (okB 1 192000 rate && allB (-32768) 32767 xs) = false := by
      cases hv : (okB 1 192000 rate && allB (-32768) 32767 xs) with
      | false => rfl
      | true => exact absurd ⟨h2, hv⟩ hn
    have hv := Lib.hid hv
    go_enter Try.func5, Try.ntmps5
    go_wp2_with fail
    refine (RValid_any _ _ _ _ _ _ h1 (by omega)).mono ?_
    rintro e w2 ⟨he, hb2⟩
    rw [hv.out] at he
    subst he
    have hb12 := hb1.trans (hb2.mono hb1.size)
    go_wp2_with fail
    refine (known_any _).mono ?_
    rintro e w7 ⟨rfl, hb7⟩
    go_wp2
    go_ret
    exact ⟨rfl, hb12.trans (hb7.mono hb12.size)⟩

set_option maxHeartbeats 1600000 in
set_option maxRecDepth 100000 in
theorem so_ok (rate : Int) (A : Option Addr) (n c : Nat) (xs : List Int) (at' by' : Int) (w : World) (h : Sl .i64 w A n c xs) (hn : n ≤ 3000) (hv : (okB 1 192000 rate && allB (-32768) 32767 xs) = true) (hbd : 0 ≤ by' ∧ by' ≤ 255) :
    Calls Try.prog 5 #[.agg #[.int .i64 rate, .slice A n c], .int .i64 at', .int .u8 by'] w (YesO w) := by
  have hcap := h.cap
  have htop := h.top
  have hlx := Lib.hid h.len
  have hB1 := Blk.new w 24 #[.int .i64 rate, .slice A n c]
  have hb1 := (Below.refl w.heap.size w).alloc (Nat.le_refl _) (.cells #[.int .i64 rate, .slice A n c] 24)
  have h1 := h.below hb1
  have hk : chkR rate xs = 0 := by
    rw [Bool.and_eq_true] at hv
    have hc : chk (-32768) 32767 xs = 0 := by
      unfold chk
      rw [if_neg (by rw [hlx.out]; omega), hv.2]
      rfl
    unfold chkR
    rw [hv.1, hc]
    rfl
  have hup := pk_up hk
  have hP := Lib.hid (fun (w9 : World) (h9 : Sl .i64 w9 A n c xs) => Pack_ok rate A n c xs w9 h9 hk)
  have hv := Lib.hid hv
  have hpb : byB (pkB rate xs) := by unfold pkB; exact byB_app (hdB_by _ _) (le_by _ _)
  generalize pkB rate xs = pb at *
  have hup := Lib.hid hup
  have hpb := Lib.hid hpb
  clear hk
  go_enter Try.func5, Try.ntmps5
  go_wp2_with fail
  generalize w.alloc (.cells #[.int .i64 rate, .slice A n c] 24) = w1 at *
  refine (RValid_any _ _ _ _ _ _ h1 (by omega)).mono ?_
  rintro e w2 ⟨he, hb2⟩
  rw [hv.out] at he
  subst he
  have hb12 := hb1.trans (hb2.mono hb1.size)
  have h2 := h1.below hb2
  have hB2 := hB1.below hb2
  have r0 := hB2.cell 0
  have r1 := hB2.cell 1
  go_wp2_with fail
  refine (hP.out _ h2).mono ?_
  rintro e w3 ⟨V3, rfl, hown3, hb3⟩
  obtain ⟨g3, c3, rfl, hg3, hlt3⟩ := hown3.form (by omega)
  have hb13 := hb12.trans (hb3.mono hb12.size)
  have h3 := h2.below hb3
  have hB3 := hB2.below hb3
  obtain ⟨A3, c3', hV3, hS3⟩ := Sl.of_own hown3
  cases hV3
  clear r0 r1
  have r0 := hB3.cell 0
  have r1 := hB3.cell 1
  have hc3 := hS3.cap
  have ht3 := hS3.top
  go_wp2_with fail
  refine (Unpack_any _ _ _ _ _ hS3 hpb.out).mono ?_
  rw [hup.out.2.1, hup.out.2.2.1, hup.out.2.2.2]
  rintro e w4 ⟨A4, m4, c4, rfl, hS4, hb4⟩
  clear r0 r1
  have hm4 : m4 = n := by rw [← hS4.len, hlx.out]
  subst hm4
  have hown4 := own_below hown3 hb4
  have hb14 := hb13.trans (hb4.mono hb13.size)
  have h5 := (h3.below hb4).alloc (.cells #[.int .i64 rate, .slice A4 m4 c4] 24)
  have hB5 := (hB3.below hb4).alloc (.cells #[.int .i64 rate, .slice A4 m4 c4] 24)
  have hS5 := hS4.alloc (.cells #[.int .i64 rate, .slice A4 m4 c4] 24)
  have hC5 := Blk.new w4 24 #[.int .i64 rate, .slice A4 m4 c4]
  have hb15 := hb14.alloc hb14.size (.cells #[.int .i64 rate, .slice A4 m4 c4] 24)
  clear hB1 h1 hB2 h2 h3 hB3
  have r0 : (w4.alloc (.cells #[.int .i64 rate, .slice A4 m4 c4] 24)).cell? ⟨w.heap.size, 0, none⟩ = some (.int .i64 rate) := hB5.cell 0
  have r1 : (w4.alloc (.cells #[.int .i64 rate, .slice A4 m4 c4] 24)).cell? ⟨w.heap.size, 1, none⟩ = some (.slice A m4 c) := hB5.cell 1
  have q0 : (w4.alloc (.cells #[.int .i64 rate, .slice A4 m4 c4] 24)).cell? ⟨w4.heap.size, 0, none⟩ = some (.int .i64 rate) := hC5.cell 0
  have q1 : (w4.alloc (.cells #[.int .i64 rate, .slice A4 m4 c4] 24)).cell? ⟨w4.heap.size, 1, none⟩ = some (.slice A4 m4 c4) := hC5.cell 1
  have hown5 := own_below hown4 ((Below.refl w4.heap.size w4).alloc (Nat.le_refl _) (.cells #[.int .i64 rate, .slice A4 m4 c4] 24))
  go_wp2_with fail
  refine (Same_any _ _ _ _ _ _ _ _ _ hS5 h5).mono ?_
  rintro e w6 ⟨k6, he, rfl⟩
  rw [sameB_yes rfl] at he
  subst he
  have hb6 := bel_drewN hb15 k6
  have hown6 := own_below hown5 (bel_drewN (Below.refl _ _) k6)
  clear r0 r1 q0 q1 h5 hB5 hS5 hC5 hown4 hown5
  generalize (w4.alloc (.cells #[.int .i64 rate, .slice A4 m4 c4] 24)).drewN k6 = w6 at *
  by_cases hbad : at' < 0 ∨ (16 + (m4 : Int) * 2) ≤ at' ∨ by' = 0
  · rcases Classical.em (at' < 0) with e1 | e1
    case' inr => rcases Classical.em ((16 + (m4 : Int) * 2) ≤ at') with e2 | e2
    case' inr.inr => (obtain rfl : by' = 0 := by omega)
    all_goals
      go_wp2_with fail
      refine (known_any _).mono ?_
      rintro e w7 ⟨rfl, hb7⟩
      go_wp2
      go_ret
      exact ⟨rfl, hb6.trans (hb7.mono hb6.size)⟩
  · obtain ⟨J, rfl⟩ : ∃ J : Nat, at' = (J : Int) := ⟨at'.toNat, by omega⟩
    have hJ : J < 16 + m4 * 2 := by omega
    have hby : by' ≠ 0 := by omega
    have hlp : pb.length = 16 + m4 * 2 := by have := hown6.1; rw [ivs_len] at this; omega
    have hbyb : (by' == 0) = false := by simpa using hby
    have hJ0 : (decide ((J : Int) < 0)) = false := by rw [decide_eq_false_iff_not]; omega
    have hcell : w6.cell? ⟨g3, J, none⟩ = some (.int .u8 (pb.getD J 0)) := by
      have hc := hown6.cells (g := g3) rfl J (.int .u8 (pb.getD J 0)) (by
        rw [getD_in (show J < pb.length by omega)]
        simp [ivs, show J < pb.length by omega])
      rw [show (Addr.mk g3 0 none).add J = ⟨g3, J, none⟩ by rcases J with _ | J <;> simp [Addr.add]] at hc
      exact hc
    have hfz : w6.frozen? ⟨g3, J, none⟩ = false := hown6.frozenAt J
    obtain ⟨x, hx⟩ : ∃ x, pb.getD J 0 = x := ⟨_, rfl⟩
    have hxb := byB_get hpb.out (show J < pb.length by omega) hx
    rw [hx] at hcell
    have hx := Lib.hid hx
    clear hbad
    go_wp2_with fail
    have hst : (w6.setCell ⟨g3, J, none⟩ (.int .u8 ((x + by') % 256))).ownsRow w2.heap.size 5 1 (.slice (some ⟨g3, 0, none⟩) (16 + m4 * 2) c3) (16 + m4 * 2) (ivs .u8 (pb.set J ((x + by') % 256))) := by
      have := (hown6.stored J (.int .u8 ((x + by') % 256))).1
      rw [show ivs .u8 (pb.set J ((x + by') % 256)) = (ivs .u8 pb).set J (.int .u8 ((x + by') % 256)) by simp [ivs, List.map_set]]
      exact this
    have hb7 := hb6.setCell (p := ⟨g3, J, none⟩) (show w.heap.size ≤ g3 by have := hb12.size; omega) (.int .u8 ((x + by') % 256))
    have hwf := wf_set hpb.out hup.out.1 (show J < pb.length by omega) (v := (x + by') % 256) (by omega) (by rw [hx.out]; omega)
    have hpb2 : byB (pb.set J ((x + by') % 256)) := fun b hb => by
      rcases List.mem_or_eq_of_mem_set hb with hb | hb
      · exact hpb.out b hb
      · omega
    have hC : upC (pb.set J ((x + by') % 256)) = 4 := by
      unfold upC
      rw [if_neg (by rw [List.length_set]; omega), if_neg (by unfold upOk; rw [hwf]; simp)]
    have hR : upR (pb.set J ((x + by') % 256)) = 0 := by unfold upR; rw [hC]; rfl
    have hL : upL (pb.set J ((x + by') % 256)) = [] := by unfold upL; rw [hC]; rfl
    obtain ⟨A7, c7, hV7, hS7⟩ := Sl.of_own hst
    cases hV7
    refine (Unpack_any _ _ _ _ _ hS7 hpb2).mono ?_
    rw [hC, hR, hL]
    rintro e w8 ⟨A8, m8, c8, rfl, hS8, hb8⟩
    have hm8 : m8 = 0 := hS8.len.symm
    subst hm8
    have hb18 := hb7.trans (hb8.mono hb7.size)
    have hb19 := hb18.alloc hb18.size (.cells #[.int .i64 0, .slice A8 0 c8] 24)
    go_wp2_with fail
    refine (known_any _).mono ?_
    rintro e w9 ⟨rfl, hb9⟩
    go_wp2
    go_ret
    exact ⟨rfl, hb19.trans (hb9.mono hb19.size)⟩

theorem stores_any (rate : Int) (A : Option Addr) (n c : Nat) (xs : List Int) (at' by' : Int) (w : World) (h : Sl .i64 w A n c xs) (hbd : 0 ≤ by' ∧ by' ≤ 255) :
    Calls Try.prog 5 #[.agg #[.int .i64 rate, .slice A n c], .int .i64 at', .int .u8 by'] w (YesO w) := by
  rcases Classical.em (n ≤ 3000 ∧ (okB 1 192000 rate && allB (-32768) 32767 xs) = true) with e | e
  · exact so_ok rate A n c xs at' by' w h e.1 e.2 hbd
  · exact so_skip rate A n c xs at' by' w h e
end Go.Proofs.Ytnkkbohfhinemaa
