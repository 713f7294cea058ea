import Derived.Test.YtbgihlfblmilmaaGreatDoorA5
import Derived.Test.YtbgihlfblmilmaaGreatDoorNum
import Derived.Laws.ResultCell
import Derived.Deep.Cut
namespace Go.Proofs.YtbgihlfblmilmaaGreatDoor.Fr
open Go.RowKit Num

theorem one_is (A : Option Addr) (n c : Nat) (xs : List Nat) (w : World) (h : Dg .u32 w A n c xs) (hn : Nrm xs) (x : Nat) (hx : Hid (vl (bs .u32) xs = x)) (b : Bool) (hb : decide (x = 1) = b) :
    Calls Tryz.prog 123 #[.slice A n c] w fun e w' => e = .returned (.bool b) ∧ w = w' :=
  (one_any A n c xs w h hn).mono fun e w' he => by rw [hx.out, hb] at he; exact he
theorem info_u32' : (Tryz.prog.info? 63).map (fun i => (i.zero, i.size, i.bytes)) = some (some (.int .u32 0), 1, 4) := info_u32

set_option maxHeartbeats 800000 in
set_option maxRecDepth 100000 in
theorem make1_any (neg : Bool) (A A' : Option Addr) (n c n' c' : Nat) (xs ys : List Nat) (w : World) (h : Dg .u32 w A n c xs) (h' : Dg .u32 w A' n' c' ys) (hn : n ≤ 900000) (hn' : n' ≤ 900000) :
    Calls Tryz.prog 77 #[.bool neg, .slice A n c, .slice A' n' c'] w (RetQ w neg (vl (bs .u32) xs) (dn (vl (bs .u32) ys)) (n + n' + 1)) := by
  have k1 := h.tr
  have k2 := h'.tr
  have hNx := nrm_tr xs
  have hNy := nrm_tr ys
  have HVx := Lib.hid (vl_tr (bs .u32) xs)
  have HVy := Lib.hid (vl_tr (bs .u32) ys)
  have hle := len_tl h.len
  have hle' := len_tl h'.len
  obtain ⟨i0, hi, hz0, hz1, hz2⟩ := info_parts info_u32
  go_enter Tryz.func77, Tryz.ntmps77
  have hB0 := Blk.new w 24 #[.bool false, .slice none 0 0, .slice none 0 0]
  have hw0 := (Below.refl w.heap.size w).alloc (Nat.le_refl _) (.cells #[.bool false, .slice none 0 0, .slice none 0 0] 24)
  go_wp2_with fail
  refine (trim_any _ _ _ _ _ (h.alloc _)).mono ?_
  rintro e w' ⟨rfl, rfl⟩
  go_wp2_with fail
  refine (trim_any _ _ _ _ _ (h'.alloc _)).mono ?_
  rintro e w' ⟨rfl, rfl⟩
  clear h h'
  have k1 := k1.alloc (.cells #[.bool false, .slice none 0 0, .slice none 0 0] 24)
  have k2 := k2.alloc (.cells #[.bool false, .slice none 0 0, .slice none 0 0] 24)
  generalize w.alloc (.cells #[.bool false, .slice none 0 0, .slice none 0 0] 24) = w1 at *
  generalize vl (bs .u32) xs = N at *
  generalize vl (bs .u32) ys = D at *
  generalize tr xs = us at *
  generalize tr ys = vs at *
  generalize tl xs = p at *
  generalize tl ys = q at *
  by_cases hp : p = 0
  · subst hp
    have hN0 : N = 0 := by rw [← HVx.out, List.eq_nil_of_length_eq_zero k1.len]; rfl
    have hc0 := hB0.cell 0
    have hc1 := hB0.cell 1
    have hc2 := hB0.cell 2
    have hf0 := hB0.frozen 0
    have hf1 := hB0.frozen 1
    have hf2 := hB0.frozen 2
    subst hN0
    go_wp2
    exact ret_frac rfl rfl (((hB0.set_ 0 (.bool false)).set_ 1 (.slice none 0 0)).set_ 2 (.slice none 0 0)) rfl
      ⟨_, rfl, ⟨_, _, by rw [cneg_zero], by rw [cnum_zero]; exact NV.mk (Dg.nil _ _) Nrm.nil rfl (Nat.zero_le _), by rw [cden_zero]; exact NV.mk (Dg.nil _ _) Nrm.nil rfl (Nat.zero_le _)⟩,
        ((hw0.setCell (p := ⟨w.heap.size, 0, none⟩) (Nat.le_refl _) _).setCell (p := ⟨w.heap.size, 1, none⟩) (Nat.le_refl _) _).setCell (p := ⟨w.heap.size, 2, none⟩) (Nat.le_refl _) _⟩
  · have hp0 : 0 < p := by omega
    have hN0 : 0 < N := by rw [← HVx.out]; exact hNx.pos (by decide) (by rw [k1.len]; exact hp0)
    have hpe : ((p : Int) == 0) = false := by rw [beq_eq_false_iff_ne]; omega
    clear hp
    have hE0 : 0 < dn D := by unfold dn; split <;> omega
    rcases (show q = 0 ∨ 0 < q by omega) with hq | hq
    all_goals
      first
        | (subst hq
           have hHe : Hid (dn D = 1) := by
             have hD0 : D = 0 := by rw [← HVy.out, List.eq_nil_of_length_eq_zero k2.len]; rfl
             rw [hD0]; rfl
           have k2 := (Dg.lit_one w1 63).alloc (.cells #[.int .u32 1] 63)
           have hDg := Dg.lit_one (w1.alloc (.cells #[.int .u32 1] 63)) 63
           rw [show (w1.alloc (.cells #[.int .u32 1] 63)).heap.size = w1.heap.size + 1 from by simp] at hDg
           have hD1 := (k1.alloc (.cells #[.int .u32 1] 63)).alloc (.cells #[.int .u32 1] 63)
           have hB1 := (hB0.alloc (.cells #[.int .u32 1] 63)).alloc (.cells #[.int .u32 1] 63)
           have hw1 := (hw0.alloc hw0.size (.cells #[.int .u32 1] 63)).alloc (by have := hw0.size; simp; omega) (.cells #[.int .u32 1] 63)
           have hNd := nrm_lit1
           have hvd : Hid (vl (bs .u32) [1] = dn D) := by rw [hHe.out]; exact vl_lit1 _
           have hqb : 1 ≤ n' + 1 := by omega
           go_upto_region 7 with fail
           generalize (w1.alloc (.cells #[.int .u32 1] 63)).alloc (.cells #[.int .u32 1] 63) = w2 at *)
        | (have hqe : ((q : Int) == 0) = false := by rw [beq_eq_false_iff_ne]; omega
           have hHe : Hid (dn D = D) := dn_pos (by rw [← HVy.out]; exact hNy.pos (by decide) (by rw [k2.len]; exact hq))
           have k2 := k2.alloc (.cells #[.int .u32 1] 63)
           have hDg := Dg.lit_one w1 63
           have hD1 := k1.alloc (.cells #[.int .u32 1] 63)
           have hB1 := hB0.alloc (.cells #[.int .u32 1] 63)
           have hw1 := hw0.alloc hw0.size (.cells #[.int .u32 1] 63)
           have hNd := hNy
           have hvd : Hid (vl (bs .u32) vs = dn D) := by rw [hHe.out]; exact HVy
           have hqb : q ≤ n' + 1 := by omega
           go_upto_region 7 with fail
           generalize w1.alloc (.cells #[.int .u32 1] 63) = w2 at *
           clear hHe)
    all_goals generalize dn D = E at *
    · have HE1 := hHe
      go_wp2_with fail
      refine (one_is _ _ _ _ _ k2 hNd E hvd true (decide_eq_true HE1.out)).mono ?_
      rintro e w' ⟨rfl, rfl⟩
      go_wp2_with fail
      refine (one_is _ _ _ _ _ hDg nrm_lit1 1 (vl_lit1 _) true rfl).mono ?_
      rintro e w' ⟨rfl, rfl⟩
      go_upto_region 12 with fail
      have hD8 := hD1
      have hN8 := hNx
      have hv8 := HVx
      have hE8 := k2
      have hNE8 := hNd
      have hvE8 := hvd
      have hB8 := hB1
      have hw8 := hw1
      have hlen8 := hp0
      obtain ⟨ad8, rfl, _⟩ := hD8.cell hlen8
      have hnews8 := Lib.hid (hD8.news hlen8)
      have hl8 := Lib.hid hD8.len
      have hlt8 := hB8.lt
      go_wp2_with (at_builtin; refine wpList_append_own _ rfl _ _ 22 rfl (w2).heap.size 63 i0 (.int .u32 0) 1 4 Tryz.underlying22 hi hz0 hz1 hz2 rfl (by decide) _ _ _ rfl (World.ownsRow_nil _ _ _ _) ad8 _ _ (dcs .u32 _) rfl ?c1 hnews8.out (oneCell_dcs _ _) ?c3 ?c4 (Nat.le_refl _) ?_)
      case c1 => rw [dcs_len, hl8.out]; simp
      case c3 => unfold maxLen; omega
      case c4 => omega
      intro v9 w9 hown9 hg9 _
      have hb9 : Below (w2).heap.size (w2) w9 := bel_grown hg9
      obtain ⟨A9, c9, rfl, hD9⟩ := Dg.of_own hown9 hD8.ok
      have hf9 := Lib.hid (own_fresh hown9)
      have hB9 := hB8.below hb9
      have hE9 := hE8.below hb9
      have hw9 := hw8.trans (hb9.mono hw8.size)
      clear hown9 hg9 hb9 hnews8
      have hBo := Blk.new w9 24 #[.bool neg, .slice A9 p c9, .slice none 0 0]
      have hB9 := hB9.alloc (.cells #[.bool neg, .slice A9 p c9, .slice none 0 0] 24)
      have hD9 := hD9.alloc (.cells #[.bool neg, .slice A9 p c9, .slice none 0 0] 24)
      have hE9 := hE9.alloc (.cells #[.bool neg, .slice A9 p c9, .slice none 0 0] 24)
      have hw9 := hw9.alloc hw9.size (.cells #[.bool neg, .slice A9 p c9, .slice none 0 0] 24)
      go_wp2_with fail
      generalize w9.alloc (.cells #[.bool neg, .slice A9 p c9, .slice none 0 0] 24) = w10 at *
      refine (one_is _ _ _ _ _ hE9 hNE8 _ hvE8 true (decide_eq_true (by exact HE1.out))).mono ?_
      rintro e w' ⟨rfl, rfl⟩
      have c0 := hB9.cell 0
      have c1 := hB9.cell 1
      have c2 := hB9.cell 2
      have f0 := hB9.frozen 0
      have f1 := hB9.frozen 1
      have f2 := hB9.frozen 2
      have o0 : w10.cell? ⟨w9.heap.size, 0, none⟩ = some (.bool neg) := hBo.cell 0
      have o1 : w10.cell? ⟨w9.heap.size, 1, none⟩ = some (.slice A9 p c9) := hBo.cell 1
      have o2 : w10.cell? ⟨w9.heap.size, 2, none⟩ = some (.slice none 0 0) := hBo.cell 2
      have hff : ∀ ad, A9 = some ad → w.heap.size < ad.block := fun ad he => Nat.lt_of_lt_of_le hlt8 (hf9.out ad he)
      have Hff := Lib.hid hff
      clear hff
      go_wp2
      exact ret_frac rfl rfl (((hB9.set_ 0 (.bool neg)).set_ 1 (.slice A9 p c9)).set_ 2 (.slice none 0 0)) rfl
        ⟨_, rfl, ⟨_, _, by rw [cneg_pos _ hN0], nv_far3 hD9 hN8 (by show _ = _; unfold cnum; rw [HE1.out, Nat.gcd_one_right, Nat.div_one]; exact hv8.out) (by omega) Hff.out _ _ _, by rw [cden_one hN0 (by rw [HE1.out]; simp)]; exact NV.mk (Dg.nil _ _) Nrm.nil rfl (Nat.zero_le _)⟩, bel_set3 hw9 (Nat.le_refl _) _ _ _⟩
    · by_cases hE1 : E = 1
      · have HE1 := Lib.hid hE1
        clear hE1
        go_wp2_with fail
        refine (one_is _ _ _ _ _ k2 hNd E hvd true (decide_eq_true HE1.out)).mono ?_
        rintro e w' ⟨rfl, rfl⟩
        go_wp2_with fail
        refine (one_is _ _ _ _ _ hDg nrm_lit1 1 (vl_lit1 _) true rfl).mono ?_
        rintro e w' ⟨rfl, rfl⟩
        go_upto_region 12 with fail
        have hD8 := hD1
        have hN8 := hNx
        have hv8 := HVx
        have hE8 := k2
        have hNE8 := hNd
        have hvE8 := hvd
        have hB8 := hB1
        have hw8 := hw1
        have hlen8 := hp0
        obtain ⟨ad8, rfl, _⟩ := hD8.cell hlen8
        have hnews8 := Lib.hid (hD8.news hlen8)
        have hl8 := Lib.hid hD8.len
        have hlt8 := hB8.lt
        go_wp2_with (at_builtin; refine wpList_append_own _ rfl _ _ 22 rfl (w2).heap.size 63 i0 (.int .u32 0) 1 4 Tryz.underlying22 hi hz0 hz1 hz2 rfl (by decide) _ _ _ rfl (World.ownsRow_nil _ _ _ _) ad8 _ _ (dcs .u32 _) rfl ?c1 hnews8.out (oneCell_dcs _ _) ?c3 ?c4 (Nat.le_refl _) ?_)
        case c1 => rw [dcs_len, hl8.out]; simp
        case c3 => unfold maxLen; omega
        case c4 => omega
        intro v9 w9 hown9 hg9 _
        have hb9 : Below (w2).heap.size (w2) w9 := bel_grown hg9
        obtain ⟨A9, c9, rfl, hD9⟩ := Dg.of_own hown9 hD8.ok
        have hf9 := Lib.hid (own_fresh hown9)
        have hB9 := hB8.below hb9
        have hE9 := hE8.below hb9
        have hw9 := hw8.trans (hb9.mono hw8.size)
        clear hown9 hg9 hb9 hnews8
        have hBo := Blk.new w9 24 #[.bool neg, .slice A9 p c9, .slice none 0 0]
        have hB9 := hB9.alloc (.cells #[.bool neg, .slice A9 p c9, .slice none 0 0] 24)
        have hD9 := hD9.alloc (.cells #[.bool neg, .slice A9 p c9, .slice none 0 0] 24)
        have hE9 := hE9.alloc (.cells #[.bool neg, .slice A9 p c9, .slice none 0 0] 24)
        have hw9 := hw9.alloc hw9.size (.cells #[.bool neg, .slice A9 p c9, .slice none 0 0] 24)
        go_wp2_with fail
        generalize w9.alloc (.cells #[.bool neg, .slice A9 p c9, .slice none 0 0] 24) = w10 at *
        refine (one_is _ _ _ _ _ hE9 hNE8 _ hvE8 true (decide_eq_true (by exact HE1.out))).mono ?_
        rintro e w' ⟨rfl, rfl⟩
        have c0 := hB9.cell 0
        have c1 := hB9.cell 1
        have c2 := hB9.cell 2
        have f0 := hB9.frozen 0
        have f1 := hB9.frozen 1
        have f2 := hB9.frozen 2
        have o0 : w10.cell? ⟨w9.heap.size, 0, none⟩ = some (.bool neg) := hBo.cell 0
        have o1 : w10.cell? ⟨w9.heap.size, 1, none⟩ = some (.slice A9 p c9) := hBo.cell 1
        have o2 : w10.cell? ⟨w9.heap.size, 2, none⟩ = some (.slice none 0 0) := hBo.cell 2
        have hff : ∀ ad, A9 = some ad → w.heap.size < ad.block := fun ad he => Nat.lt_of_lt_of_le hlt8 (hf9.out ad he)
        have Hff := Lib.hid hff
        clear hff
        go_wp2
        exact ret_frac rfl rfl (((hB9.set_ 0 (.bool neg)).set_ 1 (.slice A9 p c9)).set_ 2 (.slice none 0 0)) rfl
          ⟨_, rfl, ⟨_, _, by rw [cneg_pos _ hN0], nv_far3 hD9 hN8 (by show _ = _; unfold cnum; rw [HE1.out, Nat.gcd_one_right, Nat.div_one]; exact hv8.out) (by omega) Hff.out _ _ _, by rw [cden_one hN0 (by rw [HE1.out]; simp)]; exact NV.mk (Dg.nil _ _) Nrm.nil rfl (Nat.zero_le _)⟩, bel_set3 hw9 (Nat.le_refl _) _ _ _⟩
      · have HE1 := Lib.hid hE1
        clear hE1
        go_wp2_with fail
        refine (one_is _ _ _ _ _ k2 hNd E hvd false (decide_eq_false HE1.out)).mono ?_
        rintro e w' ⟨rfl, rfl⟩
        by_cases hN1 : N = 1
        · have HN1 := Lib.hid hN1
          clear hN1
          go_wp2_with fail
          refine (one_is _ _ _ _ _ hD1 hNx N HVx true (decide_eq_true HN1.out)).mono ?_
          rintro e w' ⟨rfl, rfl⟩
          go_wp2_with fail
          refine (one_is _ _ _ _ _ hDg nrm_lit1 1 (vl_lit1 _) true rfl).mono ?_
          rintro e w' ⟨rfl, rfl⟩
          go_upto_region 12 with fail
          have hD8 := hD1
          have hN8 := hNx
          have hv8 := HVx
          have hE8 := k2
          have hNE8 := hNd
          have hvE8 := hvd
          have hB8 := hB1
          have hw8 := hw1
          have hlen8 := hp0
          obtain ⟨ad8, rfl, _⟩ := hD8.cell hlen8
          have hnews8 := Lib.hid (hD8.news hlen8)
          have hl8 := Lib.hid hD8.len
          have hlt8 := hB8.lt
          go_wp2_with (at_builtin; refine wpList_append_own _ rfl _ _ 22 rfl (w2).heap.size 63 i0 (.int .u32 0) 1 4 Tryz.underlying22 hi hz0 hz1 hz2 rfl (by decide) _ _ _ rfl (World.ownsRow_nil _ _ _ _) ad8 _ _ (dcs .u32 _) rfl ?c1 hnews8.out (oneCell_dcs _ _) ?c3 ?c4 (Nat.le_refl _) ?_)
          case c1 => rw [dcs_len, hl8.out]; simp
          case c3 => unfold maxLen; omega
          case c4 => omega
          intro v9 w9 hown9 hg9 _
          have hb9 : Below (w2).heap.size (w2) w9 := bel_grown hg9
          obtain ⟨A9, c9, rfl, hD9⟩ := Dg.of_own hown9 hD8.ok
          have hf9 := Lib.hid (own_fresh hown9)
          have hB9 := hB8.below hb9
          have hE9 := hE8.below hb9
          have hw9 := hw8.trans (hb9.mono hw8.size)
          have hb9s := Lib.hid hb9.size
          clear hown9 hg9 hb9 hnews8
          have hBo := Blk.new w9 24 #[.bool neg, .slice A9 p c9, .slice none 0 0]
          have hB9 := hB9.alloc (.cells #[.bool neg, .slice A9 p c9, .slice none 0 0] 24)
          have hn9 := Lib.hid (hD9.blt hlen8)
          have hD9 := hD9.alloc (.cells #[.bool neg, .slice A9 p c9, .slice none 0 0] 24)
          have hE9 := hE9.alloc (.cells #[.bool neg, .slice A9 p c9, .slice none 0 0] 24)
          have hlt9 : w.heap.size < w9.heap.size := Nat.lt_of_lt_of_le hlt8 (hb9s.out)
          have hw9 := hw9.alloc hw9.size (.cells #[.bool neg, .slice A9 p c9, .slice none 0 0] 24)
          go_wp2_with fail
          generalize w9.alloc (.cells #[.bool neg, .slice A9 p c9, .slice none 0 0] 24) = w10 at *
          have hlt10 := hBo.lt
          refine (one_is _ _ _ _ _ hE9 hNE8 _ hvE8 false (decide_eq_false (by exact HE1.out))).mono ?_
          rintro e w' ⟨rfl, rfl⟩
          have hq8 := nz_len (show 0 < vl (bs .u32) _ by rw [hvE8.out]; exact hE0)
          rw [hE9.len] at hq8
          obtain ⟨ad10, rfl, _⟩ := hE9.cell hq8
          have hnews10 := Lib.hid (hE9.news hq8)
          have hl10 := Lib.hid hE9.len
          go_wp2_with (at_builtin; refine wpList_append_own _ rfl _ _ 22 rfl w10.heap.size 63 i0 (.int .u32 0) 1 4 Tryz.underlying22 hi hz0 hz1 hz2 rfl (by decide) _ _ _ rfl (World.ownsRow_nil _ _ _ _) ad10 _ _ (dcs .u32 _) rfl ?c6 hnews10.out (oneCell_dcs _ _) ?c7 ?c8 (Nat.le_refl _) ?_)
          case c6 => rw [dcs_len, hl10.out]; simp
          case c7 => unfold maxLen; omega
          case c8 => omega
          intro v11 w11 hown11 hg11 _
          have hb11 : Below w10.heap.size w10 w11 := bel_grown hg11
          obtain ⟨A11, c11, rfl, hD11⟩ := Dg.of_own hown11 hE9.ok
          have hf11 := Lib.hid (own_fresh hown11)
          have hB11 := hB9.below hb11
          have hBo11 := hBo.below hb11
          have hD9 := hD9.below hb11
          have hw11 := hw9.trans (hb11.mono hw9.size)
          clear hown11 hg11 hnews10
          have c0 := hB11.cell 0
          have c1 := hB11.cell 1
          have c2 := hB11.cell 2
          have f0 := hB11.frozen 0
          have f1 := hB11.frozen 1
          have f2 := hB11.frozen 2
          have o0 : w11.cell? ⟨w9.heap.size, 0, none⟩ = some (.bool neg) := hBo11.cell 0
          have o1 : w11.cell? ⟨w9.heap.size, 1, none⟩ = some (.slice A9 p c9) := hBo11.cell 1
          have o2 : w11.cell? ⟨w9.heap.size, 2, none⟩ = some (.slice none 0 0) := hBo11.cell 2
          have fo2 := hBo11.frozen 2
          have hne9 : w.heap.size ≠ w9.heap.size := by omega
          have Hff := Lib.hid (show ∀ ad, A9 = some ad → w.heap.size < ad.block from fun ad he => Nat.lt_of_lt_of_le hlt8 (hf9.out ad he))
          have Hf11 := Lib.hid (show ∀ ad, A11 = some ad → w9.heap.size < ad.block ∧ w.heap.size < ad.block from fun ad he => by have := hf11.out ad he; omega)
          go_wp2
          exact ret_frac rfl rfl ((((hB11.far (p := ⟨w9.heap.size, 2, none⟩) hne9 _).set_ 0 (.bool neg)).set_ 1 (.slice A9 p c9)).set_ 2 _) rfl
            ⟨_, rfl, ⟨_, _, by rw [cneg_pos _ hN0], nv_far3 (hD9.farn (fun ad he => by have := hn9.out ad he; omega) 2 _) hN8 (by show _ = _; unfold cnum; rw [HN1.out, Nat.gcd_one_left, Nat.div_one, ← HN1.out]; exact hv8.out) (by omega) Hff.out _ _ _, nv_far3 (hD11.far (fun ad he => (Hf11.out ad he).1) 2 _) hNE8 (by show _ = _; rw [cden_not hN0 (by rw [HN1.out, Nat.gcd_one_left, Nat.div_one]; exact HE1.out), HN1.out, Nat.gcd_one_left, Nat.div_one]; exact hvE8.out) (by omega) (fun ad he => (Hf11.out ad he).2) _ _ _⟩, bel_set3 (hw11.setCell (p := ⟨w9.heap.size, 2, none⟩) (by show _ ≤ w9.heap.size; omega) _) (Nat.le_refl _) _ _ _⟩
        · have HN1 := Lib.hid hN1
          clear hN1
          go_wp2_with fail
          refine (one_is _ _ _ _ _ hD1 hNx N HVx false (decide_eq_false HN1.out)).mono ?_
          rintro e w' ⟨rfl, rfl⟩
          go_wp2_with fail
          refine (gcd_any _ _ _ _ _ _ _ _ _ hD1 k2 hNx hNd (by omega) (by omega) (by rw [HVx.out]; exact hN0) (by rw [hvd.out]; exact hE0)).mono ?_
          rintro e w3 ⟨A3, m3, c3, us3, rfl, hD3, hN3, hv3, hm3, hb3⟩
          rw [HVx.out, hvd.out] at hv3
          by_cases hG1 : N.gcd E = 1
          · have HG1 := Lib.hid hG1
            clear hG1
            go_wp2_with fail
            refine (one_is _ _ _ _ _ hD3 hN3 _ hv3 true (decide_eq_true HG1.out)).mono ?_
            rintro e w' ⟨rfl, rfl⟩
            go_upto_region 12 with fail
            have hD8 := hD1.below hb3
            have hN8 := hNx
            have hv8 := HVx
            have hE8 := k2.below hb3
            have hNE8 := hNd
            have hvE8 := hvd
            have hB8 := hB1.below hb3
            have hw8 := hw1.trans (hb3.mono hw1.size)
            have hlen8 := hp0
            obtain ⟨ad8, rfl, _⟩ := hD8.cell hlen8
            have hnews8 := Lib.hid (hD8.news hlen8)
            have hl8 := Lib.hid hD8.len
            have hlt8 := hB8.lt
            go_wp2_with (at_builtin; refine wpList_append_own _ rfl _ _ 22 rfl (w3).heap.size 63 i0 (.int .u32 0) 1 4 Tryz.underlying22 hi hz0 hz1 hz2 rfl (by decide) _ _ _ rfl (World.ownsRow_nil _ _ _ _) ad8 _ _ (dcs .u32 _) rfl ?c1 hnews8.out (oneCell_dcs _ _) ?c3 ?c4 (Nat.le_refl _) ?_)
            case c1 => rw [dcs_len, hl8.out]; simp
            case c3 => unfold maxLen; omega
            case c4 => omega
            intro v9 w9 hown9 hg9 _
            have hb9 : Below (w3).heap.size (w3) w9 := bel_grown hg9
            obtain ⟨A9, c9, rfl, hD9⟩ := Dg.of_own hown9 hD8.ok
            have hf9 := Lib.hid (own_fresh hown9)
            have hB9 := hB8.below hb9
            have hE9 := hE8.below hb9
            have hw9 := hw8.trans (hb9.mono hw8.size)
            have hb9s := Lib.hid hb9.size
            clear hown9 hg9 hb9 hnews8
            have hBo := Blk.new w9 24 #[.bool neg, .slice A9 p c9, .slice none 0 0]
            have hB9 := hB9.alloc (.cells #[.bool neg, .slice A9 p c9, .slice none 0 0] 24)
            have hn9 := Lib.hid (hD9.blt hlen8)
            have hD9 := hD9.alloc (.cells #[.bool neg, .slice A9 p c9, .slice none 0 0] 24)
            have hE9 := hE9.alloc (.cells #[.bool neg, .slice A9 p c9, .slice none 0 0] 24)
            have hlt9 : w.heap.size < w9.heap.size := Nat.lt_of_lt_of_le hlt8 (hb9s.out)
            have hw9 := hw9.alloc hw9.size (.cells #[.bool neg, .slice A9 p c9, .slice none 0 0] 24)
            go_wp2_with fail
            generalize w9.alloc (.cells #[.bool neg, .slice A9 p c9, .slice none 0 0] 24) = w10 at *
            have hlt10 := hBo.lt
            refine (one_is _ _ _ _ _ hE9 hNE8 _ hvE8 false (decide_eq_false (by exact HE1.out))).mono ?_
            rintro e w' ⟨rfl, rfl⟩
            have hq8 := nz_len (show 0 < vl (bs .u32) _ by rw [hvE8.out]; exact hE0)
            rw [hE9.len] at hq8
            obtain ⟨ad10, rfl, _⟩ := hE9.cell hq8
            have hnews10 := Lib.hid (hE9.news hq8)
            have hl10 := Lib.hid hE9.len
            go_wp2_with (at_builtin; refine wpList_append_own _ rfl _ _ 22 rfl w10.heap.size 63 i0 (.int .u32 0) 1 4 Tryz.underlying22 hi hz0 hz1 hz2 rfl (by decide) _ _ _ rfl (World.ownsRow_nil _ _ _ _) ad10 _ _ (dcs .u32 _) rfl ?c6 hnews10.out (oneCell_dcs _ _) ?c7 ?c8 (Nat.le_refl _) ?_)
            case c6 => rw [dcs_len, hl10.out]; simp
            case c7 => unfold maxLen; omega
            case c8 => omega
            intro v11 w11 hown11 hg11 _
            have hb11 : Below w10.heap.size w10 w11 := bel_grown hg11
            obtain ⟨A11, c11, rfl, hD11⟩ := Dg.of_own hown11 hE9.ok
            have hf11 := Lib.hid (own_fresh hown11)
            have hB11 := hB9.below hb11
            have hBo11 := hBo.below hb11
            have hD9 := hD9.below hb11
            have hw11 := hw9.trans (hb11.mono hw9.size)
            clear hown11 hg11 hnews10
            have c0 := hB11.cell 0
            have c1 := hB11.cell 1
            have c2 := hB11.cell 2
            have f0 := hB11.frozen 0
            have f1 := hB11.frozen 1
            have f2 := hB11.frozen 2
            have o0 : w11.cell? ⟨w9.heap.size, 0, none⟩ = some (.bool neg) := hBo11.cell 0
            have o1 : w11.cell? ⟨w9.heap.size, 1, none⟩ = some (.slice A9 p c9) := hBo11.cell 1
            have o2 : w11.cell? ⟨w9.heap.size, 2, none⟩ = some (.slice none 0 0) := hBo11.cell 2
            have fo2 := hBo11.frozen 2
            have hne9 : w.heap.size ≠ w9.heap.size := by omega
            have Hff := Lib.hid (show ∀ ad, A9 = some ad → w.heap.size < ad.block from fun ad he => Nat.lt_of_lt_of_le hlt8 (hf9.out ad he))
            have Hf11 := Lib.hid (show ∀ ad, A11 = some ad → w9.heap.size < ad.block ∧ w.heap.size < ad.block from fun ad he => by have := hf11.out ad he; omega)
            go_wp2
            exact ret_frac rfl rfl ((((hB11.far (p := ⟨w9.heap.size, 2, none⟩) hne9 _).set_ 0 (.bool neg)).set_ 1 (.slice A9 p c9)).set_ 2 _) rfl
              ⟨_, rfl, ⟨_, _, by rw [cneg_pos _ hN0], nv_far3 (hD9.farn (fun ad he => by have := hn9.out ad he; omega) 2 _) hN8 (by show _ = _; unfold cnum; rw [HG1.out, Nat.div_one]; exact hv8.out) (by omega) Hff.out _ _ _, nv_far3 (hD11.far (fun ad he => (Hf11.out ad he).1) 2 _) hNE8 (by show _ = _; rw [cden_not hN0 (by rw [HG1.out, Nat.div_one]; exact HE1.out), HG1.out, Nat.div_one]; exact hvE8.out) (by omega) (fun ad he => (Hf11.out ad he).2) _ _ _⟩, bel_set3 (hw11.setCell (p := ⟨w9.heap.size, 2, none⟩) (by show _ ≤ w9.heap.size; omega) _) (Nat.le_refl _) _ _ _⟩
          · have HG1 := Lib.hid hG1
            clear hG1
            go_wp2_with fail
            refine (one_is _ _ _ _ _ hD3 hN3 _ hv3 false (decide_eq_false HG1.out)).mono ?_
            rintro e w' ⟨rfl, rfl⟩
            go_wp2_with fail
            refine (divide_any _ _ _ _ _ _ _ _ _ (hD1.below hb3) hD3 (by omega) (by omega) (by rw [hv3.out]; exact Nat.gcd_pos_of_pos_left _ hN0)).mono ?_
            rintro e w4 ⟨_, _, rfl, ⟨A4, m4, c4, us4, rfl, hD4, hN4, hv4, hm4⟩, ⟨A4', m4', c4', us4', rfl, hD4', hN4', hv4', hm4'⟩, hb4⟩
            rw [HVx.out, hv3.out] at hv4
            clear hD4' hN4' hv4'
            go_wp2_with fail
            refine (divide_any _ _ _ _ _ _ _ _ _ ((k2.below hb3).below hb4) (hD3.below hb4) (by omega) (by omega) (by rw [hv3.out]; exact Nat.gcd_pos_of_pos_left _ hN0)).mono ?_
            rintro e w5 ⟨_, _, rfl, ⟨A5, m5, c5, us5, rfl, hD5, hN5, hv5, hm5⟩, ⟨A5', m5', c5', us5', rfl, hD5', hN5', hv5', hm5'⟩, hb5⟩
            rw [hvd.out, hv3.out] at hv5
            clear hD5' hN5' hv5'
            have hB5 := ((hB1.below hb3).below hb4).below hb5
            have hw4 := (hw1.trans (hb3.mono hw1.size)).trans (hb4.mono (Nat.le_trans hw1.size hb3.size))
            have hw5 := hw4.trans (hb5.mono hw4.size)
            have hlen8 := nz_len (show 0 < vl (bs .u32) us4 by rw [hv4.out]; exact gcd_div_pos' hN0)
            rw [hD4.len] at hlen8
            go_upto_region 12 with fail
            have hD8 := hD4.below hb5
            have hN8 := hN4
            have hv8 := (show Hid (vl (bs .u32) us4 = cnum N E) from hv4)
            have hE8 := hD5
            have hNE8 := hN5
            have hvE8 := hv5
            have hB8 := hB5
            have hw8 := hw5
            obtain ⟨ad8, rfl, _⟩ := hD8.cell hlen8
            have hnews8 := Lib.hid (hD8.news hlen8)
            have hl8 := Lib.hid hD8.len
            have hlt8 := hB8.lt
            go_wp2_with (at_builtin; refine wpList_append_own _ rfl _ _ 22 rfl (w5).heap.size 63 i0 (.int .u32 0) 1 4 Tryz.underlying22 hi hz0 hz1 hz2 rfl (by decide) _ _ _ rfl (World.ownsRow_nil _ _ _ _) ad8 _ _ (dcs .u32 _) rfl ?c1 hnews8.out (oneCell_dcs _ _) ?c3 ?c4 (Nat.le_refl _) ?_)
            case c1 => rw [dcs_len, hl8.out]; simp
            case c3 => unfold maxLen; omega
            case c4 => omega
            intro v9 w9 hown9 hg9 _
            have hb9 : Below (w5).heap.size (w5) w9 := bel_grown hg9
            obtain ⟨A9, c9, rfl, hD9⟩ := Dg.of_own hown9 hD8.ok
            have hf9 := Lib.hid (own_fresh hown9)
            have hB9 := hB8.below hb9
            have hE9 := hE8.below hb9
            have hw9 := hw8.trans (hb9.mono hw8.size)
            have hb9s := Lib.hid hb9.size
            clear hown9 hg9 hb9 hnews8
            by_cases hK : E / N.gcd E = 1
            · have HK := Lib.hid hK
              clear hK
              have hBo := Blk.new w9 24 #[.bool neg, .slice A9 m4 c9, .slice none 0 0]
              have hB9 := hB9.alloc (.cells #[.bool neg, .slice A9 m4 c9, .slice none 0 0] 24)
              have hD9 := hD9.alloc (.cells #[.bool neg, .slice A9 m4 c9, .slice none 0 0] 24)
              have hE9 := hE9.alloc (.cells #[.bool neg, .slice A9 m4 c9, .slice none 0 0] 24)
              have hw9 := hw9.alloc hw9.size (.cells #[.bool neg, .slice A9 m4 c9, .slice none 0 0] 24)
              go_wp2_with fail
              generalize w9.alloc (.cells #[.bool neg, .slice A9 m4 c9, .slice none 0 0] 24) = w10 at *
              refine (one_is _ _ _ _ _ hE9 hNE8 _ hvE8 true (decide_eq_true (by exact HK.out))).mono ?_
              rintro e w' ⟨rfl, rfl⟩
              have c0 := hB9.cell 0
              have c1 := hB9.cell 1
              have c2 := hB9.cell 2
              have f0 := hB9.frozen 0
              have f1 := hB9.frozen 1
              have f2 := hB9.frozen 2
              have o0 : w10.cell? ⟨w9.heap.size, 0, none⟩ = some (.bool neg) := hBo.cell 0
              have o1 : w10.cell? ⟨w9.heap.size, 1, none⟩ = some (.slice A9 m4 c9) := hBo.cell 1
              have o2 : w10.cell? ⟨w9.heap.size, 2, none⟩ = some (.slice none 0 0) := hBo.cell 2
              have hff : ∀ ad, A9 = some ad → w.heap.size < ad.block := fun ad he => Nat.lt_of_lt_of_le hlt8 (hf9.out ad he)
              have Hff := Lib.hid hff
              clear hff
              go_wp2
              exact ret_frac rfl rfl (((hB9.set_ 0 (.bool neg)).set_ 1 (.slice A9 m4 c9)).set_ 2 (.slice none 0 0)) rfl
                ⟨_, rfl, ⟨_, _, by rw [cneg_pos _ hN0], nv_far3 hD9 hN8 (by exact hv8) (by omega) Hff.out _ _ _, by rw [cden_one hN0 HK.out]; exact NV.mk (Dg.nil _ _) Nrm.nil rfl (Nat.zero_le _)⟩, bel_set3 hw9 (Nat.le_refl _) _ _ _⟩
            · have HK := Lib.hid hK
              clear hK
              have hBo := Blk.new w9 24 #[.bool neg, .slice A9 m4 c9, .slice none 0 0]
              have hB9 := hB9.alloc (.cells #[.bool neg, .slice A9 m4 c9, .slice none 0 0] 24)
              have hn9 := Lib.hid (hD9.blt hlen8)
              have hD9 := hD9.alloc (.cells #[.bool neg, .slice A9 m4 c9, .slice none 0 0] 24)
              have hE9 := hE9.alloc (.cells #[.bool neg, .slice A9 m4 c9, .slice none 0 0] 24)
              have hlt9 : w.heap.size < w9.heap.size := Nat.lt_of_lt_of_le hlt8 (hb9s.out)
              have hw9 := hw9.alloc hw9.size (.cells #[.bool neg, .slice A9 m4 c9, .slice none 0 0] 24)
              go_wp2_with fail
              generalize w9.alloc (.cells #[.bool neg, .slice A9 m4 c9, .slice none 0 0] 24) = w10 at *
              have hlt10 := hBo.lt
              refine (one_is _ _ _ _ _ hE9 hNE8 _ hvE8 false (decide_eq_false (by exact HK.out))).mono ?_
              rintro e w' ⟨rfl, rfl⟩
              have hq8 := nz_len (show 0 < vl (bs .u32) _ by rw [hvE8.out]; exact gcd_div_pos hE0)
              rw [hE9.len] at hq8
              obtain ⟨ad10, rfl, _⟩ := hE9.cell hq8
              have hnews10 := Lib.hid (hE9.news hq8)
              have hl10 := Lib.hid hE9.len
              go_wp2_with (at_builtin; refine wpList_append_own _ rfl _ _ 22 rfl w10.heap.size 63 i0 (.int .u32 0) 1 4 Tryz.underlying22 hi hz0 hz1 hz2 rfl (by decide) _ _ _ rfl (World.ownsRow_nil _ _ _ _) ad10 _ _ (dcs .u32 _) rfl ?c6 hnews10.out (oneCell_dcs _ _) ?c7 ?c8 (Nat.le_refl _) ?_)
              case c6 => rw [dcs_len, hl10.out]; simp
              case c7 => unfold maxLen; omega
              case c8 => omega
              intro v11 w11 hown11 hg11 _
              have hb11 : Below w10.heap.size w10 w11 := bel_grown hg11
              obtain ⟨A11, c11, rfl, hD11⟩ := Dg.of_own hown11 hE9.ok
              have hf11 := Lib.hid (own_fresh hown11)
              have hB11 := hB9.below hb11
              have hBo11 := hBo.below hb11
              have hD9 := hD9.below hb11
              have hw11 := hw9.trans (hb11.mono hw9.size)
              clear hown11 hg11 hnews10
              have c0 := hB11.cell 0
              have c1 := hB11.cell 1
              have c2 := hB11.cell 2
              have f0 := hB11.frozen 0
              have f1 := hB11.frozen 1
              have f2 := hB11.frozen 2
              have o0 : w11.cell? ⟨w9.heap.size, 0, none⟩ = some (.bool neg) := hBo11.cell 0
              have o1 : w11.cell? ⟨w9.heap.size, 1, none⟩ = some (.slice A9 m4 c9) := hBo11.cell 1
              have o2 : w11.cell? ⟨w9.heap.size, 2, none⟩ = some (.slice none 0 0) := hBo11.cell 2
              have fo2 := hBo11.frozen 2
              have hne9 : w.heap.size ≠ w9.heap.size := by omega
              have Hff := Lib.hid (show ∀ ad, A9 = some ad → w.heap.size < ad.block from fun ad he => Nat.lt_of_lt_of_le hlt8 (hf9.out ad he))
              have Hf11 := Lib.hid (show ∀ ad, A11 = some ad → w9.heap.size < ad.block ∧ w.heap.size < ad.block from fun ad he => by have := hf11.out ad he; omega)
              go_wp2
              exact ret_frac rfl rfl ((((hB11.far (p := ⟨w9.heap.size, 2, none⟩) hne9 _).set_ 0 (.bool neg)).set_ 1 (.slice A9 m4 c9)).set_ 2 _) rfl
                ⟨_, rfl, ⟨_, _, by rw [cneg_pos _ hN0], nv_far3 (hD9.farn (fun ad he => by have := hn9.out ad he; omega) 2 _) hN8 (by exact hv8) (by omega) Hff.out _ _ _, nv_far3 (hD11.far (fun ad he => (Hf11.out ad he).1) 2 _) hNE8 (by show _ = _; rw [cden_not hN0 HK.out]; exact hvE8.out) (by omega) (fun ad he => (Hf11.out ad he).2) _ _ _⟩, bel_set3 (hw11.setCell (p := ⟨w9.heap.size, 2, none⟩) (by show _ ≤ w9.heap.size; omega) _) (Nat.le_refl _) _ _ _⟩
end Go.Proofs.YtbgihlfblmilmaaGreatDoor.Fr
