/- Seeds: the program's. -/
import Derived.Test.YtoljffghaklpdaaGreatDoorPY
import Derived.Test.YtoljffghaklpdaaGreatDoorHM
import Derived.Deep.RegionHeld3
namespace Go.Proofs.YtoljffghaklpdaaGreatDoor
open Go.RowKit

abbrev ldH (t : TypeId) (x : Operand) : Op := Op.load t x
theorem fs_congr {f g : Nat → Int} : ∀ n, (∀ i, i < n → f i = g i) → 1 ≤ n → fs f n = fs g n := by
  intro n
  induction n with
  | zero => intro _ h; omega
  | succ n ih =>
    intro h _
    rw [fs_succ, fs_succ]
    rcases Nat.eq_zero_or_pos n with h0 | h0
    · subst h0
      have e1 : (if f (fs f 0) < f 0 then 0 else fs f 0) = 0 := by split <;> rfl
      have e2 : (if g (fs g 0) < g 0 then 0 else fs g 0) = 0 := by split <;> rfl
      rw [e1, e2]
    · have e := ih (fun i hi => h i (by omega)) h0
      have h1 := (fs_prop g n h0).1
      rw [e, h n (by omega), h _ (by omega)]
theorem sd_vec {m : Nat} {vs : List (List Int)} (hv : VecS m vs) (hn : 1 ≤ vs.length) : ∀ j, VecS m (sdS vs j) := by
  intro j
  induction j with
  | zero => intro u hu; rw [sdS] at hu; simp at hu
  | succ j ih =>
    intro u hu
    rw [sdS_succ] at hu
    rcases List.mem_append.1 hu with h | h
    · exact ih u h
    · simp only [List.mem_singleton] at h
      rw [h]
      exact hv _ (mem_getD (sdN_lt vs j hn))

set_option maxHeartbeats 1600000 in
theorem Seeds_bad (A : Option Addr) (N c : Nat) (k : Int) (vs : List (List Int)) (w : World) (h : Rr w A N c vs) (h0 : chk1 vs ≠ 0) :
    Calls Tryz.prog 26 #[.slice A N c, .int .i64 k] w (RetN w (chk1 vs)) := by
  have hne : (chk1 vs != 0) = true := by simp [h0]
  have hne2 : (chk1 vs == 0) = false := by simp [h0]
  go_enter Tryz.func26, Tryz.ntmps26
  go_wp2_with fail
  refine (check1_any w A N c vs h).mono ?_
  rintro e w1 ⟨rfl, hb1⟩
  generalize chk1 vs = q at *
  go_wp2
  go_ret2
  exact ⟨rfl, hb1⟩
set_option maxHeartbeats 1600000 in
theorem Seeds_arg (A : Option Addr) (N c : Nat) (k : Int) (vs : List (List Int)) (w : World) (h : Rr w A N c vs) (h0 : chk1 vs = 0) (hk : N = 0 ∨ okB 1 256 k = false) :
    Calls Tryz.prog 26 #[.slice A N c, .int .i64 k] w (RetN w 2) := by
  have h0 := Lib.hid h0
  rcases Nat.eq_zero_or_pos N with hz | hz
  · subst hz
    clear hk
    go_enter Tryz.func26, Tryz.ntmps26
    go_wp2_with fail
    refine (check1_any w A 0 c vs h).mono ?_
    rintro e w1 ⟨rfl, hb1⟩
    rw [h0.out]
    go_wp2
    go_ret2
    exact ⟨rfl, hb1⟩
  · have hk := hk.resolve_left (by omega)
    have hN0 : ((N : Int) == 0) = false := by rw [beq_eq_false_iff_ne]; omega
    have hN1 : ¬ N = 0 := by omega
    have hW := fun w9 => within_any k 1 256 w9
    rw [hk] at hW
    have hW := Lib.hid hW
    clear hk
    go_enter Tryz.func26, Tryz.ntmps26
    go_wp2_with fail
    refine (check1_any w A N c vs h).mono ?_
    rintro e w1 ⟨rfl, hb1⟩
    rw [h0.out]
    go_wp2_with fail
    refine (hW.out w1).mono ?_
    rintro e w2 ⟨rfl, rfl⟩
    go_wp2
    go_ret2
    exact ⟨rfl, hb1⟩

set_option maxHeartbeats 6400000 in
set_option maxRecDepth 100000 in
theorem Seeds_any (A : Option Addr) (N c K : Nat) (vs : List (List Int)) (w : World) (h : Rr w A N c vs) (h0 : chk1 vs = 0) (hN : 1 ≤ N) (hK1 : 1 ≤ K) (hK2 : K ≤ 256) :
    Calls Tryz.prog 26 #[.slice A N c, .int .i64 (K : Int)] w fun e w' => ∃ j, SdP vs K j ∧ Ret2B w j (sdS vs j) e w' := by
  have hl := Lib.hid h.len
  have hcap := h.cap
  have htop := h.top
  obtain ⟨k1, k2, k3⟩ := chk1_ok h0
  rw [hl.out] at k1 k3
  have hm1 := (k3 hN).1
  have hm2 := (k3 hN).2
  obtain ⟨m, hm⟩ : ∃ m, (vs.headD []).length = m := ⟨_, rfl⟩
  rw [hm] at k2 hm1 hm2
  have hsv := Lib.hid (fun j => sd_vec k2 (by rw [hl.out]; exact hN) j)
  have k2 := Lib.hid k2
  clear k3 hm
  have h0 := Lib.hid h0
  have hnx := Lib.hid (fun j => show sdN vs j < N by have := sdN_lt vs j (by rw [hl.out]; exact hN); rw [hl.out] at this; exact this)
  have hN0 : ((N : Int) == 0) = false := by rw [beq_eq_false_iff_ne]; omega
  have hN1 : ¬ N = 0 := by omega
  have hW := fun w9 => within_any (K : Int) 1 256 w9
  rw [show okB 1 256 (K : Int) = true by rw [okB_iff]; omega] at hW
  have hW := Lib.hid hW
  obtain ⟨i0, hi, hz0, hz1, hz2⟩ := info_parts info_sl
  go_enter Tryz.func26, Tryz.ntmps26
  go_wp2_with fail
  refine (check1_any w A N c vs h).mono ?_
  rintro e w1 ⟨rfl, hb1⟩
  rw [h0.out]
  go_wp2_with fail
  refine (hW.out w1).mono ?_
  rintro e w2 ⟨rfl, hw2⟩
  rw [← hw2]
  clear hw2
  have hlit : Sl .i64 (w1.alloc (.cells #[.int .i64 9223372036854775807] 3)) (some ⟨w1.heap.size, 0, none⟩) 1 1 [9223372036854775807] := (Mk.new w1 3 .i64 [9223372036854775807]).sl rfl (by decide)
  have hb2 := hb1.alloc hb1.size (.cells #[.int .i64 9223372036854775807] 3)
  go_wp2_with fail
  refine (Repeat_any _ _ N _ hlit hN k1).mono ?_
  rintro e w3 ⟨g, rfl, hM, hb23, hg⟩
  have hb3 := hb2.trans (hb23.mono hb2.size)
  have hgw : w.heap.size ≤ g := Nat.le_trans hb2.size hg
  have hM : Mk w3 g 3 .i64 (tab N (sdD vs 0)) := by
    have e : List.replicate N (9223372036854775807 : Int) = tab N (sdD vs 0) := by
      apply List.ext_getElem
      · rw [List.length_replicate, tab_len]
      · intro i a1 a2
        have a3 := tab_getD (f := sdD vs 0) (n := N) (i := i) (by rw [tab_len] at a2; exact a2)
        rw [getD_in a2] at a3
        rw [a3, List.getElem_replicate]; rfl
    rw [← e]; exact hM
  have hgl := hM.lt
  clear hlit hb23 hb2
  go_wp2
  go_loopw [8, 9] (fun ov nv wr' => ∃ (j : Nat) (V : Value) (news : List Value) (wr : World), wr = wr' ∧ nv = .int .i64 (sdN vs j : Nat) ∧ V = ov ∧ j ≤ K ∧ wr.ownsRow w3.heap.size 28 1 V j news ∧ RowL w news (sdS vs j) ∧ Mk wr g 3 .i64 (tab N (sdD vs j)) ∧ Hid (∀ i, i < j → 0 < sdD vs i (sdN vs i)) ∧ Below w.heap.size w wr ∧ w3.heap.size ≤ wr.heap.size) (fun ov _ _ => match ov with | .slice _ n _ => K - n | _ => 0)
  case atStart => exact ⟨0, _, [], _, rfl, rfl, rfl, Nat.zero_le _, World.ownsRow_nil _ _ _ _, by rw [sdS]; exact RowL.nil _, hM, fun i hi => absurd hi (Nat.not_lt_zero i), hb3, Nat.le_refl _⟩
  case round =>
    obtain ⟨j, V, news, wr, rfl, rfl, rfl, hjK, hown, hRow, hMr, hd, hbr, hsz⟩ := hrel
    obtain ⟨AV, cV, rfl⟩ := own_slice hown
    have hj1 := hnx.out j
    have hcell := hMr.cell (i := sdN vs j) (by rw [tab_len]; exact hj1)
    rw [tab_getD hj1] at hcell
    obtain ⟨nx, hnxe⟩ : ∃ nx, sdN vs j = nx := ⟨_, rfl⟩
    obtain ⟨dv, hdv⟩ : ∃ dv, sdD vs j nx = dv := ⟨_, rfl⟩
    rw [hnxe] at hj1 hcell ⊢
    rw [hdv] at hcell
    have i0' : (0 : Int) ≤ (nx : Int) := by omega
    have i1 : (nx : Int) < (N : Int) := by omega
    have hnn := sdD_nn vs j nx
    rw [hdv] at hnn
    have hnxe := Lib.hid hnxe
    have hdv := Lib.hid hdv
    rcases Nat.lt_or_ge j K with hlt | hge
    · rcases Int.lt_or_le 0 dv with hpos | hneg
      · have q1 : decide ((j : Int) < (K : Int)) = true := decide_eq_true (by omega)
        have q2 : decide (0 < dv) = true := decide_eq_true hpos
        have hd2 := Lib.hid (show ∀ i, i < j + 1 → 0 < sdD vs i (sdN vs i) from fun i hi9 => by
          rcases Nat.lt_or_ge i j with h9 | h9
          · exact hd.out i h9
          · rw [show i = j by omega, hnxe.out, hdv.out]; exact hpos)
        obtain ⟨ad, B, L, C, y, rfl, hc0, hy, hS, hB0, hL0⟩ := h.at_ hj1
        have hyv := Lib.hid (k2.out y (List.mem_of_getElem? hy.out))
        have hLm : L = m := by rw [← hS.len]; exact hyv.out.1
        subst hLm
        have hc := (hbr.cell (World.block_lt_of_cell? _ _ hc0)).trans hc0
        have hsrc := Lib.hid (src_lit wr 28 B L C)
        have hbz : w3.heap.size ≤ (wr.alloc (.cells #[.slice B L C] 28)).heap.size := by simp; omega
        have hrow := Lib.hid (fun q (hq : (Value.slice AV j cV).ownBlock = some q) => (hown.lt q hq).1)
        have hS2 := Lib.hid (show sdS vs (j + 1) = sdS vs j ++ [y] by rw [sdS_succ, hnxe.out, getD_some hy.out])
        have hRow2 := Lib.hid (hRow.app (RowL.one hS hB0 hL0))
        clear hRow
        go_wp2_with (at_builtin; refine wpList_append_any rfl (.tmp 43) (.tmp 48) 34 rfl w3.heap.size 28 i0 nilV 1 24 Tryz.underlying34 hi hz0 hz1 hz2 rfl (by decide) (.slice AV j cV) j news rfl (hown.alloc _) (some ⟨wr.heap.size, 0, none⟩) 1 1 [.slice B L C] rfl hsrc.out (by unfold maxLen; omega) (by omega) hbz ?_; intro V9 w4 g1 g2 g3; obtain ⟨A9, c9, rfl⟩ := own_slice g1)
        have hb4 : Below w3.heap.size wr w4 := ((Below.refl w3.heap.size wr).alloc hsz _).grown g2 hbz hrow.out
        have hbw4 : Below w.heap.size w w4 := hbr.trans (hb4.mono hb3.size)
        have hM4 : Mk w4 g 3 .i64 (tab N (sdD vs j)) := (hb4.block g hgl).trans hMr
        have hsz4 : w3.heap.size ≤ w4.heap.size := Nat.le_trans hsz hb4.size
        clear hb4 hown hMr hsrc g2 g3 hbr hc
        have hM5 : Mk w4 g 3 .i64 (upd N 0 (sdD vs j) (sdD vs (j + 1))) := by rw [upd_zero]; exact hM4
        go_wp2
        go_loopw [52] (fun tv wx' => ∃ (t : Nat) (wx : World), wx = wx' ∧ tv = .int .i64 t ∧ t ≤ N ∧ Mk wx g 3 .i64 (upd N t (sdD vs j) (sdD vs (j + 1))) ∧ wx.ownsRow w3.heap.size 28 1 (.slice A9 (j + 1) c9) (j + 1) (news ++ [.slice B L C]) ∧ Below w.heap.size w wx ∧ w3.heap.size ≤ wx.heap.size) (fun tv _ => N - (intOf tv).toNat)
        case atStart => exact ⟨0, _, rfl, rfl, Nat.zero_le _, hM5, g1, hbw4, hsz4⟩
        case round =>
          obtain ⟨t, wx, rfl, rfl, htN, hMx, hownx, hbwx, hszx⟩ := hrel
          have hcy := (hbwx.cell (World.block_lt_of_cell? _ _ hc0)).trans hc0
          rcases Nat.lt_or_ge t N with htl | htg
          · obtain ⟨ad2, B2, L2, C2, x, e2, hc2, hx, hSx, _⟩ := h.at_ htl
            injection e2 with e2
            subst e2
            have hxv := Lib.hid (k2.out x (List.mem_of_getElem? hx.out))
            have hL2 : L2 = L := by rw [← hSx.len]; exact hxv.out.1
            subst hL2
            have hcx := (hbwx.cell (World.block_lt_of_cell? _ _ hc2)).trans hc2
            have hct := hMx.cell (i := t) (by rw [upd_len]; exact htl)
            rw [upd_at htl] at hct
            obtain ⟨lv, hlv⟩ : ∃ lv, sdD vs j t = lv := ⟨_, rfl⟩
            obtain ⟨dd, hdd⟩ : ∃ dd, dist x y = dd := ⟨_, rfl⟩
            obtain ⟨mn, hmn⟩ : ∃ mn, min lv dd = mn := ⟨_, rfl⟩
            have hnew := Lib.hid (show sdD vs (j + 1) t = mn by
              rw [sdD_succ, hnxe.out, getD_some hx.out, getD_some hy.out, hlv, hdd, ← hmn]; split <;> omega)
            rw [hlv] at hct
            have hset := Lib.hid (show (upd N t (sdD vs j) (sdD vs (j + 1))).set t mn = upd N (t + 1) (sdD vs j) (sdD vs (j + 1)) by rw [← hnew.out]; exact upd_set htl _ _)
            have hdis := Lib.hid (fun (w9 : World) (h1 : Sl .i64 w9 B2 L2 C2 x) (h2 : Sl .i64 w9 B L2 C y) => show Calls Tryz.prog 80 #[.slice B2 L2 C2, .slice B L2 C] w9 (fun e w' => e = .returned (.int .i64 dd) ∧ Below w9.heap.size w9 w') from by
              have q := distance_any B2 B L2 C2 C x y w9 h1 h2 hB0 hm1 hm2 hxv.out.2 hyv.out.2
              rw [hdd] at q
              exact q)
            have hSxd : Sl .i64 wx.drew B2 L2 C2 x := (hSx.below hbwx).drew
            have hSyd : Sl .i64 wx.drew B L2 C y := (hS.below hbwx).drew
            have c1 : wx.drew.cell? ⟨g, t, none⟩ = some (.int .i64 lv) := hct
            have b0 := Below.refl wx.heap.size wx
            have b1 : Below wx.heap.size wx wx.drew := bel_drewN b0 1
            have hKeep := Lib.hid (fun (wz : World) (hb : Below wx.heap.size wx wz) => show wz.cell? (ad.add nx) = some (.slice B L2 C) from (hb.cell (World.block_lt_of_cell? _ _ hcy)).trans hcy)
            have j0 : (0 : Int) ≤ (t : Int) := by omega
            have j1 : (t : Int) < (N : Int) := by omega
            have hMd : Mk wx.drew g 3 .i64 (upd N t (sdD vs j) (sdD vs (j + 1))) := hMx
            have hglx := hMx.lt
            have hdd := Lib.hid hdd
            have hlv := Lib.hid hlv
            clear hct
            go_wp2
            rw [show Op.load 3 (Operand.tmp 61) = ldH 3 (Operand.tmp 61) from rfl]
            go_region_held3 (fun wz => wz.cell? (ad.add nx) = some (.slice B L2 C)) (first | exact hKeep.out _ b0 | exact hKeep.out _ b1 | exact hKeep.out _ b2 | exact K8.out _ | go_keep)
              (first
                | (go_at_call 80; refine (hdis.out _ hSxd hSyd).mono ?_; rintro e w6 ⟨rfl, hb6⟩; have b2 := b1.trans (hb6.mono b1.size); have hM6 := hMx.below b2; have c2 : w6.cell? ⟨g, t, none⟩ = some (.int .i64 lv) := ((b2.cell (p := ⟨g, t, none⟩) hglx).trans c1); have f2 := hM6.frozen t; have hM7 := hM6.set_ t mn; rw [hset.out] at hM7; have hM7 := Lib.hid hM7; have K8 := Lib.hid (fun v => show (w6.setCell ⟨g, t, none⟩ v).cell? (ad.add nx) = some (.slice B L2 C) from (World.cell?_setCell_other _ _ _ v (fun e => by have e3 := congrArg Addr.block e; have e4 := World.block_lt_of_cell? _ _ hc0; simp only [block_of_add] at e3 e4; omega)).trans (hKeep.out _ b2)); have hb7 := Lib.hid ((hbwx.trans (b2.mono hbwx.size)).setCell (p := ⟨g, t, none⟩) hgw (.int .i64 mn)); have hown7 := Lib.hid ((own_bel hownx b2).kept (grown_set w6 g t (.int .i64 mn)) (.inr (fun e => by have e3 := (hownx.lt g e).1; omega))); have hsz7 : w3.heap.size ≤ (w6.setCell ⟨g, t, none⟩ (.int .i64 mn)).heap.size := (by have := b2.size; simp; omega)))
            all_goals
              go_wp2
              go_roundw
              case rel => exact ⟨t + 1, _, rfl, by go_num, htl, hM7.out, hown7.out, hb7.out, hsz7⟩
              case measure => simp [intOf]; omega
          · have htN' : N = t := by omega
            subst htN'
            rw [upd_all] at hMx
            have hfs := Lib.hid (show fs (fun i => (tab N (sdD vs (j + 1))).getD i 0) N = sdN vs (j + 1) by
              unfold sdN
              rw [if_neg (by omega), hl.out]
              exact fs_congr N (fun i hi9 => tab_getD hi9) hN)
            go_wp2_with fail
            refine (farthest_any g N _ wx hMx (tab_len _ _) hN k1).mono ?_
            rintro e w6 ⟨rfl, hw6⟩
            rw [hfs.out, hw6]
            clear hw6
            go_wp2
            go_roundw
            case rel => exact ⟨j + 1, _, _, _, rfl, rfl, rfl, hlt, hownx, by rw [hS2.out]; exact hRow2.out, hMx, hd2.out, hbwx, hszx⟩
            case measure => simp only []; omega
      · have q1 : decide ((j : Int) < (K : Int)) = true := decide_eq_true (by omega)
        have q2 : decide (0 < dv) = false := decide_eq_false (by omega)
        have hstop := Lib.hid (show sdD vs j (sdN vs j) ≤ 0 by rw [hnxe.out, hdv.out]; exact hneg)
        have hRj := Rr.of_own hown (hRow.below hbr)
        obtain ⟨A9, c9, e9, hR9⟩ := hRj
        injection e9 with e91 e92 e93
        subst e91 e93
        go_wp2_with fail
        refine (copyVectors_any AV j cV m (sdS vs j) wr hR9 (by omega) hm1 hm2 (fun u h9 => (hsv.out j u h9).1)).mono ?_
        rintro e w5 ⟨g5, news5, rfl, hB5, hR5, hb5, hg5⟩
        have hRr := Rr.of_blk hB5 hR5 (sdS_len vs j) (by omega)
        go_wp2
        go_ret2
        exact ⟨j, ⟨hjK, hd.out, fun _ => hstop.out⟩, _, _, rfl, hRr, hbr.trans (hb5.mono hbr.size)⟩
    · have hjK' : K = j := by omega
      subst hjK'
      have hRj := Rr.of_own hown (hRow.below hbr)
      obtain ⟨A9, c9, e9, hR9⟩ := hRj
      injection e9 with e91 e92 e93
      subst e91 e93
      go_wp2_with fail
      refine (copyVectors_any AV K cV m (sdS vs K) wr hR9 (by omega) hm1 hm2 (fun u h9 => (hsv.out K u h9).1)).mono ?_
      rintro e w5 ⟨g5, news5, rfl, hB5, hR5, hb5, hg5⟩
      have hRr := Rr.of_blk hB5 hR5 (sdS_len vs K) (by omega)
      go_wp2
      go_ret2
      exact ⟨K, ⟨hjK, hd.out, fun e9 => absurd e9 (Nat.lt_irrefl _)⟩, _, _, rfl, hRr, hbr.trans (hb5.mono hbr.size)⟩
end Go.Proofs.YtoljffghaklpdaaGreatDoor
