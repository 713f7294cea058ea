/- What is packed is read back, as a recording whose list is made by the call. -/
import Derived.Test.YtoljffghaklpdaaGreatDoorZB9
import Derived.Test.YtoljffghaklpdaaGreatDoorHV
namespace Go.Proofs.YtoljffghaklpdaaGreatDoor
open Go.RowKit

def RetRecN (w : World) (rate : Int) (ys : List Int) (code : Int) (e : Ending) (w' : World) : Prop :=
  ∃ A m c, e = .returned (.tuple #[.agg #[.int .i64 rate, .slice A m c], .int .i64 code]) ∧ Sl .i64 w' A m c ys ∧ (A = none → c = 0) ∧ Below w.heap.size w w'

set_option maxHeartbeats 4000000 in
set_option maxRecDepth 100000 in
theorem Unpack_wfN (A : Option Addr) (n c q : Nat) (bs : List Int) (w : World) (h : Sl .u8 w A n c bs) (hb : byB bs) (hn : n ≤ 500000) (hwf : wfB bs = true) (hq : n = 16 + 2 * q) :
    Calls Tryz.prog 36 #[.slice A n c] w (RetRecN w (uR (rd (bs.drop 4) 4) (tab q (spA bs))) (uL (rd (bs.drop 4) 4) (tab q (spA bs))) (uC (rd (bs.drop 4) 4) (tab q (spA bs)))) := by
  obtain ⟨i0, hi, hz0, hz1, hz2⟩ := info_parts info_int
  have hl := Lib.hid h.len
  have hcap := h.cap
  have htop := h.top
  obtain ⟨ad, x, rfl, _, _⟩ := h.at_ (show 0 < n by omega)
  have hb := Lib.hid hb
  have hwf := Lib.hid hwf
  have hc4 : ¬ c = 4 := by omega
  have hn4 : (n : Int) - 4 = 12 + 2 * (q : Int) := by omega
  have hn16 : 16 ≤ n := by omega
  have hq' := Lib.hid hq
  clear hq
  have hw0 := (Below.refl w.heap.size w).alloc (Nat.le_refl _) (.cells #[.int .i64 0, .slice none 0 0] 30)
  have hR0 := Blk.new w 30 #[.int .i64 0, .slice none 0 0]
  have h1 := h.below hw0
  go_enter Tryz.func36, Tryz.ntmps36
  go_wp2_with fail
  generalize w.alloc (.cells #[.int .i64 0, .slice none 0 0] 30) = w1 at *
  refine (wf_any _ _ _ _ _ h1 hb.out hn).mono ?_
  rintro e w' ⟨k, he, rfl⟩
  rw [hwf.out] at he
  subst he
  have hR2 := hR0.drewN k
  have hw2 := bel_drewN hw0 k
  have h2 := h1.drewN k
  clear hR0 hw0 h1
  generalize w1.drewN k = w2 at *
  have hC4 := h2.cut (m := 4) (by omega)
  rw [if_neg hc4, Option.map_some] at hC4
  unfold Addr.add at hC4
  rw [if_neg (by decide)] at hC4
  go_wp2_with fail
  refine (read_at _ _ _ _ 4 4 rfl _ hC4 (byB_drop hb.out 4) (by omega) (by omega)).mono ?_
  rintro e w' ⟨rfl, rfl⟩
  obtain ⟨rate, hrate⟩ : ∃ rate, rd (bs.drop 4) 4 = rate := ⟨_, rfl⟩
  rw [hrate]
  have hrate' := Lib.hid hrate
  clear hrate hC4
  have hlt2 := hR2.lt
  go_wp2
  go_loopw [5] (fun iv wr => ∃ (j F : Nat) (V : Value), iv = .int .i64 (F : Int) ∧ Hid (F = 12 + 2 * j) ∧ j ≤ q ∧ UpR w w.heap.size w2.heap.size rate V j (spA bs) wr) (fun iv _ => n + 2 - (intOf iv).toNat)
  case atStart => exact ⟨0, 12, _, rfl, rfl, Nat.zero_le _, hR2.alloc _, Blk.new _ _ _, World.ownsRow_nil _ _ _ _, hw2.alloc hw2.size _⟩
  case round =>
    obtain ⟨j, F, V, rfl, hF, hjq, ⟨hUo, hUs, hUown, hUb⟩⟩ := hrel
    rcases Nat.lt_or_ge j q with hlt | hge
    · have hr := h.below hUb
      have hd2 : F + 2 ≤ n := by have := hq'.out; have := hF.out; omega
      have hcj : ¬ c = F := by omega
      have hC := hr.cut (m := F) (by omega)
      rw [if_neg hcj, Option.map_some] at hC
      have hv := Lib.hid (show sg (rd (bs.drop F) 2) = spA bs j by rw [hF.out]; rfl)
      have hrb := rd_bd (byB_drop hb.out F) 2 (by rw [List.length_drop, hl.out]; omega)
      have hRd := Lib.hid (fun (w9 : World) (h9 : Sl .u8 w9 (some (ad.add F)) (n - F) (c - F) (bs.drop F)) => read_at _ _ _ _ 2 2 rfl w9 h9 (byB_drop hb.out _) (by omega) (by omega))
      obtain ⟨rv, hrv⟩ : ∃ rv, rd (bs.drop F) 2 = rv := ⟨_, rfl⟩
      rw [hrv] at hv hrb hRd
      have hb1 := hrb.1
      have hb2 : rv < 65536 := hrb.2
      have hF1 : (F : Int) < 12 + 2 * (q : Int) := by have := hF.out; omega
      have hF0 : ¬ F = 0 := by have := hF.out; omega
      have s0 : (0 : Int) ≤ (F : Int) := by omega
      have s1 : (F : Int) ≤ (n : Int) := by omega
      have s2 : (F : Int) ≤ (c : Int) := by omega
      clear hrb hrv
      have sgv1 : IntKind.i16.wrap rv = sg rv := wrap16 rv
      have sgb : -32768 ≤ sg rv ∧ sg rv ≤ 32767 := by unfold sg; omega
      obtain ⟨sv, hsv⟩ : ∃ sv, sg rv = sv := ⟨_, rfl⟩
      rw [hsv] at sgv1 sgb hv
      have sgb1 := sgb.1
      have sgb2 := sgb.2
      have sgv2 : IntKind.i64.wrap sv = sv := IntWalk.i64_in _ (by omega)
      clear hsv sgb
      have cs1 : wr.cell? ⟨w2.heap.size, 1, none⟩ = some V := hUs.cell 1
      have cs1d : wr.drew.cell? ⟨w2.heap.size, 1, none⟩ = some V := hUs.cell 1
      have hCd := hC.drew
      have hown2 : wr.drew.ownsRow (w2.heap.size + 1) 3 1 V j (ivs .i64 (tab j (spA bs))) := hUown
      have hszR := hUs.lt
      have hrow := Lib.hid (fun k (hk : V.ownBlock = some k) => (hown2.lt k hk).1)
      have hUs2 := (hUs.drewN 1).alloc (.cells #[.int .i64 sv] 3)
      have cs1a : (wr.drew.alloc (.cells #[.int .i64 sv] 3)).cell? ⟨w2.heap.size, 1, none⟩ = some V := hUs2.cell 1
      have hUo2 := (hUo.drewN 1).alloc (.cells #[.int .i64 sv] 3)
      have hjn : j ≤ 250000 := by have := hq'.out; omega
      go_wp2_with fail
      rw [show Op.load 28 (Operand.tmp 25) = ldF 28 (Operand.tmp 25) from rfl]
      go_region_held3 (fun _ => True) (first | exact trivial | go_keep)
        (first
          | (go_at_call 91; refine (hRd.out _ hCd).mono ?_; rintro e w' ⟨rfl, rfl⟩)
          | (refine step_append_lies _ (by rfl) _ _ _ (by rfl) (w2.heap.size + 1) 3 i0 (.int .i64 0) 1 8 Tryz.underlying28 hi hz0 hz1 hz2 (by rfl) (by decide) V j (ivs .i64 (tab j (spA bs))) (by rfl) (hown2.alloc _) ⟨wr.heap.size, 0, none⟩ 1 1 [.int .i64 sv] (by rfl) (by rfl) (news_one _ _ _) (oneCell1 _) (by omega) (by unfold maxLen; omega) (by omega) (by simp; omega) _ rfl ?_; intro g cap w5 hown5 hgrow hat hlt5; have hUs5 := hUs2.grown hgrow (fun e => by have := hrow.out _ e.symm; omega); have s1c := hUs5.cell 1; have sfc := hUs5.frozen 1))
      all_goals
        have hUo5 := hUo2.grown hgrow (fun e => by have := hrow.out _ e.symm; omega)
        have hb5 := (((bel_drewN hUb 1).alloc (o := .cells #[.int .i64 sv] 3) (bel_drewN hUb 1).size).grown hgrow (by have := hUb.size; simp; omega) (fun k hk => by have := hrow.out k hk; have := hw2.size; omega)).setCell (p := ⟨w2.heap.size, 1, none⟩) hw2.size (.slice (some ⟨g, 0, none⟩) (j + 1) cap)
        have hown6 : (w5.setCell ⟨w2.heap.size, 1, none⟩ (.slice (some ⟨g, 0, none⟩) (j + 1) cap)).ownsRow (w2.heap.size + 1) 3 1 (.slice (some ⟨g, 0, none⟩) (j + 1) cap) (j + 1) (ivs .i64 (tab (j + 1) (spA bs))) := by
          rw [tab_succ, ivs_snoc, ← hv.out]
          exact own_same hown5 (fun j h1 _ => Below.heap_setCell w5 _ _ j (fun e => by dsimp only at e; omega))
        have hfin : UpR w w.heap.size w2.heap.size rate (.slice (some ⟨g, 0, none⟩) (j + 1) cap) (j + 1) (spA bs) (w5.setCell ⟨w2.heap.size, 1, none⟩ (.slice (some ⟨g, 0, none⟩) (j + 1) cap)) :=
          ⟨hUo5.far (by simp; omega) _, hUs5.set_ 1 _, hown6, hb5⟩
        have hF2 : Hid (F + 2 = 12 + 2 * (j + 1)) := by have := hF.out; show _ = _; omega
        clear hown5 hown6 hb5 s1c sfc
        go_wp2
        go_roundw
        case rel => exact ⟨j + 1, F + 2, _, by go_num, hF2, by omega, hfin⟩
        case measure => simp [intOf]; omega
    · have hjq' : j = q := by omega
      subst hjq'
      have hFn : ¬ (F : Int) < 12 + 2 * (j : Int) := by have := hF.out; omega
      obtain ⟨A2, c2, hV, hS2⟩ := Sl.of_own hUown
      have hfr2 := Lib.hid hUown.lt
      subst hV
      have hnnH := Lib.hid (own_nn hUown)
      have k0 : wr.cell? ⟨w2.heap.size, 0, none⟩ = some (.int .i64 rate) := hUs.cell 0
      have k1 : wr.cell? ⟨w2.heap.size, 1, none⟩ = some (.slice A2 j c2) := hUs.cell 1
      go_wp2_with fail
      refine (Valid_any _ _ _ _ _ _ hS2).mono ?_
      rintro e w7 ⟨rfl, hb7⟩
      clear k0 k1
      have hUo7 := hUo.below hb7
      have hUs7 := hUs.below hb7
      have hS7 := hS2.below hb7
      have hU7 := hUb.trans (hb7.mono hUb.size)
      have o0 := hUo7.cell 0
      have o1 := hUo7.cell 1
      have f0 := hUo7.frozen 0
      have f1 := hUo7.frozen 1
      have k0 : w7.cell? ⟨w2.heap.size, 0, none⟩ = some (.int .i64 rate) := hUs7.cell 0
      have k1 : w7.cell? ⟨w2.heap.size, 1, none⟩ = some (.slice A2 j c2) := hUs7.cell 1
      have hfr := Lib.hid (show 0 < j → ∀ ad, A2 = some ad → ad.block ≠ w.heap.size from fun _ ad he => by
        subst he
        have := (hfr2.out ad.block rfl).1
        omega)
      by_cases hk : chkR rate (tab j (spA bs)) = 0
      case' pos =>
        have e1 := Lib.hid (show uR rate (tab j (spA bs)) = rate by unfold uR; rw [if_pos hk])
        have e2 := Lib.hid (show uL rate (tab j (spA bs)) = tab j (spA bs) by unfold uL; rw [if_pos hk])
        have e3 := Lib.hid (show uC rate (tab j (spA bs)) = 0 by unfold uC; rw [if_pos hk])
        rw [hk]
        clear hk
        go_wp2
        exact ret_rec2 rfl rfl ((hUo7.set_ 0 _).set_ 1 _) rfl ⟨A2, j, c2, by rw [hrate'.out, e1.out, e3.out]; rfl, by rw [hrate'.out, e2.out]; exact (hS7.farn hfr.out 0 _).farn hfr.out 1 _, hnnH.out, (hU7.setCell (p := ⟨w.heap.size, 0, none⟩) (Nat.le_refl _) _).setCell (p := ⟨w.heap.size, 1, none⟩) (Nat.le_refl _) _⟩
      case' neg =>
        have e1 := Lib.hid (show uR rate (tab j (spA bs)) = 0 by unfold uR; rw [if_neg hk])
        have e2 := Lib.hid (show uL rate (tab j (spA bs)) = [] by unfold uL; rw [if_neg hk])
        have e3 := Lib.hid (show uC rate (tab j (spA bs)) = 4 by unfold uC; rw [if_neg hk])
        have hkb : (chkR rate (tab j (spA bs)) == 0) = false := by simpa using hk
        rw [hkb]
        clear hk hkb
        go_wp2
        exact ret_rec2 rfl rfl ((hUo7.set_ 0 _).set_ 1 _) rfl ⟨none, 0, 0, by rw [hrate'.out, e1.out, e3.out]; rfl, by rw [hrate'.out, e2.out]; exact Sl.nil _ _, (fun _ => rfl), (hU7.setCell (p := ⟨w.heap.size, 0, none⟩) (Nat.le_refl _) _).setCell (p := ⟨w.heap.size, 1, none⟩) (Nat.le_refl _) _⟩


theorem Unpack_pk (rate : Int) (xs : List Int) (hk : chkR rate xs = 0) (A : Option Addr) (n c : Nat) (w : World) (h : Sl .u8 w A n c (pkB rate xs)) (hb : byB (pkB rate xs)) (hn : n ≤ 500000) :
    Calls Tryz.prog 36 #[.slice A n c] w (RetRecN w rate xs 0) := by
  obtain ⟨hwf, hC, hR, hL⟩ := pk_up hk
  have hl := h.len
  obtain ⟨q, hq, _⟩ := wf_len hwf
  have hsp : spL_w (pkB rate xs) = tab q (spA (pkB rate xs)) := by unfold spL_w; rw [hq, show (16 + 2 * q - 16) / 2 = q by omega]
  have := Unpack_wfN A n c q (pkB rate xs) w h hb hn hwf (by omega)
  rw [← hsp] at this
  have hk2 : chkR (rd ((pkB rate xs).drop 4) 4) (spL_w (pkB rate xs)) = 0 := by
    by_cases hk3 : chkR (rd ((pkB rate xs).drop 4) 4) (spL_w (pkB rate xs)) = 0
    · exact hk3
    · exfalso
      have hkb : (chkR (rd ((pkB rate xs).drop 4) 4) (spL_w (pkB rate xs)) == 0) = false := by simpa using hk3
      unfold upC upOk at hC
      rw [if_neg (by omega), hwf, hkb] at hC
      exact absurd hC (by decide)
  have hR2 : upR (pkB rate xs) = rd ((pkB rate xs).drop 4) 4 := by unfold upR; rw [hC]; rfl
  have hL2 : upL (pkB rate xs) = spL_w (pkB rate xs) := by unfold upL; rw [hC]; rfl
  unfold uR uL uC at this
  rw [if_pos hk2, if_pos hk2, if_pos hk2, ← hR2, ← hL2, hR, hL] at this
  exact this
end Go.Proofs.YtoljffghaklpdaaGreatDoor
