/- Differences of vectors; lists that are vectors. -/
import Derived.Test.YtjpdgnbdbpgnmaaDoorGI
namespace Go.Proofs.YtjpdgnbdbpgnmaaDoor
open Go.RowKit

theorem onlyVectors_any (A : Option Addr) (n c : Nat) (vs : List (List Int)) (w : World) (h : Rr w A n c vs) :
    Calls Tryd.prog 79 #[.slice A n c] w fun e w' => (chk1 vs = 0 ∧ Ret2B w n vs e w') ∨ (chk1 vs ≠ 0 ∧ RetN w 2 e w') := by
  by_cases h0 : chk1 vs = 0
  · have h0' := Lib.hid h0
    go_enter Tryd.func79, Tryd.ntmps79
    go_wp2_with fail
    refine (check1_any w A n c vs h).mono ?_
    rintro e w1 ⟨rfl, hb1⟩
    rw [h0'.out]
    clear h0
    have hR := h.below hb1
    go_wp2
    go_ret2
    exact .inl ⟨h0'.out, _, _, rfl, hR, hb1⟩
  · have h0' := Lib.hid h0
    have hne : (chk1 vs != 0) = true := by simp [h0]
    have hne2 : (chk1 vs == 0) = false := by simp [h0]
    go_enter Tryd.func79, Tryd.ntmps79
    go_wp2_with fail
    refine (check1_any w A n c vs h).mono ?_
    rintro e w1 ⟨rfl, hb1⟩
    go_wp2
    go_ret2
    exact .inr ⟨h0'.out, rfl, hb1⟩

/-- a vector and its differences -/
def difR (m : Nat) (vs : List (List Int)) (t : Nat) : List Int := vs.getD t [] ++ tab m fun c => (vs.getD (min (t + 1) (vs.length - 1)) []).getD c 0 - (vs.getD (t - 1) []).getD c 0
def difL (vs : List (List Int)) : List (List Int) := (List.range vs.length).map (difR (vs.headD []).length vs)
def difC (vs : List (List Int)) : Int := if chk1 vs = 0 then (if chk1 (difL vs) = 0 then 0 else 2) else chk1 vs
theorem chk1_ok {vs : List (List Int)} (h : chk1 vs = 0) : vs.length ≤ 10000 ∧ VecS (vs.headD []).length vs ∧ (0 < vs.length → 1 ≤ (vs.headD []).length ∧ (vs.headD []).length ≤ 64) := by
  unfold chk1 at h
  split at h
  · cases h
  · rename_i hlen
    split at h
    · rename_i hv
      have hall : ∀ x ∈ vs, vecB x = true ∧ x.length = (vs.headD []).length := fun x hx => by
        have := List.all_eq_true.1 hv x hx
        unfold rowOk at this
        simpa using this
      have hvec : ∀ x, vecB x = true → 1 ≤ x.length ∧ x.length ≤ 64 ∧ allB (-1048576) 1048576 x = true := fun x hx => by
        unfold vecB at hx
        simp only [Bool.and_eq_true] at hx
        have := okB_iff.1 hx.1
        exact ⟨by omega, by omega, hx.2⟩
      refine ⟨by omega, fun u hu => ⟨(hall u hu).2, (hvec u (hall u hu).1).2.2⟩, fun hp => ?_⟩
      have hu0 : vs.headD [] ∈ vs := by
        cases vs with
        | nil => simp at hp
        | cons y ys => simp
      have := hvec _ (hall _ hu0).1
      exact ⟨this.1, this.2.1⟩
    · cases h
theorem mem_getD {vs : List (List Int)} {t : Nat} (h : t < vs.length) : vs.getD t [] ∈ vs := by
  rw [List.getD_eq_getElem?_getD, List.getElem?_eq_getElem h]; exact List.getElem_mem _

set_option maxHeartbeats 3200000 in
set_option maxRecDepth 100000 in
theorem Differences_any (A : Option Addr) (n c : Nat) (vs : List (List Int)) (w : World) (h : Rr w A n c vs) :
    Calls Tryd.prog 40 #[.slice A n c] w fun e w' => (difC vs = 0 ∧ Ret2B w n (difL vs) e w') ∨ (difC vs ≠ 0 ∧ RetN w (difC vs) e w') := by
  have hl := Lib.hid h.len
  have hcap := h.cap
  have htop := h.top
  by_cases h0 : chk1 vs = 0
  · have hok := Lib.hid (chk1_ok h0)
    rw [hl.out] at hok
    have hC := Lib.hid (show difC vs = if chk1 (difL vs) = 0 then 0 else 2 by unfold difC; rw [if_pos h0])
    have h0' := Lib.hid h0
    have hn := hok.out.1
    have hmk := make_rows n (by omega)
    go_enter Tryd.func40, Tryd.ntmps40
    go_wp2_with fail
    refine (check1_any w A n c vs h).mono ?_
    rintro e w1 ⟨rfl, hb1⟩
    rw [h0'.out]
    clear h0
    have h1 := h.below hb1
    go_wp2
    clear hmk
    have hst := RFill.start (n := n) (Below.refl w1.heap.size w1)
    go_loopw [21] (fun iv wr => ∃ t : Nat, iv = .int .i64 t ∧ t ≤ n ∧ RFill w1 wr w1.heap.size n t ((List.range t).map (difR (vs.headD []).length vs))) (fun iv _ => n - (intOf iv).toNat)
    case atStart => exact ⟨0, rfl, Nat.zero_le _, hst⟩
    case round =>
      obtain ⟨t, rfl, ht, hF⟩ := hrel
      clear hst
      have hr := h1.below hF.bel
      rcases Nat.lt_or_ge t n with hlt | hge
      · have hm := hok.out.2.2 (by omega)
        obtain ⟨m, hmm⟩ : ∃ m, (vs.headD []).length = m := ⟨_, rfl⟩
        rw [hmm] at hm
        obtain ⟨ad, B, L, C, x, rfl, hc, hx, hS, hB0, hL0⟩ := hr.at_ hlt
        obtain ⟨p, hp⟩ : ∃ p, min (t + 1) (n - 1) = p := ⟨_, rfl⟩
        obtain ⟨q, hq⟩ : ∃ q, t - 1 = q := ⟨_, rfl⟩
        have hpn : p < n := by omega
        have hqn : q < n := by omega
        obtain ⟨ad2, B2, L2, C2, y, e2, hc2, hy, hS2, _⟩ := hr.at_ hpn
        injection e2 with e2
        subst e2
        obtain ⟨ad3, B3, L3, C3, z, e3, hc3, hz, hS3, _⟩ := hr.at_ hqn
        injection e3 with e3
        subst e3
        have hvS := hok.out.2.1
        rw [hmm] at hvS
        have hxv := Lib.hid (hvS x (List.mem_of_getElem? hx.out))
        have hyv := Lib.hid (hvS y (List.mem_of_getElem? hy.out))
        have hzv := Lib.hid (hvS z (List.mem_of_getElem? hz.out))
        have hLm : L = m := by rw [← hS.len]; exact hxv.out.1
        have hLm2 : L2 = m := by rw [← hS2.len]; exact hyv.out.1
        have hLm3 : L3 = m := by rw [← hS3.len]; exact hzv.out.1
        subst hLm
        subst hLm2
        subst hLm3
        have hdif := Lib.hid (show difR (vs.headD []).length vs t = x ++ tab L3 fun c => y.getD c 0 - z.getD c 0 by
          unfold difR
          rw [hmm, hl.out, hp, hq, getD_some hx.out, getD_some hy.out, getD_some hz.out])
        have hmin : min ((t : Int) + 1) ((n : Int) - 1) = (p : Int) := by omega
        have hmax : max ((t : Int) - 1) 0 = (q : Int) := by omega
        have hpi0 : (0 : Int) ≤ (p : Int) := by omega
        have hpi1 : (p : Int) < (n : Int) := by omega
        have hqi0 : (0 : Int) ≤ (q : Int) := by omega
        have hqi1 : (q : Int) < (n : Int) := by omega
        have w1e : IntKind.i64.wrap ((t : Int) + 1) = (t : Int) + 1 := IntWalk.i64_in _ (by omega)
        have w2e : IntKind.i64.wrap ((n : Int) - 1) = (n : Int) - 1 := IntWalk.i64_in _ (by omega)
        have w3e : IntKind.i64.wrap ((t : Int) - 1) = (t : Int) - 1 := IntWalk.i64_in _ (by omega)
        clear hp hq hmm hvS
        go_wp2
        go_quiet (fail)
        have hF2 := hF.drewN nq
        have hSx := hS.drewN nq
        have hSy := hS2.drewN nq
        have hSz := hS3.drewN nq
        clear hc hc2 hc3 hr hS hS2 hS3
        generalize wr.drewN nq = w3 at *
        go_wp2_with fail
        refine (subtract_any _ _ _ _ _ _ _ _ hSy hSz (by omega) (fun i hi => ?_)).mono ?_
        · have b1 := allB_get hyv.out.2 (j := i) (by rw [hyv.out.1]; exact hi) rfl
          have b2 := allB_get hzv.out.2 (j := i) (by rw [hzv.out.1]; exact hi) rfl
          omega
        rintro e w4 ⟨g4, rfl, hM4, hb4, hg4⟩
        have hF4 := hF2.below hb4
        have hSx4 := hSx.below hb4
        have hb5 := (Below.refl w4.heap.size w4).alloc (Nat.le_refl _) (.cells #[.slice B L3 C, .slice (some ⟨g4, 0, none⟩) L3 L3] 30)
        have hLs := ls_lit2 w4 30 B (some ⟨g4, 0, none⟩) L3 C L3 L3
        have hd4 := hM4.sl (tab_len L3 _) (show L3 ≤ 140737488355328 by omega)
        have hsrc1 := (Src.of_sl hSx4 hB0).below hb5
        have hsrc2 := (Src.of_sl hd4 (fun e => by cases e)).below hb5
        obtain ⟨dd, hdd⟩ : ∃ dd, (tab L3 fun i => y.getD i 0 - z.getD i 0) = dd := ⟨_, rfl⟩
        rw [hdd] at hsrc2
        have hdl : dd.length = L3 := by rw [← hdd]; exact tab_len _ _
        have hF5 := hF4.below hb5
        go_wp2_with fail
        refine (concatI_any _ _ _ _ _ _ (fun j => if j = 0 then ivs .i64 x else ivs .i64 dd) _ hLs (fun j hj => ?_) (by show (0 + L3) + L3 ≤ _; omega)).mono ?_
        · rcases (show j = 0 ∨ j = 1 by omega) with rfl | rfl
          · exact hsrc1
          · exact hsrc2
        rintro e w6 ⟨V6, rfl, hO6, hb6⟩
        have hO6' : w6.ownsRow (w4.alloc (.cells #[.slice B L3 C, .slice (some ⟨g4, 0, none⟩) L3 L3] 30)).heap.size 3 1 V6 (L3 + L3) (ivs .i64 (x ++ dd)) := by
          have e1 : sumN (fun j => if j = 0 then L3 else L3) 2 = L3 + L3 := by show (0 + L3) + L3 = _; omega
          have e2 : catN (fun j => if j = 0 then ivs .i64 x else ivs .i64 dd) 2 = ivs .i64 (x ++ dd) := by rw [ivs_app]; rfl
          rw [e1, e2] at hO6
          exact hO6
        obtain ⟨A6, c6, rfl, hS6⟩ := Sl.of_own hO6'
        have hF6 := hF5.below hb6
        have hcg := hF6.cell hlt
        have hfg := hF6.frozen t
        have hnn : A6 = none → c6 = 0 := fun e => by
          obtain ⟨ad6, _, e6, _⟩ := hS6.at_ (j := 0) (by omega)
          rw [e] at e6
          cases e6
        have hN := hF6.next hlt hS6 hnn (by omega)
        have hN : RFill w1 (w6.setCell ⟨w1.heap.size, t, none⟩ (.slice A6 (L3 + L3) c6)) w1.heap.size n (t + 1) ((List.range (t + 1)).map (difR (vs.headD []).length vs)) := by
          rw [List.range_succ, List.map_append]
          have : [t].map (difR (vs.headD []).length vs) = [x ++ dd] := by
            rw [List.map_cons, hdif.out, hdd]; rfl
          rw [this]
          exact hN
        have hN := Lib.hid hN
        clear hdd hO6 hO6' hsrc1 hsrc2
        go_wp2
        go_roundw
        case rel => exact ⟨t + 1, by go_num, hlt, hN.out⟩
        case measure => simp [intOf]; omega
      · have htn : t = n := by omega
        subst htn
        have hdl := Lib.hid (show (List.range t).map (difR (vs.headD []).length vs) = difL vs by unfold difL; rw [hl.out])
        have hD := hF.done (by omega)
        rw [hdl.out] at hD
        have hbw := hb1.trans (hF.bel.mono hb1.size)
        go_wp2_with fail
        refine (onlyVectors_any _ _ _ _ _ hD).mono ?_
        rintro e w7 (⟨hk, A7, c7, rfl, hR7, hb7⟩ | ⟨hk, rfl, hb7⟩)
        · have hk := Lib.hid hk
          have hb8 := hbw.trans (hb7.mono hbw.size)
          go_wp2
          go_ret2
          exact .inl ⟨by rw [hC.out, if_pos hk.out], _, _, rfl, hR7, hb8⟩
        · have hk := Lib.hid hk
          have hb8 := hbw.trans (hb7.mono hbw.size)
          go_wp2
          go_ret2
          exact .inr ⟨by rw [hC.out, if_neg hk.out]; decide, by rw [hC.out, if_neg hk.out]; rfl, hb8⟩
  · have h0' := Lib.hid h0
    have hC := Lib.hid (show difC vs = chk1 vs by unfold difC; rw [if_neg h0])
    have hne : (chk1 vs != 0) = true := by simp [h0]
    have hne2 : (chk1 vs == 0) = false := by simp [h0]
    go_enter Tryd.func40, Tryd.ntmps40
    go_wp2_with fail
    refine (check1_any w A n c vs h).mono ?_
    rintro e w1 ⟨rfl, hb1⟩
    go_wp2
    go_ret2
    exact .inr ⟨by rw [hC.out]; exact h0'.out, by rw [hC.out]; rfl, hb1⟩
end Go.Proofs.YtjpdgnbdbpgnmaaDoor
