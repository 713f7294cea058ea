/- Distances and nearest codewords: the program's. -/
import Derived.Test.YtoljffghaklpdaaDoorHA
namespace Go.Proofs.YtoljffghaklpdaaDoor
open Go.RowKit

theorem lit1 (w : World) (A : Option Addr) (n c : Nat) (xs : List Int) (h : Sl .i64 w A n c xs) (hz : A = none → c = 0) (hn : n ≤ 17592186044416) :
    Rr (w.alloc (.cells #[.slice A n c] 30)) (some ⟨w.heap.size, 0, none⟩) 1 1 [xs] ∧ Below w.heap.size w (w.alloc (.cells #[.slice A n c] 30)) :=
  ⟨Rr.of_blk (news := [.slice A n c]) (Blk.new w 30 #[.slice A n c]) (RowL.one (h.alloc _) hz hn) rfl (by decide), (Below.refl w.heap.size w).alloc (Nat.le_refl _) _⟩
theorem lit2 (w : World) (A A' : Option Addr) (n c n' c' : Nat) (xs ys : List Int) (h : Sl .i64 w A n c xs) (h' : Sl .i64 w A' n' c' ys) (hz : A = none → c = 0) (hz' : A' = none → c' = 0) (hn : n ≤ 17592186044416) (hn' : n' ≤ 17592186044416) :
    Rr (w.alloc (.cells #[.slice A n c, .slice A' n' c'] 30)) (some ⟨w.heap.size, 0, none⟩) 2 2 [xs, ys] ∧ Below w.heap.size w (w.alloc (.cells #[.slice A n c, .slice A' n' c'] 30)) :=
  ⟨Rr.of_blk (news := [.slice A n c, .slice A' n' c']) (Blk.new w 30 #[.slice A n c, .slice A' n' c']) ((RowL.one (h.alloc _) hz hn).app (RowL.one (h'.alloc _) hz' hn')) rfl (by decide), (Below.refl w.heap.size w).alloc (Nat.le_refl _) _⟩

theorem vecB_all {x : List Int} (h : vecB x = true) : 1 ≤ x.length ∧ x.length ≤ 64 ∧ allB (-1048576) 1048576 x = true := by
  unfold vecB at h
  simp only [Bool.and_eq_true] at h
  have := okB_iff.1 h.1
  exact ⟨by omega, by omega, h.2⟩
theorem vecs2 (xs ys : List Int) : vecsB [xs, ys] = (vecB xs && (vecB ys && decide (ys.length = xs.length))) := by
  unfold vecsB rowOk
  simp
theorem vecs1 (xs : List Int) : vecsB [xs] = vecB xs := by
  unfold vecsB rowOk
  simp

set_option maxHeartbeats 800000 in
set_option maxRecDepth 100000 in
theorem distance_any (A A' : Option Addr) (n c c' : Nat) (xs ys : List Int) (w : World) (h : Sl .i64 w A n c xs) (h' : Sl .i64 w A' n c' ys) (hz' : A' = none → c' = 0) (hn1 : 1 ≤ n) (hn : n ≤ 64)
    (hx : allB (-1048576) 1048576 xs = true) (hy : allB (-1048576) 1048576 ys = true) :
    Calls Tryd.prog 82 #[.slice A n c, .slice A' n c'] w fun e w' => e = .returned (.int .i64 (dist xs ys)) ∧ Below w.heap.size w w' := by
  have hl := Lib.hid h.len
  have hl' := Lib.hid h'.len
  obtain ⟨hR, hb⟩ := lit1 w A' n c' ys h' hz' (by omega)
  have hd := dsS_bd hx hy (by rw [hl.out, hl'.out]) (by rw [hl.out]; exact hn) (Nat.le_refl _)
  have hv := Lib.hid (show (nrS xs [ys] 1).2 = dist xs ys by
    show (if dist xs ys < 9223372036854775807 then ((0 : Nat), dist xs ys) else (0, 9223372036854775807)).2 = _
    rw [if_pos (by have : dist xs ys ≤ 281474976710656 := hd.2; omega)])
  have hS := h.below hb
  have hy2 := Lib.hid hy
  go_enter Tryd.func82, Tryd.ntmps82
  go_wp2_with fail
  refine (nearest_any _ _ _ _ _ _ _ _ _ hS hR hx hn1 hn (fun u hu => by
    rw [List.mem_singleton] at hu
    subst hu
    exact ⟨hl'.out, hy2.out⟩)).mono ?_
  rintro e w2 ⟨rfl, r, hw2⟩
  have hb2 : Below w.heap.size w w2 := by rw [hw2]; exact bel_drewN hb r
  clear hw2
  go_wp2
  go_ret
  exact ⟨ret_int hv.out, hb2⟩

set_option maxHeartbeats 800000 in
set_option maxRecDepth 100000 in
theorem Distance_any (A A' : Option Addr) (n c n' c' : Nat) (xs ys : List Int) (w : World) (h : Sl .i64 w A n c xs) (h' : Sl .i64 w A' n' c' ys) (hz : A = none → c = 0) (hz' : A' = none → c' = 0) (hn : n ≤ 70) (hn' : n' ≤ 70) :
    Calls Tryd.prog 47 #[.slice A n c, .slice A' n' c'] w fun e w' =>
      (vecsB [xs, ys] = true ∧ e = .returned (.tuple #[.int .i64 (dist xs ys), .int .i64 0]) ∧ Below w.heap.size w w') ∨ (vecsB [xs, ys] = false ∧ e = .returned (.tuple #[.int .i64 0, .int .i64 2]) ∧ Below w.heap.size w w') := by
  have hl := Lib.hid h.len
  have hl' := Lib.hid h'.len
  obtain ⟨hR, hb⟩ := lit2 w A A' n c n' c' xs ys h h' hz hz' (by omega) (by omega)
  have hc0 := check1_any _ _ _ _ _ hR
  have e1 : (w.alloc (.cells #[.slice A n c, .slice A' n' c'] 30)).heap.size = w.heap.size + 1 := by simp
  rw [e1] at hc0
  have hc := Lib.hid hc0
  clear hc0
  have hk := Lib.hid (show chk1 [xs, ys] = if vecsB [xs, ys] = true then 0 else 2 by unfold chk1; rw [if_neg (show ¬ 10000 < [xs, ys].length by simp)])
  go_enter Tryd.func47, Tryd.ntmps47
  go_wp2_with fail
  refine hc.out.mono ?_
  rintro e w2 ⟨rfl, hb02⟩
  rw [← e1] at hb02
  have hb2 := hb.trans (hb02.mono hb.size)
  clear hc e1 hb02
  rw [hk.out]
  cases hv : vecsB [xs, ys] with
  | false =>
    have hv := Lib.hid hv
    rw [if_neg (by decide)]
    go_wp2
    go_ret2
    exact .inr ⟨hv.out, rfl, hb2⟩
  | true =>
    have hv0 := Lib.hid hv
    rw [vecs2] at hv
    simp only [Bool.and_eq_true, decide_eq_true_eq] at hv
    obtain ⟨v1, v2, v3⟩ := hv
    obtain ⟨a1, a2, a3⟩ := vecB_all v1
    obtain ⟨b1, b2, b3⟩ := vecB_all v2
    rw [hl.out, hl'.out] at v3
    rw [hl.out] at a1 a2
    subst v3
    rw [if_pos rfl]
    go_wp2_with fail
    refine (distance_any _ _ _ _ _ _ _ _ (h.below hb2) (h'.below hb2) hz' a1 a2 a3 b3).mono ?_
    rintro e w3 ⟨rfl, hb3⟩
    have hb33 := hb2.trans (hb3.mono hb2.size)
    go_wp2
    go_ret2
    exact .inl ⟨hv0.out, rfl, hb33⟩

theorem vecs_cons {x : List Int} {us : List (List Int)} (h : 1 ≤ us.length) : vecsB (x :: us) = (vecB x && (vecsB us && decide (x.length = (us.headD []).length))) := by
  cases us with
  | nil => exact absurd h (by simp)
  | cons u us =>
    rw [Bool.eq_iff_iff]
    unfold vecsB rowOk
    simp only [List.all_cons, List.headD_cons, Bool.and_eq_true, List.all_eq_true]
    constructor
    · rintro ⟨⟨h1, _⟩, ⟨h2, h3⟩, h4⟩
      have e3 := of_decide_eq_true h3
      exact ⟨h1, ⟨⟨h2, by first | trivial | exact (decide_eq_true rfl) | simp⟩, fun y hy => ⟨(h4 y hy).1, decide_eq_true ((of_decide_eq_true (h4 y hy).2).trans e3.symm)⟩⟩, decide_eq_true e3.symm⟩
    · rintro ⟨h1, ⟨⟨h2, _⟩, h4⟩, h3⟩
      have e3 := of_decide_eq_true h3
      exact ⟨⟨h1, by first | trivial | exact (decide_eq_true rfl) | simp⟩, ⟨h2, decide_eq_true e3.symm⟩, fun y hy => ⟨(h4 y hy).1, decide_eq_true ((of_decide_eq_true (h4 y hy).2).trans e3.symm)⟩⟩
theorem cod1 {x : List Int} {us : List (List Int)} (h : us.length ≤ 10000) : codC [x] us = if (vecB x && (okB 1 256 us.length && (vecsB us && decide (x.length = (us.headD []).length)))) = true then 0 else 2 := by
  have e2 : chk2 [x] us = if vecsB (x :: us) = true then 0 else 2 := by
    unfold chk2
    rw [if_neg (by simp; omega)]
    rfl
  unfold codC
  rw [e2]
  rcases Nat.lt_or_ge us.length 1 with h1 | h1
  · rw [okB_lo (lo := 1) (hi := 256) (x := (us.length : Int)) (by omega)]
    cases vecB x <;> cases vecsB (x :: us) <;> simp
  · rw [vecs_cons h1]
    cases vecB x <;> cases okB 1 256 (us.length : Int) <;> cases vecsB us <;> cases decide (x.length = (us.headD []).length) <;> simp

set_option maxHeartbeats 800000 in
theorem Nearest_any (A A' : Option Addr) (m c n c' : Nat) (xs : List Int) (us : List (List Int)) (w : World) (h : Sl .i64 w A m c xs) (h' : Rr w A' n c' us) (hz : A = none → c = 0) (hm : m ≤ 70) :
    Calls Tryd.prog 49 #[.slice A m c, .slice A' n c'] w fun e w' =>
      (codC [xs] us = 0 ∧ e = .returned (.tuple #[.int .i64 ((nrS xs us n).1 : Nat), .int .i64 (nrS xs us n).2, .int .i64 0]) ∧ Below w.heap.size w w') ∨ (codC [xs] us ≠ 0 ∧ e = .returned (.tuple #[.int .i64 0, .int .i64 0, .int .i64 (codC [xs] us)]) ∧ Below w.heap.size w w') := by
  have hl := Lib.hid h.len
  obtain ⟨hR, hb⟩ := lit1 w A m c xs h hz (by omega)
  have hc := Lib.hid (checkCoding_any _ _ _ _ _ _ _ _ _ hR (h'.below hb))
  go_enter Tryd.func49, Tryd.ntmps49
  go_wp2_with fail
  refine hc.out.mono ?_
  rintro e w2 ⟨rfl, hb2⟩
  have hb2 := hb.trans (hb2.mono hb.size)
  clear hc
  by_cases h0 : codC [xs] us = 0
  · obtain ⟨k1, k2, k3, k4, k5, k6, k7⟩ := codC_ok h0
    have hxm := k6 xs (by simp)
    rw [h0]
    have hm' := hxm.1
    rw [hl.out] at hm'
    rw [← hm'] at k4 k5 k7
    have h0 := Lib.hid h0
    have hx2 := Lib.hid hxm.2
    have hk7 := Lib.hid k7
    clear hxm k6 k7 hm'
    go_wp2_with fail
    refine (nearest_any _ _ _ _ _ _ _ _ _ (h.below hb2) (h'.below hb2) hx2.out k4 k5 (fun u hu => hk7.out u hu)).mono ?_
    rintro e w3 ⟨rfl, r, hw3⟩
    have hb3 : Below w.heap.size w w3 := by rw [hw3]; exact bel_drewN hb2 r
    clear hw3
    generalize hN : nrS xs us n = N at *
    have hN := Lib.hid hN
    go_wp2
    go_ret3
    exact .inl ⟨h0.out, by rw [hN.out]; rfl, hb3⟩
  · have hne : (codC [xs] us == 0) = false := by simp [h0]
    have hne2 : (codC [xs] us != 0) = true := by simp [h0]
    generalize hq : codC [xs] us = q at *
    have hq := Lib.hid hq
    go_wp2
    go_ret3
    exact .inr ⟨by rw [hq.out]; exact h0, by rw [hq.out]; rfl, hb2⟩
end Go.Proofs.YtoljffghaklpdaaDoor


/- Vectors and a codebook: errors, what fits, quantized vectors, costs, the document's and the program's. -/
namespace Go.Proofs.YtoljffghaklpdaaDoor
open Go.RowKit

theorem RWrong_any (A : Option Addr) (n c : Nat) (vs : List (List Int)) (w : World) (h : Rr w A n c vs) :
    Calls Tryd.prog 42 #[.slice A n c] w fun e w' => e = .returned (.int .i64 (chk1 vs)) ∧ ∃ r, w' = w.drewN r := by
  have hl := Lib.hid h.len
  have hcap := h.cap
  have htop := h.top
  have hV := RVectors_any A n c vs w h
  rcases Nat.lt_or_ge 10000 n with h1 | h1
  · have hv := Lib.hid (show chk1 vs = 5 by unfold chk1; rw [if_pos (by rw [hl.out]; exact h1)])
    go_enter Tryd.func42, Tryd.ntmps42
    go_wp2
    go_ret
    exact ⟨ret_int hv.out.symm, 0, rfl⟩
  · have hv := Lib.hid (show chk1 vs = if vecsB vs = true then 0 else 2 by unfold chk1; rw [if_neg (by rw [hl.out]; omega)])
    cases hq : vecsB vs with
    | false =>
      rw [hq] at hV hv
      have hV := Lib.hid hV
      clear hq
      go_enter Tryd.func42, Tryd.ntmps42
      go_wp2_with fail
      refine hV.out.mono ?_
      rintro e w1 ⟨rfl, r, hw1⟩
      go_wp2
      go_ret
      exact ⟨ret_int hv.out.symm, r, rfl⟩
    | true =>
      rw [hq] at hV hv
      have hV := Lib.hid hV
      clear hq
      go_enter Tryd.func42, Tryd.ntmps42
      go_wp2_with fail
      refine hV.out.mono ?_
      rintro e w1 ⟨rfl, r, hw1⟩
      go_wp2
      go_ret
      exact ⟨ret_int hv.out.symm, r, rfl⟩

def cstF (vs us : List (List Int)) (i : Nat) : Int := (nrS (vs.getD i []) us us.length).2
def cst (vs us : List (List Int)) : Int := sm vs.length (cstF vs us)

set_option maxHeartbeats 1600000 in
theorem RCost_any (A A' : Option Addr) (N c n c' m : Nat) (vs us : List (List Int)) (w : World) (h : Rr w A N c vs) (h' : Rr w A' n c' us) (hN : N ≤ 10000) (hm : m ≤ 64) (hv : VecS m vs) (hu : VecS m us) (hn1 : 1 ≤ n) :
    Calls Tryd.prog 56 #[.slice A N c, .slice A' n c'] w fun e w' => e = .returned (.int .i64 (cst vs us)) ∧ ∃ r, w' = w.drewN r := by
  have hl := Lib.hid h.len
  have hl' := Lib.hid h'.len
  have hcap := h.cap
  have htop := h.top
  have hcap' := h'.cap
  have htop' := h'.top
  have hone := Lib.hid (fun i (hi : i < N) => show 0 ≤ cstF vs us i ∧ cstF vs us i ≤ 281474976710656 by
    have hm9 : vs.getD i [] ∈ vs := by rw [List.getD_eq_getElem?_getD, List.getElem?_eq_getElem (by rw [hl.out]; exact hi)]; exact List.getElem_mem _
    have h9 := hv _ hm9
    have hb := nrS_bd h9.2 (by rw [h9.1]; exact hm) (fun u h8 => by rw [h9.1]; exact hu u h8) (k := us.length) (Nat.le_refl _)
    exact ⟨hb.2.1, (hb.2.2.2 (by rw [hl'.out]; omega)).1⟩)
  have hbd := Lib.hid (fun k (hk : k ≤ N) => sm_bd (f := cstF vs us) (m := 281474976710656) (n := k) (fun i hi => by have := hone.out i (by omega); omega))
  have hC := Lib.hid (show cst vs us = sm N (cstF vs us) by unfold cst; rw [hl.out])
  have hv := Lib.hid hv
  have hu := Lib.hid hu
  go_enter Tryd.func56, Tryd.ntmps56
  go_wp2
  go_loopw [5, 6] (fun sv iv wr => ∃ k r : Nat, iv = .int .i64 k ∧ k ≤ N ∧ sv = .int .i64 (sm k (cstF vs us)) ∧ wr = w.drewN r) (fun _ iv _ => N - (intOf iv).toNat)
  case atStart => exact ⟨0, 0, rfl, Nat.zero_le _, rfl, rfl⟩
  case round =>
    obtain ⟨k, r, rfl, hkn, rfl, rfl⟩ := hrel
    have hr := h.below (bel_drewN (Below.refl _ _) r)
    have hr' := h'.below (bel_drewN (Below.refl _ _) r)
    generalize hw : w.drewN r = w1 at *
    have hw := Lib.hid hw
    have hb := hbd.out k hkn
    rcases Nat.lt_or_ge k N with hlt | hge
    · obtain ⟨ad, B, L, C, x, rfl, hc, hx, hS, _⟩ := hr.at_ hlt
      have hum := hv.out x (List.mem_of_getElem? hx.out)
      have hLm : L = m := by rw [← hS.len]; exact hum.1
      subst hLm
      have hxl := Lib.hid hum.1
      have hxb := Lib.hid hum.2
      have ho := hone.out k hlt
      have hstep := Lib.hid (show sm (k + 1) (cstF vs us) = sm k (cstF vs us) + cstF vs us k from rfl)
      have hkF := Lib.hid (show cstF vs us k = (nrS x us n).2 by unfold cstF; rw [getD_some hx.out, hl'.out])
      have hnb := (nrS_bd hxb.out (by rw [hxl.out]; exact hm) (fun u h8 => by rw [hxl.out]; exact hu.out u h8) (k := n) (by rw [hl'.out]; exact Nat.le_refl _)).2.2.2 (by omega)
      have hna := Lib.hid (nrS_at hxb.out (by rw [hxl.out]; exact hm) (fun u h8 => by rw [hxl.out]; exact hu.out u h8) (k := n) (by omega) (by rw [hl'.out]; exact Nat.le_refl _))
      have hRN := Lib.hid (fun (i : Nat) => RNearest_any B A' L C n c' x us (w1.drewN i) (hS.drewN i) (hr'.below (bel_drewN (Below.refl _ _) i)) hxb.out hm hn1 (fun u h8 => hu.out u h8))
      obtain ⟨K, hK⟩ : ∃ K, (nrS x us n).1 = K := ⟨_, rfl⟩
      have hK2 : K < n := by rw [← hK]; exact hnb.2
      rw [hK] at hRN hna
      obtain ⟨ad9, B9, L9, C9, y9, e9, hc9, hy9, hS9, _, hLb9⟩ := hr'.at_ hK2
      subst e9
      have hu9 := hu.out y9 (List.mem_of_getElem? hy9.out)
      have hL9 : L9 = L := by rw [← hS9.len]; exact hu9.1
      subst hL9
      have hRD := Lib.hid (fun (i : Nat) => RDistance_any B B9 L9 C C9 x y9 (w1.drewN i) (hS.drewN i) (hS9.drewN i) hm hxb.out hu9.2)
      have hE := Lib.hid (show dist x y9 = cstF vs us k by rw [hkF.out, hna.out, getD_some hy9.out])
      rw [hE.out] at hRD
      generalize cstF vs us k = E at *
      generalize hS0 : sm k (cstF vs us) = S at *
      clear hS0 hum hu9 hK hnb hkF hE hna
      have e3 : IntKind.i64.wrap (S + E) = S + E := IntWalk.i64_in _ (by omega)
      have i0 : (0 : Int) ≤ (k : Int) := by omega
      have i1 : (k : Int) < (N : Int) := by omega
      have i2 : (0 : Int) ≤ (K : Int) := by omega
      have i3 : (K : Int) < (n : Int) := by omega
      clear hb ho
      go_wp2
      go_quiet (first | (go_at_call 51; exact Calls.quiet_of (hRN.out _)) | (go_at_call 48; exact Calls.quiet_of (hRD.out _)))
      go_wp2
      go_roundw
      case rel => exact ⟨k + 1, r + nq, by go_num, hlt, by rw [hstep.out], by rw [← hw.out]; exact dr_add w r nq⟩
      case measure => simp [intOf]; omega
    · have hkn' : k = N := by omega
      subst hkn'
      go_wp2
      go_ret
      exact ⟨ret_int hC.out.symm, r, hw.out.symm⟩

theorem vecs_app {v : List Int} {vs us : List (List Int)} (h : 1 ≤ us.length) : vecsB ((v :: vs) ++ us) = (vecsB (v :: vs) && (vecsB us && decide (v.length = (us.headD []).length))) := by
  cases us with
  | nil => exact absurd h (by simp)
  | cons u us =>
    rw [Bool.eq_iff_iff]
    unfold vecsB rowOk
    simp only [List.cons_append, List.all_cons, List.all_append, List.headD_cons, Bool.and_eq_true, List.all_eq_true]
    constructor
    · rintro ⟨h1, h0, ⟨h2, h3⟩, h4⟩
      have e3 := of_decide_eq_true h3
      exact ⟨⟨h1, h0⟩, ⟨⟨h2, by first | trivial | exact (decide_eq_true rfl) | simp⟩, fun y hy => ⟨(h4 y hy).1, decide_eq_true ((of_decide_eq_true (h4 y hy).2).trans e3.symm)⟩⟩, decide_eq_true e3.symm⟩
    · rintro ⟨⟨h1, h0⟩, ⟨⟨h2, _⟩, h4⟩, h3⟩
      have e3 := of_decide_eq_true h3
      exact ⟨h1, h0, ⟨h2, decide_eq_true e3.symm⟩, fun y hy => ⟨(h4 y hy).1, decide_eq_true ((of_decide_eq_true (h4 y hy).2).trans e3.symm)⟩⟩
theorem chk1_cases (vs : List (List Int)) : (chk1 vs = 5 ∧ 10000 < vs.length) ∨ (chk1 vs = 2 ∧ vs.length ≤ 10000 ∧ vecsB vs = false) ∨ (chk1 vs = 0 ∧ vs.length ≤ 10000 ∧ vecsB vs = true) := by
  unfold chk1
  by_cases h : 10000 < vs.length
  · exact .inl ⟨by rw [if_pos h], h⟩
  · rw [if_neg h]
    cases hq : vecsB vs with
    | false => exact .inr (.inl ⟨by simp, by omega, rfl⟩)
    | true => exact .inr (.inr ⟨by simp, by omega, rfl⟩)
theorem Fill.drewN {w wr : World} {g : Nat} {t : TypeId} {n k : Nat} {f : Nat → Int} (h : Fill w wr g t n k f) (i : Nat) : Fill w (wr.drewN i) g t n k f := ⟨h.own, bel_drewN h.bel i, h.new⟩

set_option maxHeartbeats 1600000 in
set_option maxRecDepth 100000 in
theorem Quantize_any (A A' : Option Addr) (N c n c' : Nat) (vs us : List (List Int)) (w : World) (h : Rr w A N c vs) (h' : Rr w A' n c' us) :
    Calls Tryd.prog 52 #[.slice A N c, .slice A' n c'] w fun e w' => (codC vs us = 0 ∧ RetM w N (tab N fun i => ((nrS (vs.getD i []) us n).1 : Nat)) e w') ∨ (codC vs us ≠ 0 ∧ RetN w (codC vs us) e w') := by
  have hl := Lib.hid h.len
  have hcap := h.cap
  have htop := h.top
  have hcap' := h'.cap
  have htop' := h'.top
  have hc := Lib.hid (checkCoding_any A A' N c n c' vs us w h h')
  go_enter Tryd.func52, Tryd.ntmps52
  go_wp2_with fail
  refine hc.out.mono ?_
  rintro e w2 ⟨rfl, hb2⟩
  clear hc
  by_cases h0 : codC vs us = 0
  · obtain ⟨k1, k2, k3, k4, k5, k6, k7⟩ := codC_ok h0
    rw [hl.out] at k1
    rw [h0]
    have h0 := Lib.hid h0
    generalize (us.headD []).length = m at *
    have hv := Lib.hid k6
    have hu := Lib.hid k7
    have hmk := make_int N (by omega)
    clear k6 k7
    go_wp2
    clear hmk
    go_loopw [21] (fun iv wr => ∃ k : Nat, iv = .int .i64 k ∧ k ≤ N ∧ Fill w wr w2.heap.size 3 N k fun i => ((nrS (vs.getD i []) us n).1 : Nat)) (fun iv _ => N - (intOf iv).toNat)
    case atStart => exact ⟨0, rfl, Nat.zero_le _, Fill.start hb2 rfl⟩
    case round =>
      obtain ⟨k, rfl, hkn, hF⟩ := hrel
      have hg2 : w.heap.size ≤ w2.heap.size := hb2.size
      rcases Nat.lt_or_ge k N with hlt | hge
      · have hr := h.below (hF.bel.mono (Nat.le_refl _))
        have hr' := h'.below (hF.bel.mono (Nat.le_refl _))
        obtain ⟨ad, B, L, C, x, rfl, hcx, hx, hS, _⟩ := hr.at_ hlt
        have hum := hv.out x (List.mem_of_getElem? hx.out)
        have hLm : L = m := by rw [← hS.len]; exact hum.1
        subst hLm
        have hxb := Lib.hid hum.2
        obtain ⟨y, hcy⟩ := hF.cell hlt
        have hcf := hF.frozen k
        have hF2 := Lib.hid (fun q => (hF.drewN q).next hlt (v := ((nrS (vs.getD k []) us n).1 : Nat)) rfl)
        rw [getD_some hx.out] at hF2
        have hNr := Lib.hid (fun w9 h9 h9' => nearest_any B A' L C n c' x us w9 h9 h9' hxb.out k4 k5 (fun u h8 => hu.out u h8))
        generalize nrS x us n = R at *
        have i0 : (0 : Int) ≤ (k : Int) := by omega
        have i1 : (k : Int) < (N : Int) := by omega
        clear hum
        go_wp2_with fail
        refine (hNr.out _ hS hr').mono ?_
        rintro e w3 ⟨rfl, q, hw3⟩
        subst hw3
        go_wp2
        go_roundw
        case rel => exact ⟨k + 1, by go_num, hlt, hF2.out q⟩
        case measure => simp [intOf]; omega
      · have hkn' : k = N := by omega
        subst hkn'
        have hD := hF.whole
        go_wp2
        go_ret2
        exact .inl ⟨h0.out, _, rfl, hD, hF.bel, hg2⟩
  · have hne : (codC vs us == 0) = false := by simp [h0]
    have hne2 : (codC vs us != 0) = true := by simp [h0]
    generalize hq : codC vs us = q at *
    have hq := Lib.hid hq
    go_wp2
    go_ret2
    exact .inr ⟨by rw [hq.out]; exact h0, by rw [hq.out]; exact ⟨rfl, hb2⟩⟩

def fitB (vs us : List (List Int)) : Bool := (okB 1 256 us.length && vecsB us) && (vs.isEmpty || decide ((vs.headD []).length = (us.headD []).length))
theorem cod_fits {vs us : List (List Int)} (h : us.length ≤ 10000) : (chk1 vs ≠ 0 → codC vs us = chk1 vs) ∧ (chk1 vs = 0 → codC vs us = if fitB vs us = true then 0 else 2) := by
  have e2 : ¬ 10000 < vs.length → chk2 vs us = if vecsB (vs ++ us) = true then 0 else 2 := fun h9 => by
    unfold chk2
    rw [if_neg (by omega)]
  have hno : vecsB vs = false → vecsB (vs ++ us) = false := by
    intro h2
    cases vs with
    | nil => cases h2
    | cons v vs =>
      unfold vecsB at h2 ⊢
      rw [List.all_eq_false] at h2 ⊢
      obtain ⟨x, hx, hr⟩ := h2
      exact ⟨x, List.mem_append_left _ hx, hr⟩
  rcases chk1_cases vs with ⟨c, h1⟩ | ⟨c, h1, h2⟩ | ⟨c, h1, h2⟩
  · refine ⟨fun _ => ?_, fun h0 => by rw [c] at h0; cases h0⟩
    have : chk2 vs us = 5 := by unfold chk2; rw [if_pos (.inl h1)]
    unfold codC
    rw [this, c, if_neg (by decide)]
  · refine ⟨fun _ => ?_, fun h0 => by rw [c] at h0; cases h0⟩
    have : chk2 vs us = 2 := by rw [e2 (by omega), hno h2]; rfl
    unfold codC
    rw [this, c, if_neg (by decide)]
  · refine ⟨fun h0 => absurd c h0, fun _ => ?_⟩
    have e3 := e2 (by omega)
    unfold codC fitB
    rw [e3]
    cases vs with
    | nil =>
      rw [List.nil_append]
      cases hb : vecsB us with
      | false => simp
      | true =>
        cases ho : okB 1 256 (us.length : Int) <;> simp
    | cons v vs =>
      rcases Nat.lt_or_ge us.length 1 with hu | hu
      · rw [okB_lo (lo := 1) (hi := 256) (x := (us.length : Int)) (by omega)]
        cases vecsB (v :: vs ++ us) <;> simp
      · rw [vecs_app hu, h2]
        cases ho : okB 1 256 (us.length : Int) <;> cases hb : vecsB us <;> cases hd : decide (v.length = (us.headD []).length) <;> simp_all

set_option maxHeartbeats 1600000 in
set_option maxRecDepth 100000 in
theorem RFits_any (A A' : Option Addr) (N c n c' : Nat) (vs us : List (List Int)) (w : World) (h : Rr w A N c vs) (h' : Rr w A' n c' us) (hn : n ≤ 10000) :
    Calls Tryd.prog 54 #[.slice A N c, .slice A' n c'] w fun e w' => e = .returned (.int .i64 (codC vs us)) ∧ ∃ r, w' = w.drewN r := by
  have hl := Lib.hid h.len
  have hl' := Lib.hid h'.len
  have hcap := h.cap
  have htop := h.top
  have hcap' := h'.cap
  have htop' := h'.top
  have hW := Lib.hid (RWrong_any A N c vs w h)
  obtain ⟨f1, f2⟩ := cod_fits (vs := vs) (us := us) (by rw [hl'.out]; exact hn)
  by_cases h0 : chk1 vs = 0
  · have f2 := Lib.hid (f2 h0)
    clear f1
    rw [h0] at hW
    clear h0
    cases hB : (okB 1 256 (n : Int) && vecsB us) with
    | false =>
      have hv := Lib.hid (show codC vs us = 2 by rw [f2.out]; unfold fitB; rw [hl'.out, hB]; rfl)
      have hB := Lib.hid hB
      go_enter Tryd.func54, Tryd.ntmps54
      go_wp2_with fail
      refine hW.out.mono ?_
      rintro e w1 ⟨rfl, r, rfl⟩
      have hBk := Lib.hid (fun (i : Nat) => RBook_any A' n c' us ((w.drewN r).drewN i) (h'.below (bel_drewN (bel_drewN (Below.refl _ _) r) i)))
      rw [hB.out] at hBk
      generalize hw : w.drewN r = w1 at *
      have hw := Lib.hid hw
      go_wp2
      go_quiet ((go_at_call 50; exact Calls.quiet_of (hBk.out _)))
      go_wp2
      go_ret
      exact ⟨ret_int hv.out.symm, r + nq, by rw [← hw.out]; exact dr_add w r nq⟩
    | true =>
      have hn1 : 0 < n := by
        simp only [Bool.and_eq_true] at hB
        have := okB_iff.1 hB.1
        omega
      rcases Nat.eq_zero_or_pos N with hN | hN
      · have hv := Lib.hid (show codC vs us = 0 by
          rw [f2.out]; unfold fitB
          have : vs = [] := List.eq_nil_of_length_eq_zero (by rw [hl.out]; exact hN)
          rw [hl'.out, hB, this]; rfl)
        have hB := Lib.hid hB
        subst hN
        go_enter Tryd.func54, Tryd.ntmps54
        go_wp2_with fail
        refine hW.out.mono ?_
        rintro e w1 ⟨rfl, r, rfl⟩
        have hBk := Lib.hid (fun (i : Nat) => RBook_any A' n c' us ((w.drewN r).drewN i) (h'.below (bel_drewN (bel_drewN (Below.refl _ _) r) i)))
        rw [hB.out] at hBk
        generalize hw : w.drewN r = w1 at *
        have hw := Lib.hid hw
        go_wp2
        go_quiet ((go_at_call 50; exact Calls.quiet_of (hBk.out _)))
        go_wp2
        go_ret
        exact ⟨ret_int hv.out.symm, r + nq, by rw [← hw.out]; exact dr_add w r nq⟩
      · have hvE := Lib.hid (show codC vs us = if (vs.headD []).length = (us.headD []).length then 0 else 2 by
          rw [f2.out]; unfold fitB
          have : vs.isEmpty = false := by cases vs with
            | nil => have := hl.out; simp at this; omega
            | cons v vs => rfl
          rw [hl'.out, hB, this]
          simp)
        have hB := Lib.hid hB
        obtain ⟨ad, B, L, C, x, rfl, hcx, hx, hS, _⟩ := rr_head h hN
        obtain ⟨ad2, B2, L2, C2, x2, rfl, hcx2, hx2, hS2, _⟩ := rr_head h' hn1
        rw [hx, hx2, hS.len, hS2.len] at hvE
        clear hx hx2
        have i1 : (0 : Int) < (N : Int) := by omega
        have i2 : (0 : Int) < (n : Int) := by omega
        have d1 : decide (0 < (N : Int)) = true := decide_eq_true i1
        go_enter Tryd.func54, Tryd.ntmps54
        go_wp2_with fail
        refine hW.out.mono ?_
        rintro e w1 ⟨rfl, r, rfl⟩
        have hBk := Lib.hid (fun (i : Nat) => RBook_any _ n c' us ((w.drewN r).drewN i) (h'.below (bel_drewN (bel_drewN (Below.refl _ _) r) i)))
        rw [hB.out] at hBk
        have hcr : (w.drewN r).cell? ad = some (.slice B L C) := hcx
        have hcr2 : (w.drewN r).cell? ad2 = some (.slice B2 L2 C2) := hcx2
        generalize hw : w.drewN r = w1 at *
        have hw := Lib.hid hw
        by_cases hLL : L = L2
        · have hv := Lib.hid (show codC vs us = 0 by rw [hvE.out, if_pos hLL])
          subst hLL
          go_wp2
          go_quiet ((go_at_call 50; exact Calls.quiet_of (hBk.out _)))
          go_wp2
          go_ret
          exact ⟨ret_int hv.out.symm, r + nq, by rw [← hw.out]; exact dr_add w r nq⟩
        · have hv := Lib.hid (show codC vs us = 2 by rw [hvE.out, if_neg hLL])
          have d3 : ((L : Int) == (L2 : Int)) = false := by rw [beq_eq_false_iff_ne]; omega
          have d4 : ((L : Int) != (L2 : Int)) = true := by rw [bne_iff_ne]; omega
          have d5 : ¬ (L : Int) = (L2 : Int) := by omega
          go_wp2
          go_quiet ((go_at_call 50; exact Calls.quiet_of (hBk.out _)))
          go_wp2
          go_ret
          exact ⟨ret_int hv.out.symm, r + nq, by rw [← hw.out]; exact dr_add w r nq⟩
  · have hv := Lib.hid (f1 h0)
    clear f1 f2
    have hne : (chk1 vs == 0) = false := by simp [h0]
    have hne2 : (chk1 vs != 0) = true := by simp [h0]
    generalize chk1 vs = q at *
    go_enter Tryd.func54, Tryd.ntmps54
    go_wp2_with fail
    refine hW.out.mono ?_
    rintro e w1 ⟨rfl, r, rfl⟩
    go_wp2
    go_ret
    exact ⟨ret_int hv.out.symm, r, rfl⟩

theorem cst_bd {m : Nat} {vs us : List (List Int)} (hN : vs.length ≤ 10000) (hm : m ≤ 64) (hv : VecS m vs) (hu : VecS m us) (hn1 : 1 ≤ us.length) : (∀ i, i < vs.length → 0 ≤ cstF vs us i ∧ cstF vs us i ≤ 281474976710656) ∧ ∀ k, k ≤ vs.length → -2814749767106560000 ≤ sm k (cstF vs us) ∧ sm k (cstF vs us) ≤ 2814749767106560000 := by
  have hone : ∀ i, i < vs.length → 0 ≤ cstF vs us i ∧ cstF vs us i ≤ 281474976710656 := fun i hi => by
    have hm9 : vs.getD i [] ∈ vs := by rw [List.getD_eq_getElem?_getD, List.getElem?_eq_getElem hi]; exact List.getElem_mem _
    have h9 := hv _ hm9
    have hb := nrS_bd h9.2 (by rw [h9.1]; exact hm) (fun u h8 => by rw [h9.1]; exact hu u h8) (k := us.length) (Nat.le_refl _)
    exact ⟨hb.2.1, (hb.2.2.2 (by omega)).1⟩
  refine ⟨hone, fun k hk => ?_⟩
  have := sm_bd (f := cstF vs us) (m := 281474976710656) (n := k) (fun i hi => by have := hone i (by omega); omega)
  omega

set_option maxHeartbeats 1600000 in
set_option maxRecDepth 100000 in
theorem Cost_any (A A' : Option Addr) (N c n c' : Nat) (vs us : List (List Int)) (w : World) (h : Rr w A N c vs) (h' : Rr w A' n c' us) :
    Calls Tryd.prog 53 #[.slice A N c, .slice A' n c'] w fun e w' => (codC vs us = 0 ∧ e = .returned (.tuple #[.int .i64 (cst vs us), .int .i64 0]) ∧ Below w.heap.size w w') ∨ (codC vs us ≠ 0 ∧ e = .returned (.tuple #[.int .i64 0, .int .i64 (codC vs us)]) ∧ Below w.heap.size w w') := by
  have hl := Lib.hid h.len
  have hl' := Lib.hid h'.len
  have hcap := h.cap
  have htop := h.top
  have hcap' := h'.cap
  have htop' := h'.top
  have hc := Lib.hid (checkCoding_any A A' N c n c' vs us w h h')
  go_enter Tryd.func53, Tryd.ntmps53
  go_wp2_with fail
  refine hc.out.mono ?_
  rintro e w2 ⟨rfl, hb2⟩
  clear hc
  by_cases h0 : codC vs us = 0
  · obtain ⟨k1, k2, k3, k4, k5, k6, k7⟩ := codC_ok h0
    have hbd := Lib.hid (cst_bd (m := (us.headD []).length) k1 k5 k6 k7 k3)
    rw [hl.out] at k1 hbd
    rw [h0]
    have h0 := Lib.hid h0
    generalize (us.headD []).length = m at *
    have hv := Lib.hid k6
    have hu := Lib.hid k7
    have hC := Lib.hid (show cst vs us = sm N (cstF vs us) by unfold cst; rw [hl.out])
    clear k6 k7
    go_wp2
    go_loopw [7, 20] (fun sv iv wr => ∃ k : Nat, iv = .int .i64 k ∧ k ≤ N ∧ sv = .int .i64 (sm k (cstF vs us)) ∧ Below w.heap.size w wr) (fun _ iv _ => N - (intOf iv).toNat)
    case atStart => exact ⟨0, rfl, Nat.zero_le _, rfl, hb2⟩
    case round =>
      obtain ⟨k, rfl, hkn, rfl, hbr⟩ := hrel
      rcases Nat.lt_or_ge k N with hlt | hge
      · have hr := h.below hbr
        have hr' := h'.below hbr
        obtain ⟨ad, B, L, C, x, rfl, hcx, hx, hS, _⟩ := hr.at_ hlt
        have hum := hv.out x (List.mem_of_getElem? hx.out)
        have hLm : L = m := by rw [← hS.len]; exact hum.1
        subst hLm
        have hxb := Lib.hid hum.2
        have hNr := Lib.hid (fun w9 h9 h9' => nearest_any B A' L C n c' x us w9 h9 h9' hxb.out k4 k5 (fun u h8 => hu.out u h8))
        have hE := Lib.hid (show (nrS x us n).2 = cstF vs us k by unfold cstF; rw [getD_some hx.out, hl'.out])
        rw [hE.out] at hNr
        have ho := hbd.out.1 k hlt
        have hs := hbd.out.2 k hkn
        have hstep := Lib.hid (show sm (k + 1) (cstF vs us) = sm k (cstF vs us) + cstF vs us k from rfl)
        generalize (nrS x us n).1 = K at *
        generalize cstF vs us k = E at *
        generalize sm k (cstF vs us) = S at *
        have i0 : (0 : Int) ≤ (k : Int) := by omega
        have i1 : (k : Int) < (N : Int) := by omega
        have e3 : IntKind.i64.wrap (S + E) = S + E := IntWalk.i64_in _ (by omega)
        clear hum hE
        go_wp2_with fail
        refine (hNr.out _ hS hr').mono ?_
        rintro e w3 ⟨rfl, q, hw3⟩
        have hb3 : Below w.heap.size w w3 := by rw [hw3]; exact bel_drewN hbr q
        clear hw3 ho hs
        go_wp2
        go_roundw
        case rel => exact ⟨k + 1, by go_num, hlt, by rw [hstep.out], hb3⟩
        case measure => simp [intOf]; omega
      · have hkn' : k = N := by omega
        subst hkn'
        go_wp2
        go_ret2
        exact .inl ⟨h0.out, by rw [hC.out]; rfl, hbr⟩
  · have hne : (codC vs us == 0) = false := by simp [h0]
    have hne2 : (codC vs us != 0) = true := by simp [h0]
    generalize hq : codC vs us = q at *
    have hq := Lib.hid hq
    go_wp2
    go_ret2
    exact .inr ⟨by rw [hq.out]; exact h0, by rw [hq.out]; rfl, hb2⟩

set_option maxHeartbeats 4000000 in
set_option maxRecDepth 100000 in
theorem RQuantize_any (A A' : Option Addr) (N c n c' m : Nat) (vs us : List (List Int)) (w : World) (h : Rr w A N c vs) (h' : Rr w A' n c' us) (hN : N ≤ 10000) (hm : m ≤ 64) (hv : VecS m vs) (hu : VecS m us) (hn1 : 1 ≤ n) :
    Calls Tryd.prog 55 #[.slice A N c, .slice A' n c'] w fun e w' => ∃ A2 c2, e = .returned (.slice A2 N c2) ∧ Sl .i64 w' A2 N c2 (tab N fun i => ((nrS (vs.getD i []) us n).1 : Nat)) ∧ Below w.heap.size w w' := by
  have hcap := h.cap
  have htop := h.top
  have hv := Lib.hid hv
  have hu := Lib.hid hu
  obtain ⟨i0, hi, hz0, hz1, hz2⟩ := info_parts info_int
  go_enter Tryd.func55, Tryd.ntmps55
  go_wp2
  go_loopw [5, 6] (fun ov iv wr => ∃ (k : Nat) (V : Value), iv = .int .i64 k ∧ V = ov ∧ k ≤ N ∧ wr.ownsRow w.heap.size 3 1 V k (ivs .i64 (tab k fun i => ((nrS (vs.getD i []) us n).1 : Nat))) ∧ Below w.heap.size w wr) (fun _ iv _ => N - (intOf iv).toNat)
  case atStart => exact ⟨0, _, rfl, rfl, Nat.zero_le _, World.ownsRow_nil _ _ _ _, Below.refl _ _⟩
  case round =>
    obtain ⟨k, V, rfl, rfl, hkn, hown, hbel⟩ := hrel
    rcases Nat.lt_or_ge k N with hlt | hge
    · have hr := h.below hbel
      have hr' := h'.below hbel
      obtain ⟨ad, B, L, C, x, rfl, hcx, hx, hS, _⟩ := hr.at_ hlt
      have hum := hv.out x (List.mem_of_getElem? hx.out)
      have hLm : L = m := by rw [← hS.len]; exact hum.1
      subst hLm
      have hxb := Lib.hid hum.2
      have hNr := Lib.hid (fun w9 h9 h9' => RNearest_any B A' L C n c' x us w9 h9 h9' hxb.out hm hn1 (fun u h8 => hu.out u h8))
      have hy := Lib.hid (show ((nrS x us n).1 : Int) = ((nrS (vs.getD k []) us n).1 : Nat) by rw [getD_some hx.out])
      generalize (nrS x us n).1 = K at *
      have i1 : (k : Int) < (N : Int) := by omega
      have i2 : (0 : Int) ≤ (k : Int) := by omega
      clear hum
      go_wp2_with fail
      refine (hNr.out _ hS hr').mono ?_
      rintro e w3 ⟨rfl, q, hw3⟩
      have hb3 : Below w.heap.size w w3 := by rw [hw3]; exact bel_drewN hbel q
      have hown3 : w3.ownsRow w.heap.size 3 1 V k (ivs .i64 (tab k fun i => ((nrS (vs.getD i []) us n).1 : Nat))) := by rw [hw3]; exact hown
      clear hw3
      go_wp2_with (at_builtin; refine wpList_append_own _ rfl (.tmp 13) (.tmp 20) 30 rfl w.heap.size 3 i0 (.int .i64 0) 1 8 Tryd.underlying30 hi hz0 hz1 hz2 rfl (by decide) V k (ivs .i64 (tab k fun i => ((nrS (vs.getD i []) us n).1 : Nat))) rfl (hown3.alloc _) ⟨w3.heap.size, 0, none⟩ 1 1 [.int .i64 (K : Int)] rfl rfl (news_one _ _ _) (oneCell1 _) ?ha3 ?ha4 ?ha5 ?_)
      case ha3 => unfold maxLen; omega
      case ha4 => omega
      case ha5 => have := hb3.size; simp; omega
      intro v1 w5 hown5 hg5 _
      have hown6 : w5.ownsRow w.heap.size 3 1 v1 (k + 1) (ivs .i64 (tab (k + 1) fun i => ((nrS (vs.getD i []) us n).1 : Nat))) := by rw [tab_succ, ivs_snoc, ← hy.out]; exact hown5
      have hb5 : Below w.heap.size w w5 := (hb3.alloc hb3.size _).grown hg5 (by have := hb3.size; simp; omega) (fun q hq => (hown3.lt q hq).1)
      clear hown5
      go_wp2
      go_roundw
      case rel => exact ⟨k + 1, v1, by go_num, rfl, by omega, hown6, hb5⟩
      case measure => simp [intOf]; omega
    · have hkn' : k = N := by omega
      subst hkn'
      obtain ⟨A2, c2, rfl, hS2⟩ := Sl.of_own hown
      go_wp2
      go_ret
      exact ⟨A2, c2, rfl, hS2, hbel⟩
end Go.Proofs.YtoljffghaklpdaaDoor
