/- Distances and nearest codewords: the program's. -/
import Derived.Test.YtjpdgnbdbpgnmaaDoorHL
namespace Go.Proofs.YtjpdgnbdbpgnmaaDoor
open Go.RowKit

theorem lit1 (w : World) (A : Option Addr) (n c : Nat) (xs : List Int) (h : Sl .i64 w A n c xs) (hz : A = none → c = 0) (hn : n ≤ 17592186044416) :
    Rr (w.alloc (.cells #[.slice A n c] 30)) (some ⟨w.heap.size, 0, none⟩) 1 1 [xs] ∧ Below w.heap.size w (w.alloc (.cells #[.slice A n c] 30)) :=
  ⟨Rr.of_blk (news := [.slice A n c]) (Blk.new w 30 #[.slice A n c]) (RowL.one (h.alloc _) hz hn) rfl (by decide), (Below.refl w.heap.size w).alloc (Nat.le_refl _) _⟩
theorem lit2 (w : World) (A A' : Option Addr) (n c n' c' : Nat) (xs ys : List Int) (h : Sl .i64 w A n c xs) (h' : Sl .i64 w A' n' c' ys) (hz : A = none → c = 0) (hz' : A' = none → c' = 0) (hn : n ≤ 17592186044416) (hn' : n' ≤ 17592186044416) :
    Rr (w.alloc (.cells #[.slice A n c, .slice A' n' c'] 30)) (some ⟨w.heap.size, 0, none⟩) 2 2 [xs, ys] ∧ Below w.heap.size w (w.alloc (.cells #[.slice A n c, .slice A' n' c'] 30)) :=
  ⟨Rr.of_blk (news := [.slice A n c, .slice A' n' c']) (Blk.new w 30 #[.slice A n c, .slice A' n' c']) ((RowL.one (h.alloc _) hz hn).app (RowL.one (h'.alloc _) hz' hn')) rfl (by decide), (Below.refl w.heap.size w).alloc (Nat.le_refl _) _⟩

theorem vecB_all {x : List Int} (h : vecB x = true) : 1 ≤ x.length ∧ x.length ≤ 64 ∧ allB (-1048576) 1048576 x = true := by
  unfold vecB at h
  simp only [Bool.and_eq_true] at h
  have := okB_iff.1 h.1
  exact ⟨by omega, by omega, h.2⟩
theorem vecs2 (xs ys : List Int) : vecsB [xs, ys] = (vecB xs && (vecB ys && decide (ys.length = xs.length))) := by
  unfold vecsB rowOk
  simp
theorem vecs1 (xs : List Int) : vecsB [xs] = vecB xs := by
  unfold vecsB rowOk
  simp

set_option maxHeartbeats 800000 in
set_option maxRecDepth 100000 in
theorem distance_any (A A' : Option Addr) (n c c' : Nat) (xs ys : List Int) (w : World) (h : Sl .i64 w A n c xs) (h' : Sl .i64 w A' n c' ys) (hz' : A' = none → c' = 0) (hn1 : 1 ≤ n) (hn : n ≤ 64)
    (hx : allB (-1048576) 1048576 xs = true) (hy : allB (-1048576) 1048576 ys = true) :
    Calls Tryd.prog 82 #[.slice A n c, .slice A' n c'] w fun e w' => e = .returned (.int .i64 (dist xs ys)) ∧ Below w.heap.size w w' := by
  have hl := Lib.hid h.len
  have hl' := Lib.hid h'.len
  obtain ⟨hR, hb⟩ := lit1 w A' n c' ys h' hz' (by omega)
  have hd := dsS_bd hx hy (by rw [hl.out, hl'.out]) (by rw [hl.out]; exact hn) (Nat.le_refl _)
  have hv := Lib.hid (show (nrS xs [ys] 1).2 = dist xs ys by
    show (if dist xs ys < 9223372036854775807 then ((0 : Nat), dist xs ys) else (0, 9223372036854775807)).2 = _
    rw [if_pos (by have : dist xs ys ≤ 281474976710656 := hd.2; omega)])
  have hS := h.below hb
  have hy2 := Lib.hid hy
  go_enter Tryd.func82, Tryd.ntmps82
  go_wp2_with fail
  refine (nearest_any _ _ _ _ _ _ _ _ _ hS hR hx hn1 hn (fun u hu => by
    rw [List.mem_singleton] at hu
    subst hu
    exact ⟨hl'.out, hy2.out⟩)).mono ?_
  rintro e w2 ⟨rfl, r, hw2⟩
  have hb2 : Below w.heap.size w w2 := by rw [hw2]; exact bel_drewN hb r
  clear hw2
  go_wp2
  go_ret
  exact ⟨ret_int hv.out, hb2⟩

set_option maxHeartbeats 800000 in
set_option maxRecDepth 100000 in
theorem Distance_any (A A' : Option Addr) (n c n' c' : Nat) (xs ys : List Int) (w : World) (h : Sl .i64 w A n c xs) (h' : Sl .i64 w A' n' c' ys) (hz : A = none → c = 0) (hz' : A' = none → c' = 0) (hn : n ≤ 70) (hn' : n' ≤ 70) :
    Calls Tryd.prog 47 #[.slice A n c, .slice A' n' c'] w fun e w' =>
      (vecsB [xs, ys] = true ∧ e = .returned (.tuple #[.int .i64 (dist xs ys), .int .i64 0]) ∧ Below w.heap.size w w') ∨ (vecsB [xs, ys] = false ∧ e = .returned (.tuple #[.int .i64 0, .int .i64 2]) ∧ Below w.heap.size w w') := by
  have hl := Lib.hid h.len
  have hl' := Lib.hid h'.len
  obtain ⟨hR, hb⟩ := lit2 w A A' n c n' c' xs ys h h' hz hz' (by omega) (by omega)
  have hc0 := check1_any _ _ _ _ _ hR
  have e1 : (w.alloc (.cells #[.slice A n c, .slice A' n' c'] 30)).heap.size = w.heap.size + 1 := by simp
  rw [e1] at hc0
  have hc := Lib.hid hc0
  clear hc0
  have hk := Lib.hid (show chk1 [xs, ys] = if vecsB [xs, ys] = true then 0 else 2 by unfold chk1; rw [if_neg (show ¬ 10000 < [xs, ys].length by simp)])
  go_enter Tryd.func47, Tryd.ntmps47
  go_wp2_with fail
  refine hc.out.mono ?_
  rintro e w2 ⟨rfl, hb02⟩
  rw [← e1] at hb02
  have hb2 := hb.trans (hb02.mono hb.size)
  clear hc e1 hb02
  rw [hk.out]
  cases hv : vecsB [xs, ys] with
  | false =>
    have hv := Lib.hid hv
    rw [if_neg (by decide)]
    go_wp2
    go_ret2
    exact .inr ⟨hv.out, rfl, hb2⟩
  | true =>
    have hv0 := Lib.hid hv
    rw [vecs2] at hv
    simp only [Bool.and_eq_true, decide_eq_true_eq] at hv
    obtain ⟨v1, v2, v3⟩ := hv
    obtain ⟨a1, a2, a3⟩ := vecB_all v1
    obtain ⟨b1, b2, b3⟩ := vecB_all v2
    rw [hl.out, hl'.out] at v3
    rw [hl.out] at a1 a2
    subst v3
    rw [if_pos rfl]
    go_wp2_with fail
    refine (distance_any _ _ _ _ _ _ _ _ (h.below hb2) (h'.below hb2) hz' a1 a2 a3 b3).mono ?_
    rintro e w3 ⟨rfl, hb3⟩
    have hb33 := hb2.trans (hb3.mono hb2.size)
    go_wp2
    go_ret2
    exact .inl ⟨hv0.out, rfl, hb33⟩

theorem vecs_cons {x : List Int} {us : List (List Int)} (h : 1 ≤ us.length) : vecsB (x :: us) = (vecB x && (vecsB us && decide (x.length = (us.headD []).length))) := by
  cases us with
  | nil => exact absurd h (by simp)
  | cons u us =>
    rw [Bool.eq_iff_iff]
    unfold vecsB rowOk
    simp only [List.all_cons, List.headD_cons, Bool.and_eq_true, List.all_eq_true]
    constructor
    · rintro ⟨⟨h1, _⟩, ⟨h2, h3⟩, h4⟩
      have e3 := of_decide_eq_true h3
      exact ⟨h1, ⟨⟨h2, by first | trivial | exact (decide_eq_true rfl) | simp⟩, fun y hy => ⟨(h4 y hy).1, decide_eq_true ((of_decide_eq_true (h4 y hy).2).trans e3.symm)⟩⟩, decide_eq_true e3.symm⟩
    · rintro ⟨h1, ⟨⟨h2, _⟩, h4⟩, h3⟩
      have e3 := of_decide_eq_true h3
      exact ⟨⟨h1, by first | trivial | exact (decide_eq_true rfl) | simp⟩, ⟨h2, decide_eq_true e3.symm⟩, fun y hy => ⟨(h4 y hy).1, decide_eq_true ((of_decide_eq_true (h4 y hy).2).trans e3.symm)⟩⟩
theorem cod1 {x : List Int} {us : List (List Int)} (h : us.length ≤ 10000) : codC [x] us = if (vecB x && (okB 1 256 us.length && (vecsB us && decide (x.length = (us.headD []).length)))) = true then 0 else 2 := by
  have e2 : chk2 [x] us = if vecsB (x :: us) = true then 0 else 2 := by
    unfold chk2
    rw [if_neg (by simp; omega)]
    rfl
  unfold codC
  rw [e2]
  rcases Nat.lt_or_ge us.length 1 with h1 | h1
  · rw [okB_lo (lo := 1) (hi := 256) (x := (us.length : Int)) (by omega)]
    cases vecB x <;> cases vecsB (x :: us) <;> simp
  · rw [vecs_cons h1]
    cases vecB x <;> cases okB 1 256 (us.length : Int) <;> cases vecsB us <;> cases decide (x.length = (us.headD []).length) <;> simp

set_option maxHeartbeats 800000 in
theorem Nearest_any (A A' : Option Addr) (m c n c' : Nat) (xs : List Int) (us : List (List Int)) (w : World) (h : Sl .i64 w A m c xs) (h' : Rr w A' n c' us) (hz : A = none → c = 0) (hm : m ≤ 70) :
    Calls Tryd.prog 49 #[.slice A m c, .slice A' n c'] w fun e w' =>
      (codC [xs] us = 0 ∧ e = .returned (.tuple #[.int .i64 ((nrS xs us n).1 : Nat), .int .i64 (nrS xs us n).2, .int .i64 0]) ∧ Below w.heap.size w w') ∨ (codC [xs] us ≠ 0 ∧ e = .returned (.tuple #[.int .i64 0, .int .i64 0, .int .i64 (codC [xs] us)]) ∧ Below w.heap.size w w') := by
  have hl := Lib.hid h.len
  obtain ⟨hR, hb⟩ := lit1 w A m c xs h hz (by omega)
  have hc := Lib.hid (checkCoding_any _ _ _ _ _ _ _ _ _ hR (h'.below hb))
  go_enter Tryd.func49, Tryd.ntmps49
  go_wp2_with fail
  refine hc.out.mono ?_
  rintro e w2 ⟨rfl, hb2⟩
  have hb2 := hb.trans (hb2.mono hb.size)
  clear hc
  by_cases h0 : codC [xs] us = 0
  · obtain ⟨k1, k2, k3, k4, k5, k6, k7⟩ := codC_ok h0
    have hxm := k6 xs (by simp)
    rw [h0]
    have hm' := hxm.1
    rw [hl.out] at hm'
    rw [← hm'] at k4 k5 k7
    have h0 := Lib.hid h0
    have hx2 := Lib.hid hxm.2
    have hk7 := Lib.hid k7
    clear hxm k6 k7 hm'
    go_wp2_with fail
    refine (nearest_any _ _ _ _ _ _ _ _ _ (h.below hb2) (h'.below hb2) hx2.out k4 k5 (fun u hu => hk7.out u hu)).mono ?_
    rintro e w3 ⟨rfl, r, hw3⟩
    have hb3 : Below w.heap.size w w3 := by rw [hw3]; exact bel_drewN hb2 r
    clear hw3
    generalize hN : nrS xs us n = N at *
    have hN := Lib.hid hN
    go_wp2
    go_ret3
    exact .inl ⟨h0.out, by rw [hN.out]; rfl, hb3⟩
  · have hne : (codC [xs] us == 0) = false := by simp [h0]
    have hne2 : (codC [xs] us != 0) = true := by simp [h0]
    generalize hq : codC [xs] us = q at *
    have hq := Lib.hid hq
    go_wp2
    go_ret3
    exact .inr ⟨by rw [hq.out]; exact h0, by rw [hq.out]; rfl, hb2⟩
end Go.Proofs.YtjpdgnbdbpgnmaaDoor
