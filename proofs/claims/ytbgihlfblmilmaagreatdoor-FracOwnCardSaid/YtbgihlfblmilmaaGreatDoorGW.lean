/- Products of lists. -/
import Derived.Test.YtbgihlfblmilmaaGreatDoorGU
namespace Go.Proofs.YtbgihlfblmilmaaGreatDoor.Fr
open Go.RowKit Num

/-- the product of numbers taken apart -/
def pstep (a t : Tr) : Tr := (a.1 != t.1, a.2.1 * t.2.1, a.2.2 * t.2.2)
theorem pstep_q (a t : Tr) : tq (pstep a t) = tq a * tq t := by unfold tq pstep; rw [fq_mul]
theorem pfold_q (ts : List Tr) (a : Tr) : tq (ts.foldl pstep a) = (ts.map tq).foldl (· * ·) (tq a) := by
  induction ts generalizing a with
  | nil => rfl
  | cons t l ih => rw [List.foldl_cons, ih, pstep_q, List.map_cons, List.foldl_cons]
theorem pfold_n (ts : List Tr) (a : Tr) : (ts.foldl pstep a).2.1 = (ts.map fun t => t.2.1).foldl (fun a b => a * b) a.2.1 := by
  induction ts generalizing a with
  | nil => rfl
  | cons t l ih => rw [List.foldl_cons, ih, List.map_cons, List.foldl_cons]; rfl
theorem pfold_d (ts : List Tr) (a : Tr) : (ts.foldl pstep a).2.2 = (ts.map fun t => t.2.2).foldl (fun a b => a * b) a.2.2 := by
  induction ts generalizing a with
  | nil => rfl
  | cons t l ih => rw [List.foldl_cons, ih, List.map_cons, List.foldl_cons]; rfl
theorem pfold_pos {ts : List Tr} (h : ∀ t ∈ ts, 0 < t.2.2) {a : Tr} (ha : 0 < a.2.2) : 0 < (ts.foldl pstep a).2.2 := by
  induction ts generalizing a with
  | nil => exact ha
  | cons t l ih => exact ih (fun u hu => h u (List.mem_cons_of_mem _ hu)) (Nat.mul_pos ha (h t (List.mem_cons_self ..)))
theorem tq_one : tq (false, 1, 1) = 1 := (fq_one (by decide)).2 rfl
theorem noi_snoc {n k : Nat} {vals : List Value} (h : ∀ (i : Nat) (v : Value), vals[i]? = some v → ∃ a b d, v = .slice a b d) : ∀ (i : Nat) (v : Value), (vals ++ List.replicate (n - k) (Value.slice none 0 0)).toArray[i]? = some v → ∃ a b d, v = .slice a b d := by
  intro i v hv
  simp only [List.getElem?_toArray] at hv
  have hm := List.mem_of_getElem? hv
  rcases List.mem_append.1 hm with hm | hm
  · obtain ⟨i2, hi2, rfl⟩ := List.getElem_of_mem hm
    exact h i2 _ (List.getElem?_eq_getElem hi2)
  · exact ⟨_, _, _, (List.mem_replicate.1 hm).2⟩
theorem NVs.sl {w : World} {L : Nat} {vals : List Value} {xs : List Nat} (h : NVs w L vals xs) : ∀ (i : Nat) (v : Value), vals[i]? = some v → ∃ a b d, v = .slice a b d := by
  intro i v hv
  have hi : i < xs.length := by rw [← h.1]; exact (List.getElem?_eq_some_iff.1 hv).1
  obtain ⟨a, b, d, _, e, _⟩ := h.2 i _ _ hv (List.getElem?_eq_getElem hi)
  exact ⟨a, b, d, e⟩

/-- two blocks of numbers, side by side -/
structure PR (w : World) (g1 g2 n k L : Nat) (xs ys : List Nat) : Prop where
  ex : ∃ us vs, Blk w g1 65 (us ++ List.replicate (n - k) (Value.slice none 0 0)).toArray ∧ Blk w g2 65 (vs ++ List.replicate (n - k) (Value.slice none 0 0)).toArray ∧ NVs w L us xs ∧ NVs w L vs ys ∧ us.length = k ∧ vs.length = k
theorem PR.swap {w : World} {g1 g2 n k L : Nat} {xs ys : List Nat} (h : PR w g1 g2 n k L xs ys) : PR w g2 g1 n k L ys xs := by
  obtain ⟨us, vs, h1, h2, h3, h4, h5, h6⟩ := h.ex
  exact ⟨vs, us, h2, h1, h4, h3, h6, h5⟩
theorem PR.below {w w' : World} {g1 g2 n k L : Nat} {xs ys : List Nat} (h : PR w g1 g2 n k L xs ys) (hb : Below w.heap.size w w') : PR w' g1 g2 n k L xs ys := by
  obtain ⟨us, vs, h1, h2, h3, h4, h5, h6⟩ := h.ex
  exact ⟨us, vs, h1.below hb, h2.below hb, h3.below hb, h4.below hb, h5, h6⟩
theorem PR.put {w : World} {g1 g2 n k L x y : Nat} {xs ys : List Nat} {A1 A2 : Option Addr} {m1 c1 m2 c2 : Nat} (h : PR w g1 g2 n k L xs ys) (hne : g1 ≠ g2) (hk : k < n) (hx : NV .u64 w (.slice A1 m1 c1) x L) (hy : NV .u64 w (.slice A2 m2 c2) y L) :
    PR ((w.setCell ⟨g1, k, none⟩ (.slice A1 m1 c1)).setCell ⟨g2, k, none⟩ (.slice A2 m2 c2)) g1 g2 n (k + 1) L (xs ++ [x]) (ys ++ [y]) := by
  obtain ⟨us, vs, h1, h2, h3, h4, h5, h6⟩ := h.ex
  have s1 := h1.set_ k (.slice A1 m1 c1)
  rw [set_snoc us _ h5 hk] at s1
  have s2 := (h2.far (p := ⟨g1, k, none⟩) (show g2 ≠ g1 from fun e => hne e.symm) (.slice A1 m1 c1)).set_ k (.slice A2 m2 c2)
  rw [set_snoc vs _ h6 hk] at s2
  have q1 := noi_snoc (n := n) (k := k) h3.sl
  have q2 := noi_snoc (n := n) (k := k) h4.sl
  have h2' := h2.far (p := ⟨g1, k, none⟩) (show g2 ≠ g1 from fun e => hne e.symm) (.slice A1 m1 c1)
  have t1 := NVs.setb (NVs.setb (NVs.snoc h3 hx) h1 q1 k (.slice A1 m1 c1)) h2' q2 k (.slice A2 m2 c2)
  have t2 := NVs.setb (NVs.setb (NVs.snoc h4 hy) h1 q1 k (.slice A1 m1 c1)) h2' q2 k (.slice A2 m2 c2)
  exact ⟨_, _, s1.far (p := ⟨g2, k, none⟩) hne _, s2, t1, t2, by simp [h5], by simp [h6]⟩
theorem PR.cell1 {w : World} {g1 g2 n k L : Nat} {xs ys : List Nat} (h : PR w g1 g2 n k L xs ys) (hk : k < n) : w.cell? ⟨g1, k, none⟩ = some (.slice none 0 0) ∧ w.frozen? ⟨g1, k, none⟩ = false := by
  obtain ⟨us, vs, h1, h2, h3, h4, h5, h6⟩ := h.ex
  refine ⟨?_, h1.frozen k⟩
  rw [h1.cell k]
  simp only [List.getElem?_toArray]
  rw [List.getElem?_append_right (by rw [h5]; exact Nat.le_refl _), h5, Nat.sub_self, List.getElem?_replicate, if_pos (by omega)]
theorem PR.lt {w : World} {g1 g2 n k L : Nat} {xs ys : List Nat} (h : PR w g1 g2 n k L xs ys) : g1 < w.heap.size ∧ g2 < w.heap.size := by
  obtain ⟨us, vs, h1, h2, _⟩ := h.ex
  exact ⟨h1.lt, h2.lt⟩
theorem PR.done {w : World} {g1 g2 n L : Nat} {xs ys : List Nat} (h : PR w g1 g2 n n L xs ys) (hn : n ≤ 9223372036854775807) : Ns w (some ⟨g1, 0, none⟩) n n L xs := by
  obtain ⟨us, vs, h1, h2, h3, h4, h5, h6⟩ := h.ex
  rw [Nat.sub_self, List.replicate_zero, List.append_nil] at h1
  have := Ns.of_blk h1 h3 (by omega)
  rw [h5] at this
  exact this

set_option maxHeartbeats 12800000 in
set_option maxRecDepth 100000 in
theorem product_raw (A : Option Addr) (n c L : Nat) (ts : List Tr) (w : World) (h : Lr w A n c L ts) (hL : 1 + n * L ≤ 100000) (hn : n ≤ 100000) (hL2 : L ≤ 100000) :
    Calls Tryz.prog 103 #[.slice A n c] w (RetQQ w ((ts.map tq).foldl (· * ·) 1) (1 + n * L)) := by
  have hmk := make_nats n (by omega)
  have hc1 := h.cap
  have hc2 := h.top
  have hlen := Lib.hid h.len
  have hden := Lib.hid h.den
  have B1 := Blk.new w 67 #[.bool false, .slice none 0 0, .slice none 0 0]
  have hw0 := (Below.refl w.heap.size w).alloc (Nat.le_refl _) (.cells #[.bool false, .slice none 0 0, .slice none 0 0] 67)
  have h1 := h.below hw0
  have hgl := B1.lt
  go_enter Tryz.func103, Tryz.ntmps103
  go_upto_region 2 with fail
  generalize w.alloc (.cells #[.bool false, .slice none 0 0, .slice none 0 0] 67) = w1 at *
  go_cut [4, 5] (fun v1 v2 wx => ∃ g1 g2, v1 = .slice (some ⟨g1, 0, none⟩) n n ∧ v2 = .slice (some ⟨g2, 0, none⟩) n n ∧ g1 ≠ g2 ∧ PR wx g1 g2 n 0 L [] [] ∧ Below w1.heap.size w1 wx ∧ w1.heap.size ≤ g1 ∧ w1.heap.size ≤ g2)
  case first =>
    have z1 := Blk.new w1 65 (Array.replicate n (Value.slice none 0 0))
    have z2 := Blk.new (w1.alloc (.cells (Array.replicate n (Value.slice none 0 0)) 65)) 65 (Array.replicate n (Value.slice none 0 0))
    have z3 := z1.alloc (.cells (Array.replicate n (Value.slice none 0 0)) 65)
    rw [show (w1.alloc (.cells (Array.replicate n (Value.slice none 0 0)) 65)).heap.size = w1.heap.size + 1 by simp] at z2
    have z4 := ((Below.refl w1.heap.size w1).alloc (Nat.le_refl _) (.cells (Array.replicate n (Value.slice none 0 0)) 65)).alloc (by simp) (.cells (Array.replicate n (Value.slice none 0 0)) 65)
    have z5 : Below w1.heap.size w1 ((w1.alloc (.cells (Array.replicate n (Value.slice none 0 0)) 65)).alloc (.cells (Array.replicate n (Value.slice none 0 0)) 65)).drew := bel_drewN z4 1
    have e0 : Array.replicate n (Value.slice none 0 0) = (([] : List Value) ++ List.replicate (n - 0) (Value.slice none 0 0)).toArray := by simp
    have z6 : PR ((w1.alloc (.cells (Array.replicate n (Value.slice none 0 0)) 65)).alloc (.cells (Array.replicate n (Value.slice none 0 0)) 65)).drew w1.heap.size (w1.heap.size + 1) n 0 L [] [] := ⟨[], [], by rw [← e0]; exact z3.drew, by rw [← e0]; exact z2.drew, NVs.nil _ _, NVs.nil _ _, rfl, rfl⟩
    clear z1 z2 z3 z4 e0
    go_region
    all_goals (go_wp2_with fail; go_meet)
    · exact ⟨_, _, rfl, rfl, by omega, z6, z5, Nat.le_refl _, by omega⟩
    · exact ⟨_, _, rfl, rfl, by omega, z6.swap, z5, by omega, Nat.le_refl _⟩
  case rest =>
    obtain ⟨g1, g2, rfl, rfl, hg12, hR0, hbc, hg1, hg2⟩ := hcut
    have hx1 := hw0.size
    go_wp2_with fail
    go_loopw [3, 16] (fun bv iv wr => ∃ k : Nat, iv = .int .i64 k ∧ bv = .bool ((ts.take k).foldl pstep (false, 1, 1)).1 ∧ k ≤ n ∧ PR wr g1 g2 n k L ((ts.map fun t => t.2.1).take k) ((ts.map fun t => t.2.2).take k) ∧ Below w1.heap.size w1 wr) (fun _ iv _ => n - (intOf iv).toNat)
    case atStart => exact ⟨0, rfl, rfl, Nat.zero_le _, hR0, hbc⟩
    case round =>
      clear hR0 hbc
      obtain ⟨k, rfl, rfl, hkn, hR, hb⟩ := hrel
      by_cases hlt : k < n
      · obtain ⟨ad, t, A1, m1, c1, x1, A2, m2, c2, x2, rfl, ht, k0, k1, k2, d1, n1, e1, l1, d2, n2, e2, l2, p1⟩ := (h1.below hb).at_ hlt
        have hba := (Below.refl wr.heap.size wr).alloc (Nat.le_refl _) (.cells #[.bool t.1, .slice A1 m1 c1, .slice A2 m2 c2] 67)
        obtain ⟨xx1, xx2⟩ := hR.lt
        have ne1 : g1 ≠ wr.heap.size := by omega
        have ne2 : g2 ≠ wr.heap.size := by omega
        have ne3 : wr.heap.size ≠ g1 := by omega
        have ne4 : wr.heap.size ≠ g2 := by omega
        have ne5 : g2 ≠ g1 := by omega
        have hst := Lib.hid (show ((ts.take (k + 1)).foldl pstep (false, 1, 1)).1 = (((ts.take k).foldl pstep (false, 1, 1)).1 != t.1) by
          rw [List.take_add_one, ht.out, List.foldl_append]; rfl)
        have ht1 := Lib.hid (show (ts.map fun t => t.2.1).take (k + 1) = (ts.map fun t => t.2.1).take k ++ [t.2.1] by
          rw [List.take_add_one, List.getElem?_map, ht.out]; rfl)
        have ht2 := Lib.hid (show (ts.map fun t => t.2.2).take (k + 1) = (ts.map fun t => t.2.2).take k ++ [t.2.2] by
          rw [List.take_add_one, List.getElem?_map, ht.out]; rfl)
        have B5 := Blk.new wr 67 #[.bool t.1, .slice A1 m1 c1, .slice A2 m2 c2]
        have v1 : NV .u64 wr (.slice A1 m1 c1) t.2.1 L := NV.mk d1 n1 e1 l1
        have v2 : NV .u64 wr (.slice A2 m2 c2) t.2.2 L := NV.mk d2 n2 e2 l2
        have hlt2 := hb.size
        have v1 := v1.below hba
        have v2 := v2.below hba
        have hR := hR.below hba
        have hb := hb.trans (hba.mono hb.size)
        clear hba
        go_upto_region 7 with fail
        generalize wr.alloc (.cells #[.bool t.1, .slice A1 m1 c1, .slice A2 m2 c2] 67) = w5 at *
        have r1 := B5.cell 1
        have r2 := B5.cell 2
        obtain ⟨y1, y2⟩ := hR.cell1 hlt
        obtain ⟨y3, y4⟩ := hR.swap.cell1 hlt
        have hP := hR.put hg12 hlt v1 v2
        have hP' := (hR.swap.put (fun e => hg12 e.symm) hlt v2 v1).swap
        have hb1 := ((hb.setCell (p := ⟨g1, k, none⟩) hg1 (.slice A1 m1 c1)).setCell (p := ⟨g2, k, none⟩) hg2 (.slice A2 m2 c2)).drew
        have hb2 := ((hb.setCell (p := ⟨g2, k, none⟩) hg2 (.slice A2 m2 c2)).setCell (p := ⟨g1, k, none⟩) hg1 (.slice A1 m1 c1)).drew
        have hP := hP.below (Below.refl _ _).drew
        have hP' := hP'.below (Below.refl _ _).drew
        clear hR B5 v1 v2
        go_region
        all_goals go_wp2
        all_goals go_roundw
        all_goals first
          | (simp [intOf]; omega)
          | (refine ⟨k + 1, by go_num, ?_, hlt, ?_, ?_⟩
             · first | exact congrArg Value.bool hst.out.symm | (rw [hst.out]; rfl)
             · rw [ht1.out, ht2.out]; first | exact hP | exact hP'
             · first | exact hb1 | exact hb2)
      · obtain rfl : k = n := by omega
        have hN1 := hR.done (by omega)
        have hN2 := hR.swap.done (by omega)
        rw [List.take_of_length_le (by rw [List.length_map, hlen.out]; exact Nat.le_refl _)] at hN1 hN2
        have htk : ts.take k = ts := List.take_of_length_le (by rw [hlen.out]; exact Nat.le_refl _)
        rw [htk]
        obtain ⟨P, hP⟩ : ∃ P, P = ts.foldl pstep (false, 1, 1) := ⟨_, rfl⟩
        have hPq := Lib.hid (show tq P = (ts.map tq).foldl (· * ·) 1 by rw [hP, pfold_q, tq_one])
        have hP1 := Lib.hid (show P.2.1 = (ts.map fun t => t.2.1).foldl (fun a b => a * b) 1 by rw [hP, pfold_n])
        have hP2 := Lib.hid (show P.2.2 = (ts.map fun t => t.2.2).foldl (fun a b => a * b) 1 by rw [hP, pfold_d])
        have hPp := Lib.hid (show 0 < P.2.2 by rw [hP]; exact pfold_pos (fun t ht => (hden.out t ht).1) (by decide))
        rw [← hP]
        have hB := B1.below hb
        have hw2 := hw0.trans (hb.mono hw0.size)
        clear hR htk hP hb
        go_wp2_with fail
        refine (oneQ _).mono ?_
        rintro e w3 ⟨A3, rfl, hD3, hb3⟩
        have hw3 := hw2.trans (hb3.mono hw2.size)
        go_wp2_with fail
        refine (fold_mul _ _ _ _ _ _ _ L _ _ hD3 nrm_lit1 1 (show _ = _ from vl_one64) (hN1.below hb3) (by omega) (by omega)).mono ?_
        rintro e w4 ⟨A4, m4, c4, us4, rfl, hD4, hN4, hv4, hm4, hb4⟩
        have hw4 := hw3.trans (hb4.mono hw3.size)
        go_wp2_with fail
        refine (oneQ _).mono ?_
        rintro e w5 ⟨A5, rfl, hD5, hb5⟩
        have hw5 := hw4.trans (hb5.mono hw4.size)
        go_wp2_with fail
        refine (fold_mul _ _ _ _ _ _ _ L _ _ hD5 nrm_lit1 1 (show _ = _ from vl_one64) (((hN2.below hb3).below hb4).below hb5) (by omega) (by omega)).mono ?_
        rintro e w6 ⟨A6, m6, c6, us6, rfl, hD6, hN6, hv6, hm6, hb6⟩
        have hw6 := hw5.trans (hb6.mono hw5.size)
        have ht4 := hD4.cap
        have ht42 := hD4.top
        go_wp2_with fail
        refine (signed_any _ _ _ _ _ _ _ _ (by omega)).mono ?_
        rintro e w7 ⟨rfl, hb7⟩
        have hw7 := hw6.trans (hb7.mono hw6.size)
        have C := ((((hB.below hb3).below hb4).below hb5).below hb6).below hb7
        have z4 := Lib.hid (nv_pos hD4 hN4 (by decide) hv4)
        have hD4 := (((hD4.below hb5).below hb6).below hb7)
        have hD6 := hD6.below hb7
        have r0 := C.cell 0
        have r1 := C.cell 1
        have r2 := C.cell 2
        have f0 := C.frozen 0
        have f1 := C.frozen 1
        have f2 := C.frozen 2
        go_wp2
        exact ret_rat rfl rfl (((C.set_ 0 _).set_ 1 _).set_ 2 _) rfl ⟨_, rfl, RQ.set3 (L := 1 + k * L) ⟨P.1 && decide (0 < P.2.1), P.2.1, P.2.2, ⟨_, _, by rw [z4.out, hP1.out], NV.mk hD4 hN4 (show _ = _ by rw [hv4.out, hP1.out]) (by omega), NV.mk hD6 hN6 (show _ = _ by rw [hv6.out, hP2.out]) (by omega)⟩, hPp.out, fun hs => by rw [Bool.and_eq_true] at hs; exact of_decide_eq_true hs.2, show _ = _ by rw [fq_sign]; exact hPq.out⟩ C _ _ _, bel_set3 hw7 (by omega) _ _ _⟩
theorem productQ (A : Option Addr) (n c L : Nat) (qs : List Rat) (w : World) (h : Ls RQ w A n c L qs) (hL : 1 + n * L ≤ 100000) (hn : n ≤ 100000) (hL2 : L ≤ 100000) :
    Calls Tryz.prog 103 #[.slice A n c] w (RetQQ w (qs.foldl (· * ·) 1) (1 + n * L)) := by
  obtain ⟨ts, h1, h2⟩ := h.lr
  rw [h2]
  exact product_raw A n c L ts w h1 hL hn hL2

set_option maxHeartbeats 3200000 in
theorem ProductQ (A : Option Addr) (n c L : Nat) (qs : List Rat) (w : World) (h : Ls AF w A n c L qs) (hL : 1 + n * (2 * L + 1) ≤ 100000) (hn : n ≤ 100000) (hLb : 2 * L + 3 ≤ 100000) :
    Calls Tryz.prog 54 #[.slice A n c] w (RetFQ w (qs.foldl (· * ·) 1) (2 * (1 + n * (2 * L + 1)))) := by
  have B2 := Blk.new w 24 #[.bool false, .slice none 0 0, .slice none 0 0]
  have hw0 := (Below.refl w.heap.size w).alloc (Nat.le_refl _) (.cells #[.bool false, .slice none 0 0, .slice none 0 0] 24)
  have h := h.below bels_af hw0
  go_enter Tryz.func54, Tryz.ntmps54
  go_wp2_with fail
  generalize w.alloc (.cells #[.bool false, .slice none 0 0, .slice none 0 0] 24) = w1 at *
  refine (loadAllQ _ _ _ L qs _ h hn (by omega)).mono ?_
  rintro e w2 ⟨A2, rfl, hl2, hb2⟩
  have C2 := B2.below hb2
  have hw2 := hw0.trans (hb2.mono hw0.size)
  go_wp2_with fail
  refine (productQ _ _ _ (2 * L + 1) qs _ hl2 hL hn (by omega)).mono ?_
  rintro e w3 ⟨_, rfl, hq3, hb3⟩
  obtain ⟨s3, A5, n5, c5, A6, n6, c6, rfl⟩ := hq3.form
  have C3 := C2.below hb3
  have hw3 := hw2.trans (hb3.mono hw2.size)
  go_wp2_with fail
  refine (storeQ _ _ _ _ hq3 hL).mono ?_
  rintro e w9 ⟨_, rfl, hq9, hb9⟩
  have C9 := C3.below hb9
  have hw9 := hw3.trans (hb9.mono hw3.size)
  obtain ⟨s9, A9, n9, c9, A10, n10, c10, rfl⟩ := hq9.form
  have r0 := C9.cell 0
  have r1 := C9.cell 1
  have r2 := C9.cell 2
  have f0 := C9.frozen 0
  have f1 := C9.frozen 1
  have f2 := C9.frozen 2
  go_wp2
  exact ret_frac rfl rfl (((C9.set_ 0 _).set_ 1 _).set_ 2 _) rfl ⟨_, rfl, hq9.set3 C9 _ _ _, bel_set3 hw9 (by omega) _ _ _⟩

end Go.Proofs.YtbgihlfblmilmaaGreatDoor.Fr
