/- Division by numbers with any number of digits. -/
import Derived.Test.YtbgihlfblmilmaaGreatDoorG5
namespace Go.Proofs.YtbgihlfblmilmaaGreatDoor.Fr
open Go.RowKit Num

theorem bl_ge {x : Nat} (h : 0 < x) : 2 ^ (bl x - 1) ≤ x := by
  unfold bl
  rw [if_neg (by omega), Nat.add_sub_cancel]
  exact Nat.log2_self_le (by omega)
/-- a divisor that is shifted has its highest bit set -/
theorem norm_shift {ys : List Nat} {p x s Y : Nat} (hl : ys.length = p + 1) (hok : Okd (bs .u64) ys) (hx : ys.getD p 0 = x) (h0 : 0 < x) (hs : bl x + s = 64) (hY : vl (bs .u64) ys = Y) :
    2 ^ (64 * p + 63) ≤ Y * 2 ^ s ∧ Y * 2 ^ s < bs .u64 ^ (p + 1) := by
  have hb := bl_vl64 hl hok hx h0
  rw [hY] at hb
  have h1 := lt_bl Y
  have hbx : 0 < bl x := by rw [bl_half h0]; omega
  have hYp : 0 < Y := by
    rcases Nat.eq_zero_or_pos Y with h | h
    · rw [h] at hb; rw [bl_zero] at hb; omega
    · exact h
  have h2 := bl_ge hYp
  rw [hb] at h1 h2
  constructor
  · have h3 := Nat.mul_le_mul_right (2 ^ s) h2
    rw [← Nat.pow_add, show 64 * p + bl x - 1 + s = 64 * p + 63 by omega] at h3
    exact h3
  · have h3 := Nat.mul_lt_mul_of_pos_right h1 (Nat.two_pow_pos s)
    rw [← Nat.pow_add, show 64 * p + bl x + s = 64 * (p + 1) by omega] at h3
    rw [bs64_pow]; exact h3
theorem len_norm {us : List Nat} {D p : Nat} (hok : Okd (bs .u64) us) (hN : Nrm us) (hv : vl (bs .u64) us = D) (h1 : 2 ^ (64 * p + 63) ≤ D) (h2 : D < bs .u64 ^ (p + 1)) : us.length = p + 1 := by
  have h3 := len_of_lt hN hv h2
  rcases Nat.lt_or_ge us.length (p + 1) with h | h
  · exfalso
    have h4 := vl_lt hok
    rw [hv] at h4
    have h5 : bs .u64 ^ us.length ≤ bs .u64 ^ p := Nat.pow_le_pow_right (by decide) (by omega)
    rw [bs64_pow] at h5
    rw [bs64_pow] at h5
    have h6 : 2 ^ (64 * p) ≤ 2 ^ (64 * p + 63) := Nat.pow_le_pow_right (by decide) (by omega)
    rw [bs64_pow] at h4
    omega
  · omega
theorem long_bound {X n p D s : Nat} (hX : X < bs .u64 ^ n) (hD : 2 ^ (64 * p + 63) ≤ D) (hs : s < 64) (hp : p < n) : X * 2 ^ s < D * bs .u64 ^ (n + 1 - (p + 1)) := by
  have h1 := Nat.mul_lt_mul_of_pos_right hX (Nat.two_pow_pos s)
  have h2 : bs .u64 ^ n * 2 ^ s ≤ 2 ^ (64 * n + 63) := by
    rw [bs64_pow, ← Nat.pow_add]; exact Nat.pow_le_pow_right (by decide) (by omega)
  have h3 := Nat.mul_le_mul_right (bs .u64 ^ (n + 1 - (p + 1))) hD
  have e : 2 ^ (64 * p + 63) * bs .u64 ^ (n + 1 - (p + 1)) = 2 ^ (64 * n + 63) := by
    rw [bs64_pow, ← Nat.pow_add]; congr 1; omega
  omega
theorem shift_back {X Y s : Nat} : X * 2 ^ s / (Y * 2 ^ s) = X / Y ∧ X * 2 ^ s % (Y * 2 ^ s) / 2 ^ s = X % Y := by
  constructor
  · exact Nat.mul_div_mul_right X Y (Nat.two_pow_pos s)
  · rw [Nat.mul_mod_mul_right, Nat.mul_div_cancel _ (Nat.two_pow_pos s)]

set_option maxHeartbeats 3200000 in
set_option maxRecDepth 100000 in
theorem divide_long (A A' : Option Addr) (n c p c' : Nat) (xs ys : List Nat) (w : World) (h : Dg .u64 w A n c xs) (h' : Dg .u64 w A' (p + 1) c' ys) (hN : Nrm xs) (hN' : Nrm ys) (X Y : Nat) (hX : Hid (vl (bs .u64) xs = X)) (hY : Hid (vl (bs .u64) ys = Y))
    (hn : n ≤ 500000) (hp : 0 < p) (hle : Y ≤ X) :
    Calls Tryz.prog 115 #[.slice A n c, .slice A' (p + 1) c'] w fun e w' => ∃ (q : List Nat) (g r : Nat) (cur : List Nat) (gq : Nat), e = .returned (.tuple #[.slice (some ⟨gq, 0, none⟩) (tl q) (n - p), .slice (some ⟨g, 0, none⟩) (tl cur) r]) ∧
      Mz w' gq 82 .u64 (n - p) q ∧ Okd (bs .u64) q ∧ Hid (q.length = n - p) ∧ Hid (vl (bs .u64) q = X / Y) ∧ w.heap.size ≤ gq ∧
      Mz w' g 82 .u64 r cur ∧ Okd (bs .u64) cur ∧ Hid (cur.length = r) ∧ r ≤ n + 1 ∧ Hid (vl (bs .u64) cur = X % Y) ∧ w.heap.size ≤ g ∧ Below w.heap.size w w' := by
  have hnp : p + 1 ≤ n := by
    have := len_le_of one_lt_bs64 h.ok hN' (by rw [hX.out, hY.out]; exact hle)
    rw [h.len, h'.len] at this; exact this
  have ho := ord_nn hle
  have hne1 : (((p + 1 : Nat) : Int) == 1) = false := by rw [beq_eq_false_iff_ne]; omega
  have hne2 : (p == 0) = false := by rw [beq_eq_false_iff_ne]; omega
  obtain ⟨ad', x, rfl, hcx, hx⟩ := h'.at_ (j := p) (by omega)
  have hx0 : 0 < x := nrm_top hN' h'.len hx.out.1
  have hxb : x ≤ 18446744073709551615 := Nat.le_of_lt_succ hx.out.2
  have hc1 := h'.cap
  have hc2 := h'.top
  have hXl := Lib.hid (show X < bs .u64 ^ n by have := vl_lt h.ok; rw [hX.out, h.len] at this; exact this)
  have hNS := Lib.hid (fun (s : Nat) (hs : bl x + s = 64) => norm_shift h'.len h'.ok hx.out.1 hx0 hs hY.out)
  go_enter Tryz.func115, Tryz.ntmps115
  go_wp2_with fail
  refine (cmp64_any _ _ _ _ _ _ _ _ _ h h' hN hN' X Y hX hY).mono ?_
  rintro e w2 ⟨m, rfl, rfl⟩
  clear hle
  go_wp2_with fail
  refine (leading_any x hx0 hxb _).mono ?_
  rintro e w' ⟨s, rfl, hs, hs2, rfl⟩
  have HNS := Lib.hid (hNS.out s hs2.out)
  clear hNS
  have hb0 := bel_drewN (Below.refl w.heap.size w) m
  go_wp2_with fail
  refine (shiftLeft_any (some ad') (p + 1) c' s ys _ (h'.drewN m) (by omega) hs).mono ?_
  rintro e w3 ⟨cB, rfl, hMB, hokB, hlB, hvB, hb3⟩
  have hb3' := hb0.trans (hb3.mono hb0.size)
  have h3 := (h.drewN m).below hb3
  have hgB : (w.drewN m).heap.size < w3.heap.size := hMB.mk.lt
  have hlB' := Lib.hid (show tl cB = p + 1 by
    have := len_norm (okd_tr hokB) (nrm_tr cB) (by rw [vl_tr, hvB.out, hY.out]) HNS.out.1 HNS.out.2
    rw [len_tr] at this; exact this)
  rw [hlB'.out]
  go_wp2_with fail
  refine (shiftLeft_any A n c s xs w3 h3 (by omega) hs).mono ?_
  rintro e w4 ⟨cA, rfl, hMA, hokA, hlA, hvA, hb4⟩
  have hb4' := hb3'.trans (hb4.mono hb3'.size)
  have hMB4 := hMB.bel hb4
  have htA := len_tl hlA.out
  go_wp2_with fail
  refine (stretch_any w3.heap.size (tl cA) (n + 1) (n + 1) (cA.take (tl cA)) w4 (hMA.take_ _) (by show _ = _; rw [List.length_take, hlA.out]; omega) (by omega) htA (by omega)).mono ?_
  rintro e w5 ⟨g5, c5, rfl, hM5, hc5, hc5b, hgr5, hg5⟩
  have hg5' : w3.heap.size ≤ g5 := by
    have h8 := hMA.mk.lt
    rcases hg5 with h9 | h9 <;> omega
  have hMB5 := hMB4.grown hgr5 (fun e => by injection e with e; omega)
  have hDB := hMB5.mk.dgc (n := p + 1) (c := p + 1 + 1) (by rw [hlB.out]; omega) (by omega) (by omega) hokB
  have hNB : Nrm (cB.take (p + 1)) := by have := nrm_tr cB; unfold tr at this; rw [hlB'.out] at this; exact this
  have hVB := Lib.hid (show vl (bs .u64) (cB.take (p + 1)) = Y * 2 ^ s by have := vl_tr (bs .u64) cB; unfold tr at this; rw [hlB'.out] at this; rw [this, hvB.out, hY.out])
  have hok5 := (hokA.take (tl cA)).append (zs_ok (b := bs .u64) (by decide) (n + 1 - tl cA))
  have hl5 := Lib.hid (show (cA.take (tl cA) ++ zs (n + 1 - tl cA)).length = n + 1 by rw [List.length_append, List.length_take, zs_len, hlA.out]; omega)
  have hV5 := Lib.hid (show vl (bs .u64) (cA.take (tl cA) ++ zs (n + 1 - tl cA)) = X * 2 ^ s by
    rw [vl_append, zs_vl, Nat.mul_zero, Nat.add_zero]; have := vl_tr (bs .u64) cA; unfold tr at this; rw [this, hvA.out, hX.out])
  have hLB := Lib.hid (long_bound hXl.out HNS.out.1 hs (by omega))
  have hb5 := hb4'.trans (grown_bel hgr5 (B := w.heap.size) hb3'.size hMA.mk.lt)
  go_wp2_with fail
  refine (longDivision_any g5 (n + 1) c5 (p + 1) (p + 1 + 1) (Y * 2 ^ s) (X * 2 ^ s) _ _ _ w5 hM5.mk hok5 hl5 hc5 hc5b hDB hNB (by omega) (by omega) (by omega) (fun ad he => by injection he with he; subst he; show (w.drewN m).heap.size ≠ g5; omega) hVB hV5 hLB).mono ?_
  rintro e w6 ⟨cur6, quo, rfl, hM6, hl6, hok6, hv6, hMq, hlq, hokq, hvq, hgr6⟩
  rw [show n + 1 - (p + 1) = n - p by omega] at *
  have hb6 := hb5.trans (grown_bel hgr6 (B := w.heap.size) (by have := hb3'.size; omega) hM5.mk.lt)
  have hDq := hMq.mk.dg64 hlq.out (by omega) hokq
  have hD6 := hM6.dgc (n := n + 1) (c := c5) (by rw [hl6.out]; omega) hc5 hc5b hok6
  rw [List.take_of_length_le (by rw [hl6.out]; omega)] at hD6
  go_wp2_with fail
  refine (trim64_any _ _ _ _ _ hDq).mono ?_
  rintro e w' ⟨rfl, rfl⟩
  go_wp2_with fail
  refine (trim64_any _ _ _ _ _ hD6).mono ?_
  rintro e w' ⟨rfl, rfl⟩
  go_wp2_with fail
  refine (shiftRight_any _ (tl cur6) c5 s (tr cur6) w6 hD6.tr (by have := len_tl hl6.out; omega) hs).mono ?_
  rintro e w7 ⟨cur7, rfl, hM7, hok7, hl7, hv7, hb7⟩
  have hb7' := hb6.trans (hb7.mono hb6.size)
  have HV := Lib.hid (show vl (bs .u64) quo = X / Y ∧ vl (bs .u64) cur7 = X % Y by
    rw [hvq.out, hv7.out, vl_tr, hv6.out]; exact shift_back)
  go_wp2
  go_ret2
  exact ⟨quo, _, _, cur7, _, rfl, hMq.bel hb7, hokq, hlq, HV.out.1, hb5.size, hM7, hok7, hl7, by have := len_tl hl6.out; omega, HV.out.2, hb6.size, hb7'⟩

/-- the quotient and the rest, for any divisor but 0 -/
theorem divide64_any (A A' : Option Addr) (n c n' c' : Nat) (xs ys : List Nat) (w : World) (h : Dg .u64 w A n c xs) (h' : Dg .u64 w A' n' c' ys) (hN : Nrm xs) (hN' : Nrm ys) (X Y : Nat) (hX : Hid (vl (bs .u64) xs = X)) (hY : Hid (vl (bs .u64) ys = Y))
    (hn : n ≤ 500000) (hY0 : 0 < Y) :
    Calls Tryz.prog 115 #[.slice A n c, .slice A' n' c'] w (RetDiv64 w X Y (n + 1)) := by
  by_cases hs : X < Y ∨ n' = 1
  · exact divide_small HD A A' n c n' c' xs ys w h h' hN hN' X Y hX hY (by omega) hs
  · have hn0 : 0 < n' := by
      have := nz_len (b := bs .u64) (xs := ys) (by rw [hY.out]; exact hY0)
      rw [h'.len] at this; exact this
    obtain ⟨p, rfl⟩ : ∃ p, n' = p + 1 := ⟨n' - 1, by omega⟩
    refine (divide_long A A' n c p c' xs ys w h h' hN hN' X Y hX hY hn (by omega) (by omega)).mono ?_
    rintro e w' ⟨q, g, r, cur, gq, rfl, hM, hok, hl, hv, hg, hM2, hok2, hl2, hr, hv2, hg2, hb⟩
    refine ⟨_, _, rfl, NV.mk (hM.mk.dg64 hl.out (by omega) hok).tr (nrm_tr _) (show _ = _ by rw [vl_tr]; exact hv.out) (by have := len_tl hl.out; omega), NV.mk (hM2.mk.dg64 hl2.out (by omega) hok2).tr (nrm_tr _) (show _ = _ by rw [vl_tr]; exact hv2.out) (by have := len_tl hl2.out; omega), hb, ?_⟩
    intro A m c he ad ha
    injection he with h1
    rw [← h1] at ha
    injection ha with ha
    subst ha
    exact hg
end Go.Proofs.YtbgihlfblmilmaaGreatDoor.Fr

/- p times x minus q times y, in place. -/
namespace Go.Proofs.YtbgihlfblmilmaaGreatDoor.Fr
open Go.RowKit Num

theorem diff_step {b p q j x y d bo cX cY cX' cY' bo' s1 s2 : Nat} {cur xs ys : List Nat} (hj : j < cur.length) (hx : xs.getD j 0 = x) (hy : ys.getD j 0 = y)
    (h1 : s1 + b * cX' = x * p + cX) (h2 : s2 + b * cY' = y * q + cY) (h3 : d + s2 + bo = s1 + b * bo')
    (hv : vl b (cur.take j) + q * vl b (ys.take j) + b ^ j * cX = p * vl b (xs.take j) + b ^ j * (cY + bo)) :
    vl b ((cur.set j d).take (j + 1)) + q * vl b (ys.take (j + 1)) + b ^ (j + 1) * cX' = p * vl b (xs.take (j + 1)) + b ^ (j + 1) * (cY' + bo') := by
  rw [vl_take_succ (by rw [List.length_set]; exact hj), List.take_set_of_le (Nat.le_refl _), List.getElem_set_self, vl_take_succ_getD, vl_take_succ_getD, hx, hy]
  have e1 : q * (vl b (ys.take j) + b ^ j * y) = q * vl b (ys.take j) + b ^ j * (y * q) := by rw [Nat.mul_add, Nat.mul_left_comm, Nat.mul_comm q y]
  have e2 : p * (vl b (xs.take j) + b ^ j * x) = p * vl b (xs.take j) + b ^ j * (x * p) := by rw [Nat.mul_add, Nat.mul_left_comm, Nat.mul_comm p x]
  have e3 : ∀ z, b ^ (j + 1) * z = b ^ j * (b * z) := fun z => by rw [Nat.pow_succ, Nat.mul_assoc]
  rw [e1, e2, e3, e3]
  have k : d + y * q + b * cX' + (cY + bo) = x * p + b * (cY' + bo') + cX := by rw [Nat.mul_add]; omega
  have k2 : b ^ j * (d + y * q + b * cX' + (cY + bo)) = b ^ j * (x * p + b * (cY' + bo') + cX) := by rw [k]
  simp only [Nat.mul_add] at k2 hv ⊢
  omega
theorem diff_top {b p q n cX cY bo X Y : Nat} {cur : List Nat} (hok : Okd b cur) (hl : cur.length = n) (hle : q * Y ≤ p * X) (hlt : p * X < b ^ n + q * Y)
    (hv : vl b cur + q * Y + b ^ n * cX = p * X + b ^ n * (cY + bo)) : vl b cur + q * Y = p * X := by
  have h1 := vl_lt hok
  rw [hl] at h1
  rcases Nat.lt_trichotomy cX (cY + bo) with h | h | h
  · exfalso
    have h2 : b ^ n * (cX + 1) ≤ b ^ n * (cY + bo) := Nat.mul_le_mul_left _ h
    rw [Nat.mul_add] at h2
    omega
  · rw [h] at hv; omega
  · exfalso
    have h2 : b ^ n * (cY + bo + 1) ≤ b ^ n * cX := Nat.mul_le_mul_left _ h
    rw [Nat.mul_add] at h2
    omega

structure DfRel (w : World) (g n c gx p q : Nat) (xs ys : List Nat) (cx cy bo iv : Value) (wr : World) (j cX cY b0 : Nat) (cur : List Nat) : Prop where
  i : iv = .int .i64 j
  cx : cx = .int .u64 cX
  cy : cy = .int .u64 cY
  bo : bo = .int .u64 b0
  jb : j ≤ n
  xb : cX ≤ 18446744073709551615
  yb : cY ≤ 18446744073709551615
  bb : b0 ≤ 1
  len : Hid (cur.length = n)
  ok : Okd (bs .u64) cur
  own : Mz wr g 82 .u64 c cur
  x : Hid (∀ k, j ≤ k → k < n → wr.cell? ⟨gx, k, none⟩ = some (.int .u64 ((xs.getD k 0 : Nat) : Int)))
  val : Hid (vl (bs .u64) (cur.take j) + q * vl (bs .u64) (ys.take j) + bs .u64 ^ j * cX = p * vl (bs .u64) (xs.take j) + bs .u64 ^ j * (cY + b0))
  onl : Onl g w wr

set_option maxHeartbeats 3200000 in
set_option maxRecDepth 100000 in
theorem setDifference_any (g n ca c gx cx gy cy p q : Nat) (cur0 xs ys : List Nat) (w : World) (hM : Mz w g 82 .u64 c cur0) (hok : Okd (bs .u64) cur0) (hl : Hid (cur0.length = n)) (hX : Mk w gx 82 .u64 xs) (hxl : Hid (xs.length = n)) (hxo : Okd (bs .u64) xs)
    (hY : Mk w gy 82 .u64 ys) (hyl : Hid (ys.length = n)) (hyo : Okd (bs .u64) ys) (hgy : gy ≠ g) (hca : n ≤ ca) (hca2 : ca ≤ 9223372036854775807) (hcx : n ≤ cx) (hcy : n ≤ cy)
    (hp : p ≤ 18446744073709551615) (hq : q ≤ 18446744073709551615) (hle : Hid (q * vl (bs .u64) ys ≤ p * vl (bs .u64) xs)) (hlt : Hid (p * vl (bs .u64) xs < bs .u64 ^ n + q * vl (bs .u64) ys)) :
    Calls Tryz.prog 149 #[.slice (some ⟨g, 0, none⟩) n ca, .slice (some ⟨gx, 0, none⟩) n cx, .int .u64 (p : Int), .slice (some ⟨gy, 0, none⟩) n cy, .int .u64 (q : Int)] w fun e w' => ∃ cur, e = .returned (.tuple #[]) ∧
      Mz w' g 82 .u64 c cur ∧ Hid (cur.length = n) ∧ Okd (bs .u64) cur ∧ Hid (vl (bs .u64) cur + q * vl (bs .u64) ys = p * vl (bs .u64) xs) ∧ Onl g w w' := by
  have i0 : (0 : Int) ≤ (n : Int) := by omega
  have i1 : (n : Int) ≤ (cx : Int) := by omega
  have i2 : (n : Int) ≤ (cy : Int) := by omega
  go_enter Tryz.func149, Tryz.ntmps149
  go_wp2
  go_quiet (fail)
  go_wp2
  go_loopw [10, 11, 12, 29] (fun cx cy bo iv wr => ∃ j cX cY b0 cur, DfRel w g n c gx p q xs ys cx cy bo iv wr j cX cY b0 cur) (fun _ _ _ iv _ => n - (intOf iv).toNat)
  case atStart => exact ⟨0, 0, 0, 0, cur0, rfl, rfl, rfl, rfl, by omega, by omega, by omega, by omega, hl, hok, hM.drewN nq, fun k _ hk => hX.cell (by rw [hxl.out]; exact hk), by show _ = _; simp [vl], (Onl.refl _ _).drewN nq⟩
  case round =>
    clear hM hok hl
    obtain ⟨j, cX, cY, b0, cur, rfl, rfl, rfl, rfl, hjb, hxb, hyb, hbb, hcl, hco, hown, hx, hval, hon⟩ := hrel
    by_cases hjn : j < n
    · obtain ⟨x, hxx⟩ : ∃ x, xs.getD j 0 = x := ⟨_, rfl⟩
      obtain ⟨y, hyy⟩ : ∃ y, ys.getD j 0 = y := ⟨_, rfl⟩
      have hcx' := hx.out j (Nat.le_refl _) hjn
      rw [hxx] at hcx'
      have hcy' := (hon.mk_ hY hgy).cell (i := j) (by rw [hyl.out]; exact hjn)
      rw [hyy] at hcy'
      have hxb2 : x ≤ 18446744073709551615 := by rw [← hxx]; exact Nat.le_of_lt_succ (hxo.getD (by decide) _)
      have hyb2 : y ≤ 18446744073709551615 := by rw [← hyy]; exact Nat.le_of_lt_succ (hyo.getD (by decide) _)
      have hlen : Hid (j < cur.length) := by show _ < _; rw [hcl.out]; exact hjn
      have hcc := hown.mk.cell hlen.out
      have hcf := hown.mk.frozen j
      generalize cur.getD j 0 = zz at hcc
      have Hxx := Lib.hid hxx
      have Hyy := Lib.hid hyy
      clear hxx hyy
      go_wp2_with fail
      refine (mul64_two x p hxb2 hp _).mono ?_
      rintro e w' ⟨hi1, lo1, rfl, hm1, hlo1, hhi1, rfl⟩
      obtain ⟨s1, c1, hadd1, hs1, hsb1, hc1⟩ := add64_two lo1 cX hlo1 hxb
      have hcar1 : hi1 + c1 ≤ 18446744073709551615 := by omega
      go_wp2_with fail
      refine (mul64_two y q hyb2 hq _).mono ?_
      rintro e w' ⟨hi2, lo2, rfl, hm2, hlo2, hhi2, rfl⟩
      obtain ⟨s2, c2, hadd2, hs2, hsb2, hc2⟩ := add64_two lo2 cY hlo2 hyb
      have hcar2 : hi2 + c2 ≤ 18446744073709551615 := by omega
      obtain ⟨d, b1, hsub, hd, hdb, hb1⟩ := sub64_two s1 s2 b0 hsb1 hsb2 hbb
      have HV := Lib.hid (diff_step (b := bs .u64) (cur := cur) (cX' := hi1 + c1) (cY' := hi2 + c2) hlen.out Hxx.out Hyy.out (by have h1 := hm1.out; have h2 := hs1.out; rw [Nat.mul_add]; omega) (by have h1 := hm2.out; have h2 := hs2.out; rw [Nat.mul_add]; omega) hd.out hval.out)
      go_wp2
      go_roundw
      case rel =>
        exact ⟨j + 1, hi1 + c1, hi2 + c2, b1, cur.set j d, by go_num, by congr 1, by congr 1, rfl, hjn, hcar1, hcar2, hb1, show _ = _ by rw [List.length_set]; exact hcl.out, hco.set _ (Nat.lt_succ_of_le hdb), hown.set_ _ _, fun k hk1 hk2 => by
          rw [World.cell?_setCell_other _ _ _ _ (fun e => by injection e with e1 e2; omega)]
          exact hx.out k (by omega) hk2, HV.out, hon.set_ _ _⟩
      case measure => simp [intOf]; omega
    · obtain rfl : j = n := by omega
      have hv := hval.out
      rw [List.take_of_length_le (by rw [hcl.out]; omega), List.take_of_length_le (by rw [hyl.out]; omega), List.take_of_length_le (by rw [hxl.out]; omega)] at hv
      have HT := Lib.hid (diff_top hco hcl.out hle.out hlt.out hv)
      clear hv
      go_wp2
      go_end0
      exact ⟨cur, rfl, hown, hcl, hco, HT, hon⟩
end Go.Proofs.YtbgihlfblmilmaaGreatDoor.Fr
