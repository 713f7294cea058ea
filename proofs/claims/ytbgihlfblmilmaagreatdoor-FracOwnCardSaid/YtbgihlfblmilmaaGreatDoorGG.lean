/- Products of numbers of any length. -/
import Derived.Test.YtbgihlfblmilmaaGreatDoorG5
namespace Go.Proofs.YtbgihlfblmilmaaGreatDoor.Fr
open Go.RowKit Num

/-- the call returned the number x, trimmed, in memory of its own -/
def RetO (w : World) (x L : Nat) (e : Ending) (w' : World) : Prop :=
  ∃ g c cur, e = .returned (.slice (some ⟨g, 0, none⟩) (tl cur) c) ∧ Mk w' g 82 .u64 cur ∧ Hid (cur.length = c) ∧ Okd (bs .u64) cur ∧ Hid (vl (bs .u64) cur = x) ∧ c ≤ L ∧ w.heap.size ≤ g ∧ Below w.heap.size w w'
theorem len_of_lt' {us : List Nat} {x k : Nat} (hN : Nrm us) (hv : vl (bs .u64) us = x) (hx : x < bs .u64 ^ k) : us.length ≤ k := by
  rcases Nat.lt_or_ge k us.length with h | h
  · have h1 := hN.le (b := bs .u64) (by omega)
    have h2 : bs .u64 ^ k ≤ bs .u64 ^ (us.length - 1) := Nat.pow_le_pow_right (by decide) (by omega)
    omega
  · exact h
theorem tl_of_lt {us : List Nat} {x k : Nat} (hv : vl (bs .u64) us = x) (hx : x < bs .u64 ^ k) : tl us ≤ k := by
  have := len_of_lt' (nrm_tr us) (by rw [vl_tr]; exact hv) hx
  rw [len_tr] at this; exact this

set_option maxHeartbeats 1600000 in
set_option maxRecDepth 100000 in
theorem mulPlain_own (A A' : Option Addr) (n c n' c' : Nat) (xs ys : List Nat) (w : World) (h : Dg .u64 w A n c xs) (h' : Dg .u64 w A' n' c' ys) (hn : n ≤ 1000000) (hn' : n' ≤ 1000000) :
    Calls Tryz.prog 139 #[.slice A n c, .slice A' n' c'] w (RetO w (vl (bs .u64) xs * vl (bs .u64) ys) (n + n' + 1)) := by
  have hmk := make_u64 (n + n') (by omega)
  have e0 : (((n + n' : Nat) : Int)) = (n : Int) + (n' : Int) := by omega
  rw [e0] at hmk
  clear e0
  have hyl := Lib.hid h'.len
  go_enter Tryz.func139, Tryz.ntmps139
  go_wp2
  go_loopw [16] (fun iv wr => ∃ k cur, MulRel w n n' xs ys iv wr k cur) (fun iv _ => n' - (intOf iv).toNat)
  case atStart =>
    exact ⟨0, zs (n + n'), rfl, by omega, zs_len _, zs_ok (by decide) _, Mk.new _ _ _ _, show _ = _ by rw [zs_vl]; simp [vl], show _ = _ by unfold zs; rw [List.drop_replicate]; congr 1; omega, (Below.refl _ _).alloc (Nat.le_refl _) _⟩
  case round =>
    obtain ⟨k, cur, rfl, hkb, hcl, hco, hown, hval, hdrop, hbel⟩ := hrel
    by_cases hkn : k < n'
    · obtain ⟨ad', y, rfl, hcy, _, hy⟩ := h'.at2 hbel hkn
      have hyb : y ≤ 18446744073709551615 := Nat.le_of_lt_succ hy.out.2
      go_wp2_with fail
      refine (increaseTimes_any w.heap.size k n _ A c cur xs y wr hown hco (by rw [hcl.out]; omega) (by omega) (h.below hbel) (fun hp ad he => by have := h.blt hp ad he; omega) hyb).mono ?_
      rintro e w2 ⟨cy, cur', rfl, hM2, hok2, hl2, hv2, hd2, hcyb, hon2⟩
      have hlen : Hid (k + n < cur'.length) := by show _ < _; rw [hl2.out, hcl.out]; omega
      have hz := Lib.hid (drop_zs (show cur'.drop (k + n) = zs (n' - k) by rw [hd2.out, Nat.add_comm]; exact hdrop.out) (by omega))
      have hcc := hM2.cell hlen.out
      rw [hz.out.1] at hcc
      have hcf := hM2.frozen (k + n)
      have hbel2 := hbel.trans (hon2.below (Nat.le_refl _))
      go_wp2
      go_roundw
      case rel =>
        exact ⟨k + 1, cur'.set (k + n) cy, by go_num, hkn, show _ = _ by rw [List.length_set, hl2.out, hcl.out], hok2.set _ (Nat.lt_succ_of_le hcyb), hM2.set_ _ _, show _ = _ from mul_next hlen.out hz.out.1 hy.out.1 hval.out hv2.out,
          show _ = _ by rw [show n + (k + 1) = k + n + 1 by omega, List.drop_set_of_lt (by omega), hz.out.2]; congr 1, hbel2.setCell (Nat.le_refl _) _⟩
      case measure => simp [intOf]; omega
    · obtain rfl : k = n' := by omega
      have hD := hown.dg64 hcl.out (by omega) hco
      have hv := hval.out
      rw [List.take_of_length_le (by rw [hyl.out]; omega)] at hv
      have Hv := Lib.hid hv
      clear hv
      go_wp2_with fail
      refine (trim64_any _ _ _ _ _ hD).mono ?_
      rintro e w' ⟨rfl, rfl⟩
      go_wp2
      go_ret
      exact ⟨_, _, cur, rfl, hown, hcl, hco, Hv.out, by omega, Nat.le_refl _, hbel⟩

theorem trim_quiet (A : Option Addr) (n c : Nat) (xs : List Nat) (w : World) (k : Nat) (h : Dg .u64 w A n c xs) :
    Calls Tryz.prog 119 #[.slice A n c] (w.drewN k) fun e w' => e = .returned (.slice A (tl xs) c) ∧ ∃ m, w' = w.drewN m :=
  (trim64_any A n c xs (w.drewN k) (h.drewN k)).mono fun _ _ ⟨he, hw⟩ => ⟨he, k, hw.symm⟩
theorem Dg.drop_ {k : IntKind} {w : World} {A : Option Addr} {n c : Nat} {xs : List Nat} (h : Dg k w A n c xs) {m : Nat} (hm : m < n) : ∃ ad, A = some ad ∧ Dg k w (some (ad.add m)) (n - m) (c - m) (xs.drop m) := by
  obtain ⟨ad, e, hc⟩ := h.cell (by omega)
  refine ⟨ad, e, ⟨by rw [List.length_drop, h.len], by have := h.cap; omega, by have := h.top; omega, h.ok.drop m, fun _ => ⟨_, rfl, fun j x hx => ?_⟩⟩⟩
  rw [add_of_add]
  rw [List.getElem?_drop] at hx
  exact hc _ _ hx
theorem Dg.nvl {w : World} {A : Option Addr} {n c : Nat} {xs : List Nat} (h : Dg .u64 w A n c xs) : vl (bs .u64) xs < bs .u64 ^ n := by have := vl_lt h.ok; rw [h.len] at this; exact this

/-- what is asked of a product -/
def MulOk (M : Nat) : Prop := ∀ (A A' : Option Addr) (n c n' c' : Nat) (xs ys : List Nat) (w : World), Dg .u64 w A n c xs → Dg .u64 w A' n' c' ys → max n n' ≤ M →
  Calls Tryz.prog 112 #[.slice A n c, .slice A' n' c'] w (RetO w (vl (bs .u64) xs * vl (bs .u64) ys) (n + n' + 1))

theorem half_eq (n : Nat) : ((n : Int) + 1) / 2 = (((n + 1) / 2 : Nat) : Int) := by omega

theorem kara {b h A1 A2 B1 B2 : Nat} : (A1 + b ^ h * A2) * (B1 + b ^ h * B2) = A1 * B1 + b ^ h * (A1 * B2 + A2 * B1) + b ^ (2 * h) * (A2 * B2) := by
  have e : b ^ (2 * h) = b ^ h * b ^ h := by rw [← Nat.pow_add]; congr 1; omega
  rw [e]
  simp only [Nat.add_mul, Nat.mul_add, Nat.mul_assoc, Nat.mul_left_comm, Nat.mul_comm, Nat.add_assoc, Nat.add_comm]
theorem mid_eq {A1 A2 B1 B2 : Nat} : (A1 + A2) * (B1 + B2) = A1 * B1 + A2 * B2 + (A1 * B2 + A2 * B1) := by
  simp only [Nat.add_mul, Nat.mul_add]; omega
/-- a sum that stays small carries nothing -/
theorem inc_exact {b : Nat} {cur : List Nat} {N cy V : Nat} (hv : vl b cur + b ^ N * cy = V) (hV : V < b ^ N) : vl b cur = V := by
  rcases Nat.eq_zero_or_pos cy with h | h
  · subst h; omega
  · exfalso
    have : b ^ N * 1 ≤ b ^ N * cy := Nat.mul_le_mul_left _ h
    omega
end Go.Proofs.YtbgihlfblmilmaaGreatDoor.Fr

/- Products by halves (Karatsuba). -/
namespace Go.Proofs.YtbgihlfblmilmaaGreatDoor.Fr
open Go.RowKit Num

set_option maxHeartbeats 6400000 in
set_option maxRecDepth 100000 in
theorem mulHalves_own (M : Nat) (ih : MulOk M) (A A' : Option Addr) (n c n' c' : Nat) (xs ys : List Nat) (w : World) (h : Dg .u64 w A n c xs) (h' : Dg .u64 w A' n' c' ys) (hnn : n' ≤ n) (h40 : 40 ≤ n') (hnM : n ≤ M + 1) (hn : n ≤ 900000) :
    Calls Tryz.prog 140 #[.slice A n c, .slice A' n' c'] w (RetO w (vl (bs .u64) xs * vl (bs .u64) ys) (n + n' + 1)) := by
  obtain ⟨hf, hhf⟩ : ∃ hf, (n + 1) / 2 = hf := ⟨_, rfl⟩
  have e1 := half_eq n
  rw [hhf] at e1
  have hf1 : 20 ≤ hf ∧ hf < n ∧ n ≤ 2 * hf ∧ 2 * hf ≤ n + 1 := by omega
  have hmk := make_u64 (n + n' + 1) (by omega)
  have e0 : (((n + n' + 1 : Nat) : Int)) = (n : Int) + (n' : Int) + 1 := by omega
  rw [e0] at hmk
  have hc1 := h.cap
  have hc2 := h.top
  have hc3 := h'.cap
  have hc4 := h'.top
  obtain ⟨ad, rfl, hD2⟩ := h.drop_ hf1.2.1
  have hD1 := h.take (m := hf) (by omega)
  have i0 : (0 : Int) ≤ (hf : Int) := by omega
  have i1 : (hf : Int) ≤ (n : Int) := by omega
  have i2 : (hf : Int) ≤ (c : Int) := by omega
  have i3 : (n : Int) ≤ (c : Int) := by omega
  have i4 : ¬ (c = hf) := by omega
  clear hhf e0
  go_enter Tryz.func140, Tryz.ntmps140
  go_wp2
  have G1 := hD1.alloc (.cells (dcs .u64 (zs (n + n' + 1))).toArray 82)
  go_quiet ((go_at_call 119; exact trim_quiet _ _ _ _ _ _ G1))
  have hMp := (Mk.new w 82 .u64 (zs (n + n' + 1))).drewN nq
  have hb1 := bel_drewN ((Below.refl w.heap.size w).alloc (Nat.le_refl _) (.cells (dcs .u64 (zs (n + n' + 1))).toArray 82)) nq
  have D1 := (G1.drewN nq).tr
  have D2 := (hD2.alloc (.cells (dcs .u64 (zs (n + n' + 1))).toArray 82)).drewN nq
  have D' := (h'.alloc (.cells (dcs .u64 (zs (n + n' + 1))).toArray 82)).drewN nq
  have hadb := h.blt (by omega) ad rfl
  have hblt := Lib.hid (fun (hp : 0 < n') => h'.blt hp)
  have hpl := zs_len (n + n' + 1)
  have hpo := zs_ok (b := bs .u64) (by decide) (n + n' + 1)
  have hpv := zs_vl (bs .u64) (n + n' + 1)
  have hV := Lib.hid (show vl (bs .u64) xs = vl (bs .u64) (xs.take hf) + bs .u64 ^ hf * vl (bs .u64) (xs.drop hf) from vl_take_drop _ _ _ (by rw [h.len]; omega))
  have hXY := Lib.hid (show vl (bs .u64) xs * vl (bs .u64) ys < bs .u64 ^ (n + n') by rw [Nat.pow_add]; exact Nat.mul_lt_mul'' h.nvl h'.nvl)
  have htl1 := len_tl hD1.len
  generalize hw1 : (w.alloc (.cells (dcs .u64 (zs (n + n' + 1))).toArray 82)).drewN nq = w1 at *
  generalize hgp : w.heap.size = gp at *
  generalize hl1 : xs.take hf = l1 at *
  generalize hl2 : xs.drop hf = l2 at *
  clear hw1 hl1 hl2 hD1 hD2 G1 hmk
  by_cases hsp : n' ≤ hf
  · have hspi : ((n' : Int) ≤ (hf : Int)) := by omega
    go_wp2_with fail
    refine (ih _ _ _ _ _ _ _ _ w1 D1 D' (by omega)).mono ?_
    rintro e w2 ⟨g2, c2, cur2, rfl, hM2, hl2, ho2, hv2, hc2', hg2, hb2⟩
    have hMp2 := hMp.below hb2 (hMp.lt)
    have hE2 := (hM2.dg64 hl2.out (by omega) ho2).tr
    have ht2 := len_tl hl2.out
    have hgl := hMp.lt
    go_wp2_with fail
    refine (increase_any gp 0 (n + n' + 1) (n + n' + 1) _ _ _ _ _ w2 hMp2 hpo (by omega) (by omega) (by omega) hE2 (by omega) (fun _ ad he => by injection he with he; subst he; show g2 ≠ gp; omega)).mono ?_
    rintro e w3 ⟨cy3, cur3, rfl, _, hM3, ho3, hl3, hv3, _, hon3⟩
    have hV3 := Lib.hid (show vl (bs .u64) cur3 = vl (bs .u64) l1 * vl (bs .u64) ys from inc_exact (N := 0 + (n + n' + 1)) (cy := cy3) (by rw [hv3.out, hpv, Nat.pow_zero, Nat.one_mul, Nat.zero_add, vl_tr, hv2.out, vl_tr]) (by
      have h1 := hXY.out
      rw [hV.out, Nat.add_mul] at h1
      have h2 : bs .u64 ^ (n + n') ≤ bs .u64 ^ (0 + (n + n' + 1)) := Nat.pow_le_pow_right (by decide) (by omega)
      omega))
    have hb3 := (hb1.trans (hb2.mono (by omega))).trans (hon3.below (Nat.le_of_eq rfl))
    have D2' := hon3.dg (D2.below hb2) (fun _ ad' he => by injection he with he; subst he; rw [block_of_add]; omega)
    have D'' := hon3.dg (D'.below hb2) (fun hp ad he => by have := hblt.out hp ad he; omega)
    have hl3' := hl3.out
    rw [hpl] at hl3'
    have j1 : (hf : Int) ≤ (n : Int) + (n' : Int) + 1 := by omega
    have j2 : ¬ (n + n' + 1 = hf) := by omega
    go_upto_region 6 with fail
    go_region_held3 (fun _ => True) (exact trivial)
      (first
        | (go_at_call 112; refine (ih _ _ _ _ _ _ _ _ _ D2'.drew D''.drew (by omega)).mono ?_; rintro e w4 ⟨g4, c4, cur4, rfl, hM4, hl4, ho4, hv4, hc4', hg4, hb4⟩; have hM34 := hM3.drew.below hb4 hM3.lt; have hE4 := (hM4.dg64 hl4.out (by omega) ho4).tr; have ht4 := len_tl hl4.out; have hgl3 := hM3.lt)
        | (go_at_call 141; refine (increase_any gp hf (n + n' + 1 - hf) (n + n' + 1 - hf) _ _ _ _ _ w4 hM34 ho3 (by omega) (by omega) (by omega) hE4 (by omega) (fun _ ad he => by injection he with he; subst he; show g4 ≠ gp; have : w3.heap.size ≤ g4 := hg4; omega)).mono ?_; rintro e w5 ⟨cy5, cur5, rfl, _, hM5, ho5, hl5, hv5, _, hon5⟩))
    have hb5 := (hb3.drew.trans (hb4.mono (by show gp ≤ w3.heap.size; omega))).trans (hon5.below (Nat.le_of_eq rfl))
    have hl5' := hl5.out
    rw [hl3'] at hl5'
    have hV5 := Lib.hid (show vl (bs .u64) cur5 = vl (bs .u64) xs * vl (bs .u64) ys from inc_exact (N := hf + (n + n' + 1 - hf)) (cy := cy5) (by rw [hv5.out, hV3.out, vl_tr, hv4.out, hV.out, Nat.add_mul, Nat.mul_assoc]) (by
      have h1 := hXY.out
      have h2 : bs .u64 ^ (n + n') ≤ bs .u64 ^ (hf + (n + n' + 1 - hf)) := Nat.pow_le_pow_right (by decide) (by omega)
      omega))
    have hD5 := hM5.dg64 hl5' (by omega) ho5
    go_wp2_with fail
    refine (trim64_any _ _ _ _ _ hD5).mono ?_
    rintro e w' ⟨rfl, rfl⟩
    go_wp2
    go_ret
    exact ⟨gp, _, cur5, rfl, hM5, hl5', ho5, hV5.out, Nat.le_refl _, by omega, by rw [hgp]; exact hb5⟩
  · have hspi : ¬ ((n' : Int) ≤ (hf : Int)) := by omega
    obtain ⟨bd, rfl, E2⟩ := D'.drop_ (m := hf) (by omega)
    have E1 := D'.take (m := hf) (by omega)
    have hbdb := hblt.out (by omega) bd rfl
    have hVb := Lib.hid (show vl (bs .u64) ys = vl (bs .u64) (ys.take hf) + bs .u64 ^ hf * vl (bs .u64) (ys.drop hf) from vl_take_drop _ _ _ (by rw [h'.len]; omega))
    have htl2 := len_tl E1.len
    generalize hm1 : ys.take hf = m1 at *
    generalize hm2 : ys.drop hf = m2 at *
    clear hm1 hm2
    have j1 : (hf : Int) ≤ (n' : Int) := by omega
    have j2 : (hf : Int) ≤ (c' : Int) := by omega
    have j3 : (n' : Int) ≤ (c' : Int) := by omega
    have j4 : ¬ (c' = hf) := by omega
    go_upto_region 8 with fail
    go_quiet ((go_at_call 119; exact trim_quiet _ _ _ _ _ _ E1))
    have hb2 := bel_drewN hb1 nq
    have F1 := D1.drewN nq
    have F2 := D2.drewN nq
    have F3 := (E1.drewN nq).tr
    have F4 := E2.drewN nq
    have hMp2 := hMp.drewN nq
    generalize hw2 : w1.drewN nq = w2 at *
    clear hw2 D1 D2 E1 E2 hMp hb1 D'
    have hgl := hMp2.lt
    go_wp2_with fail
    refine (ih _ _ _ _ _ _ _ _ w2 F1 F3 (by omega)).mono ?_
    rintro e w3 ⟨g3, c3, cur3, rfl, hM3, hl3, ho3, hv3, hc3', hg3, hb3⟩
    go_wp2_with fail
    refine (ih _ _ _ _ _ _ _ _ w3 (F2.below hb3) (F4.below hb3) (by omega)).mono ?_
    rintro e w4 ⟨g4, c4, cur4, rfl, hM4, hl4, ho4, hv4, hc4', hg4, hb4⟩
    have hs3 := hb3.size
    have hs4 := hb4.size
    have hb4' := (hb2.trans (hb3.mono (by omega))).trans (hb4.mono (by omega))
    have h34 := hM3.below hb4 hM3.lt
    have k1 := (F1.below hb3).below hb4
    have k2 := (F2.below hb3).below hb4
    have k3 := (F3.below hb3).below hb4
    have k4 := (F4.below hb3).below hb4
    have hMp4 := (hMp2.below hb3 hgl).below hb4 (by omega)
    have hx3 := hM3.lt
    have hx4 := hM4.lt
    have ht3 := len_tl hl3.out
    have ht4 := len_tl hl4.out
    clear F1 F2 F3 F4 hM3 hMp2 hb2 hb3 hb4
    go_wp2_with fail
    refine (add_any _ _ _ _ _ _ _ _ w4 k1 k2 (by omega) (by omega)).mono ?_
    rintro e w5 ⟨A5, n5, c5, us5, rfl, hD5, _, hv5, hn5, hb5, _⟩
    go_wp2_with fail
    refine (add_any _ _ _ _ _ _ _ _ w5 (k3.below hb5) (k4.below hb5) (by omega) (by omega)).mono ?_
    rintro e w6 ⟨A6, n6, c6, us6, rfl, hD6, _, hv6, hn6, hb6, _⟩
    go_wp2_with fail
    refine (ih _ _ _ _ _ _ _ _ w6 (hD5.below hb6) hD6 (by omega)).mono ?_
    rintro e w7 ⟨g7, c7, cur7, rfl, hM7, hl7, ho7, hv7, hc7', hg7, hb7⟩
    have hs5 := hb5.size
    have hs6 := hb6.size
    have hb7' := ((hb4'.trans (hb5.mono (by omega))).trans (hb6.mono (by omega))).trans (hb7.mono (by omega))
    have h37 := ((h34.below hb5 (by omega)).below hb6 (by omega)).below hb7 (by omega)
    have h47 := ((hM4.below hb5 (by omega)).below hb6 (by omega)).below hb7 (by omega)
    have hMp7 := ((hMp4.below hb5 (by omega)).below hb6 (by omega)).below hb7 (by omega)
    have hx7 := hM7.lt
    have HM := Lib.hid (show vl (bs .u64) cur7 = vl (bs .u64) cur3 + vl (bs .u64) cur4 + (vl (bs .u64) l1 * vl (bs .u64) m2 + vl (bs .u64) l2 * vl (bs .u64) m1) by
      rw [hv7.out, hv5.out, hv6.out, hv3.out, hv4.out, vl_tr, vl_tr]; exact mid_eq)
    have HK := Lib.hid (show vl (bs .u64) xs * vl (bs .u64) ys = vl (bs .u64) cur3 + bs .u64 ^ hf * (vl (bs .u64) l1 * vl (bs .u64) m2 + vl (bs .u64) l2 * vl (bs .u64) m1) + bs .u64 ^ (2 * hf) * vl (bs .u64) cur4 by
      rw [hV.out, hVb.out, hv3.out, hv4.out, vl_tr, vl_tr]; exact kara)
    have hT7 := hM7.take_ (tl cur7)
    have hTl := Lib.hid (show (cur7.take (tl cur7)).length = tl cur7 by rw [List.length_take]; have := tl_le cur7; omega)
    have hTo := ho7.take (tl cur7)
    have hTv := Lib.hid (show vl (bs .u64) (cur7.take (tl cur7)) = vl (bs .u64) cur7 from vl_tr _ cur7)
    have ht7 := len_tl hl7.out
    have hle3 := len_le_of (xs := tr cur3) (ys := tr cur7) one_lt_bs64 (okd_tr ho7) (nrm_tr _) (by rw [vl_tr, vl_tr, HM.out]; omega)
    have hle4 := len_le_of (xs := tr cur4) (ys := tr cur7) one_lt_bs64 (okd_tr ho7) (nrm_tr _) (by rw [vl_tr, vl_tr, HM.out]; omega)
    rw [len_tr, len_tr] at hle3 hle4
    clear hM4 h34 k1 k2 k3 k4 hMp4 hM7 hv3 hv4 hv5 hv6 hv7 hb5 hb6 hb7 hD5 hD6
    go_wp2_with fail
    refine (decrease_any g7 (tl cur7) c7 _ _ _ _ _ w7 hT7 hTo hTl.out ht7 (by omega) (h37.dg64 hl3.out (by omega) ho3).tr hle3 (fun _ ad he => by injection he with he; subst he; show g3 ≠ g7; omega) (by rw [vl_tr, hTv.out, HM.out]; omega)).mono ?_
    rintro e w8 ⟨cur8, rfl, hM8, ho8, hl8, hv8, hon8⟩
    have h38 := hon8.mk_ h37 (by omega)
    have h48 := hon8.mk_ h47 (by omega)
    have hMp8 := hon8.mk_ hMp7 (by omega)
    have hb8 := hb7'.trans (hon8.below (by omega))
    have hV8 := Lib.hid (show vl (bs .u64) cur8 = vl (bs .u64) cur4 + (vl (bs .u64) l1 * vl (bs .u64) m2 + vl (bs .u64) l2 * vl (bs .u64) m1) by
      have h1 := hv8.out
      rw [vl_tr, hTv.out, HM.out] at h1
      omega)
    go_wp2_with fail
    refine (decrease_any g7 (tl cur7) c7 _ _ _ _ _ w8 hM8 ho8 hl8.out ht7 (by omega) (h48.dg64 hl4.out (by omega) ho4).tr hle4 (fun _ ad he => by injection he with he; subst he; show g4 ≠ g7; omega) (by rw [vl_tr, hV8.out]; omega)).mono ?_
    rintro e w9 ⟨cur9, rfl, hM9, ho9, hl9, hv9, hon9⟩
    have h39 := hon9.mk_ h38 (by omega)
    have h49 := hon9.mk_ h48 (by omega)
    have hMp9 := hon9.mk_ hMp8 (by omega)
    have hb9 := hb8.trans (hon9.below (by omega))
    have hV9 := Lib.hid (show vl (bs .u64) cur9 = vl (bs .u64) l1 * vl (bs .u64) m2 + vl (bs .u64) l2 * vl (bs .u64) m1 by
      have h1 := hv9.out
      rw [vl_tr, hV8.out] at h1
      omega)
    have HP := Lib.hid (show bs .u64 ^ (n + n') ≤ bs .u64 ^ (n + n' + 1) from Nat.pow_le_pow_right (by decide) (by omega))
    clear hv8 hv9 h37 h47 hMp7 h38 h48 hMp8 hb7' hb8 hT7 hTl hTo hTv hM8 ho8 hV8
    go_wp2_with fail
    refine (increase_any gp 0 (n + n' + 1) (n + n' + 1) _ _ _ _ _ w9 hMp9 hpo (by omega) (by omega) (by omega) (h39.dg64 hl3.out (by omega) ho3).tr (by omega) (fun _ ad he => by injection he with he; subst he; show g3 ≠ gp; omega)).mono ?_
    rintro e w10 ⟨cy10, cur10, rfl, _, hM10, ho10, hl10, hv10, _, hon10⟩
    have h410 := hon10.mk_ h49 (by omega)
    have h710 := hon10.mk_ hM9 (by omega)
    have hb10 := hb9.trans (hon10.below (Nat.le_of_eq rfl))
    have hl10' := hl10.out
    rw [hpl] at hl10'
    have hV10 := Lib.hid (show vl (bs .u64) cur10 = vl (bs .u64) cur3 from inc_exact (N := 0 + (n + n' + 1)) (cy := cy10) (by rw [hv10.out, hpv, Nat.pow_zero, Nat.one_mul, Nat.zero_add, vl_tr]) (by
      have h1 := hXY.out
      rw [HK.out] at h1
      rw [Nat.zero_add]
      have := HP.out
      omega))
    have q1 : (hf : Int) ≤ (n : Int) + (n' : Int) + 1 := by omega
    have q2 : ¬ (n + n' + 1 = hf) := by omega
    have hD9 : Dg .u64 w10 (some ⟨g7, 0, none⟩) (tl cur7) c7 cur9 := ⟨hl9.out, ht7, by omega, ho9, (h710.dg64 hl9.out (by omega) ho9).cell⟩
    have ht9 := Lib.hid (show tl cur9 ≤ n + n' + 1 - hf from by
      have h1 := hXY.out
      rw [HK.out, ← hV9.out] at h1
      have h2 : bs .u64 ^ hf * vl (bs .u64) cur9 < bs .u64 ^ hf * bs .u64 ^ (n + n' - hf) := by
        rw [← Nat.pow_add, show hf + (n + n' - hf) = n + n' by omega]; omega
      have h3 := tl_of_lt rfl (Nat.lt_of_mul_lt_mul_left h2)
      omega)
    have ht4' := Lib.hid (show tl cur4 ≤ n + n' + 1 - 2 * hf from by
      have h1 := hXY.out
      rw [HK.out] at h1
      have h2 : bs .u64 ^ (2 * hf) * vl (bs .u64) cur4 < bs .u64 ^ (2 * hf) * bs .u64 ^ (n + n' - 2 * hf) := by
        rw [← Nat.pow_add, show 2 * hf + (n + n' - 2 * hf) = n + n' by omega]; omega
      have h3 := tl_of_lt rfl (Nat.lt_of_mul_lt_mul_left h2)
      omega)
    clear h39 h49 hMp9 hM9 hb9 hv10
    go_upto_region 14 with fail
    go_region_held3 (fun _ => True) (exact trivial)
      (first
        | (go_at_call 119; refine (trim64_any _ _ _ _ _ hD9.drew).mono ?_; rintro e w11 ⟨rfl, rfl⟩)
        | (go_at_call 141; refine (increase_any gp hf (n + n' + 1 - hf) (n + n' + 1 - hf) _ _ _ _ _ w10.drew hM10.drew ho10 (by omega) (by omega) (by omega) hD9.drew.tr ht9.out (fun _ ad he => by injection he with he; subst he; show g7 ≠ gp; omega)).mono ?_; rintro e w12 ⟨cy12, cur12, rfl, _, hM12, ho12, hl12, hv12, _, hon12⟩))
    have h412 := hon12.mk_ h410.drew (by omega)
    have hb12 := hb10.drew.trans (hon12.below (Nat.le_of_eq rfl))
    have hl12' := hl12.out
    rw [hl10'] at hl12'
    have hV12 := Lib.hid (show vl (bs .u64) cur12 = vl (bs .u64) cur3 + bs .u64 ^ hf * (vl (bs .u64) l1 * vl (bs .u64) m2 + vl (bs .u64) l2 * vl (bs .u64) m1) from inc_exact (N := hf + (n + n' + 1 - hf)) (cy := cy12) (by rw [hv12.out, hV10.out, vl_tr, hV9.out]) (by
      have h1 := hXY.out
      rw [HK.out] at h1
      rw [show hf + (n + n' + 1 - hf) = n + n' + 1 by omega]
      have := HP.out
      omega))
    obtain ⟨h2, hh2⟩ : ∃ h2, 2 * hf = h2 := ⟨_, rfl⟩
    have q3 : (2 : Int) * (hf : Int) = (h2 : Int) := by omega
    have q4 : (h2 : Int) ≤ (n : Int) + (n' : Int) + 1 := by omega
    have q5 : ¬ (n + n' + 1 = h2) := by omega
    rw [hh2] at ht4' HK
    have q6 : h2 ≤ n + n' := by omega
    clear hh2 hv12 h410 h710 hD9 hM10 hb10
    go_wp2_with fail
    refine (increase_any gp h2 (n + n' + 1 - h2) (n + n' + 1 - h2) _ _ _ _ _ w12 hM12 ho12 (by omega) (by omega) (by omega) (h412.dg64 hl4.out (by omega) ho4).tr ht4'.out (fun _ ad he => by injection he with he; subst he; show g4 ≠ gp; omega)).mono ?_
    rintro e w13 ⟨cy13, cur13, rfl, _, hM13, ho13, hl13, hv13, _, hon13⟩
    have hb13 := hb12.trans (hon13.below (Nat.le_of_eq rfl))
    have hl13' := hl13.out
    rw [hl12'] at hl13'
    have hV13 := Lib.hid (show vl (bs .u64) cur13 = vl (bs .u64) xs * vl (bs .u64) ys from inc_exact (N := h2 + (n + n' + 1 - h2)) (cy := cy13) (by rw [hv13.out, hV12.out, vl_tr, HK.out]) (by
      have h1 := hXY.out
      rw [show h2 + (n + n' + 1 - h2) = n + n' + 1 by omega]
      have := HP.out
      omega))
    have hD13 := hM13.dg64 hl13' (by omega) ho13
    go_wp2_with fail
    refine (trim64_any _ _ _ _ _ hD13).mono ?_
    rintro e w' ⟨rfl, rfl⟩
    go_wp2
    go_ret
    exact ⟨gp, _, cur13, rfl, hM13, hl13', ho13, hV13.out, Nat.le_refl _, by omega, by rw [hgp]; exact hb13⟩
end Go.Proofs.YtbgihlfblmilmaaGreatDoor.Fr

/- Products, in general. -/
namespace Go.Proofs.YtbgihlfblmilmaaGreatDoor.Fr
open Go.RowKit Num

theorem mul_ok : ∀ M : Nat, M ≤ 900000 → MulOk M := by
  intro M
  induction M with
  | zero =>
    intro _ A A' n c n' c' xs ys w h h' hm
    have hlt : ¬ (n : Int) < (n' : Int) := by omega
    have h40 : (n' : Int) < 40 := by omega
    go_enter Tryz.func112, Tryz.ntmps112
    go_wp2_with fail
    refine (mulPlain_own _ _ _ _ _ _ _ _ _ h h' (by omega) (by omega)).mono ?_
    rintro e w' ⟨g, c1, cur, rfl, h1⟩
    go_wp2
    go_ret
    exact ⟨g, c1, cur, rfl, h1⟩
  | succ M ih =>
    intro hM A A' n c n' c' xs ys w h h' hm
    have ih := ih (by omega)
    by_cases hl : n < n'
    · have hlt : (n : Int) < (n' : Int) := by omega
      by_cases h40 : n < 40
      · have h41 : (n : Int) < 40 := by omega
        go_enter Tryz.func112, Tryz.ntmps112
        go_wp2_with fail
        refine (mulPlain_own _ _ _ _ _ _ _ _ _ h' h (by omega) (by omega)).mono ?_
        rintro e w' ⟨g, c1, cur, rfl, h1, h2, h3, h4, h5, h6⟩
        go_wp2
        go_ret
        exact ⟨g, c1, cur, rfl, h1, h2, h3, by rw [Nat.mul_comm]; exact h4, by omega, h6⟩
      · have h41 : ¬ (n : Int) < 40 := by omega
        go_enter Tryz.func112, Tryz.ntmps112
        go_wp2_with fail
        refine (mulHalves_own M ih _ _ _ _ _ _ _ _ _ h' h (by omega) (by omega) (by omega) (by omega)).mono ?_
        rintro e w' ⟨g, c1, cur, rfl, h1, h2, h3, h4, h5, h6⟩
        go_wp2
        go_ret
        exact ⟨g, c1, cur, rfl, h1, h2, h3, by rw [Nat.mul_comm]; exact h4, by omega, h6⟩
    · have hlt : ¬ (n : Int) < (n' : Int) := by omega
      by_cases h40 : n' < 40
      · have h41 : (n' : Int) < 40 := by omega
        go_enter Tryz.func112, Tryz.ntmps112
        go_wp2_with fail
        refine (mulPlain_own _ _ _ _ _ _ _ _ _ h h' (by omega) (by omega)).mono ?_
        rintro e w' ⟨g, c1, cur, rfl, h1⟩
        go_wp2
        go_ret
        exact ⟨g, c1, cur, rfl, h1⟩
      · have h41 : ¬ (n' : Int) < 40 := by omega
        go_enter Tryz.func112, Tryz.ntmps112
        go_wp2_with fail
        refine (mulHalves_own M ih _ _ _ _ _ _ _ _ _ h h' (by omega) (by omega) (by omega) (by omega)).mono ?_
        rintro e w' ⟨g, c1, cur, rfl, h1⟩
        go_wp2
        go_ret
        exact ⟨g, c1, cur, rfl, h1⟩

/-- the product of two numbers -/
theorem mul64_any (A A' : Option Addr) (n c n' c' : Nat) (xs ys : List Nat) (w : World) (h : Dg .u64 w A n c xs) (h' : Dg .u64 w A' n' c' ys) (hn : n ≤ 400000) (hn' : n' ≤ 400000) :
    Calls Tryz.prog 112 #[.slice A n c, .slice A' n' c'] w (RetF .u64 w (vl (bs .u64) xs * vl (bs .u64) ys) (n + n')) := by
  refine (mul_ok 900000 (Nat.le_refl _) A A' n c n' c' xs ys w h h' (by omega)).mono ?_
  rintro e w' ⟨g, c1, cur, rfl, hM, hl, ho, hv, hc, hg, hb⟩
  refine ⟨_, _, _, _, rfl, (hM.dg64 hl.out (by omega) ho).tr, nrm_tr _, show _ = _ by rw [vl_tr]; exact hv.out, tl_of_lt hv.out (by rw [Nat.pow_add]; exact Nat.mul_lt_mul'' h.nvl h'.nvl), hb, fun ad he => ?_⟩
  injection he with he
  subst he
  exact hg
end Go.Proofs.YtbgihlfblmilmaaGreatDoor.Fr
