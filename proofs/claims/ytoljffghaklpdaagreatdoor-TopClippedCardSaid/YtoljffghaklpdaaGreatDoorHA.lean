/- The theorem of logarithms: the law's walk. -/
import Derived.Test.YtoljffghaklpdaaGreatDoorPM
import Derived.Test.YtoljffghaklpdaaGreatDoorFD
namespace Go.Proofs.YtoljffghaklpdaaGreatDoor
open Go.RowKit

abbrev YesF (w : World) (e : Ending) (w' : World) : Prop := e = .returned (.bool true) ∧ Below w.heap.size w w'

theorem bl_ge {x : Nat} (h : 0 < x) : 2 ^ (Fr.bl x - 1) ≤ x := by
  unfold Fr.bl
  rw [if_neg (by omega)]
  exact Nat.log2_self_le (by omega)
theorem bl_pos {x : Nat} (h : 0 < x) : 1 ≤ Fr.bl x := by
  unfold Fr.bl
  rw [if_neg (by omega)]
  omega
theorem bl_mono {x y : Nat} (h : x ≤ y) : Fr.bl x ≤ Fr.bl y := Fr.bl_le (Nat.lt_of_le_of_lt h (Fr.lt_bl y))
theorem bl_mul {x y : Nat} (hx : 0 < x) (hy : 0 < y) : Fr.bl (x * y) = Fr.bl x + Fr.bl y - 1 ∨ Fr.bl (x * y) = Fr.bl x + Fr.bl y := by
  have h1 : Fr.bl (x * y) ≤ Fr.bl x + Fr.bl y := Fr.bl_le (by rw [Nat.pow_add]; exact Nat.mul_lt_mul'' (Fr.lt_bl x) (Fr.lt_bl y))
  have h2 : Fr.bl x + Fr.bl y - 1 ≤ Fr.bl (x * y) := by
    have a1 := bl_ge hx
    have a2 := bl_ge hy
    have a3 := Nat.mul_le_mul a1 a2
    rw [← Nat.pow_add] at a3
    have p1 := bl_pos hx
    have p2 := bl_pos hy
    rcases Nat.lt_or_ge (Fr.bl (x * y)) (Fr.bl x + Fr.bl y - 1) with h | h
    · have b1 := Fr.lt_bl (x * y)
      have b2 : 2 ^ Fr.bl (x * y) ≤ 2 ^ (Fr.bl x - 1 + (Fr.bl y - 1)) := Nat.pow_le_pow_right (by decide) (by omega)
      omega
    · exact h
  omega
theorem bl_two (k x : Nat) (hx : 0 < x) : Fr.bl (2 ^ k * x) = k + Fr.bl x := by
  have := Fr.bl_shift hx (k := k) (y := 0) (Nat.pow_pos (by decide))
  rwa [Nat.zero_add] at this
theorem pow_pos16 {a : Nat} (h : 0 < a) : 0 < a ^ 16 := Nat.pow_pos h
theorem lg_pos {a : Nat} (h : 0 < a) : lg a = (Fr.bl (a ^ 16) : Nat) - 1 := by unfold lg; rw [if_neg (by omega)]
theorem lg_mono {a b : Nat} (h : 0 < a) (hab : a ≤ b) : lg a ≤ lg b := by
  rw [lg_pos h, lg_pos (by omega)]
  have := bl_mono (Nat.pow_le_pow_left hab 16)
  omega
theorem lg_two {a : Nat} (h : 0 < a) : lg (2 * a) = lg a + 16 := by
  rw [lg_pos h, lg_pos (by omega), Nat.mul_pow, bl_two 16 _ (pow_pos16 h)]
  omega
theorem lg_pow (p : Nat) : lg (2 ^ p) = 16 * p := by
  rw [lg_pos (Nat.pow_pos (by decide)), ← Nat.pow_mul]
  have := bl_two (p * 16) 1 (by decide)
  rw [Nat.mul_one] at this
  rw [this]
  have h1 : Fr.bl 1 = 1 := by decide
  omega
theorem lg_mul {a b : Nat} (h : 0 < a) (h' : 0 < b) : lg (a * b) = lg a + lg b ∨ lg (a * b) = lg a + lg b + 1 := by
  rw [lg_pos h, lg_pos h', lg_pos (Nat.mul_pos h h'), Nat.mul_pow]
  have p1 := bl_pos (pow_pos16 h)
  have p2 := bl_pos (pow_pos16 h')
  rcases bl_mul (pow_pos16 h) (pow_pos16 h') with e | e <;> rw [e] <;> omega
theorem lg_bd {a : Nat} (h : 0 < a) (hb : a ≤ 9223372036854775807) : 0 ≤ lg a ∧ lg a ≤ 2000 := by
  have h1 := lg_mono (a := 1) (b := a) (by decide) h
  have h2 := lg_mono (a := a) (b := 2 ^ 63) h (by omega)
  rw [lg_pow] at h2
  have e : lg 1 = 0 := lg_pow 0
  omega

end Go.Proofs.YtoljffghaklpdaaGreatDoor


/- Inverse transforms, transforms, spectra and slacks: the laws' walks. -/
namespace Go.Proofs.YtoljffghaklpdaaGreatDoor
open Go.RowKit

theorem Same_yes (A A' : Option Addr) (n c n' c' : Nat) (xs : List Int) (w : World) (h : Sl .i64 w A n c xs) (h' : Sl .i64 w A' n' c' xs) :
    Calls Tryz.prog 29 #[.slice A n c, .slice A' n' c'] w fun e w' => ∃ k, e = .returned (.bool true) ∧ w' = w.drewN k :=
  (Same_any _ _ _ _ _ _ _ _ _ h h').mono fun e w' ⟨k, h1, h2⟩ => ⟨k, by rw [h1, sameB_yes rfl], h2⟩

end Go.Proofs.YtoljffghaklpdaaGreatDoor


/- Transforms, spectra and slacks: the law's walk. -/
namespace Go.Proofs.YtoljffghaklpdaaGreatDoor
open Go.RowKit

theorem Same_bel (A A' : Option Addr) (n c n' c' : Nat) (xs : List Int) (w : World) (h : Sl .i64 w A n c xs) (h' : Sl .i64 w A' n' c' xs) :
    Calls Tryz.prog 29 #[.slice A n c, .slice A' n' c'] w fun e w' => e = .returned (.bool true) ∧ Below w.heap.size w w' :=
  (Same_any _ _ _ _ _ _ _ _ _ h h').mono fun e w' ⟨k, h1, h2⟩ => ⟨by rw [h1, sameB_yes rfl], by rw [h2]; exact bel_drewN (Below.refl _ _) k⟩

end Go.Proofs.YtoljffghaklpdaaGreatDoor


/- The document's vectors: distance, vectors, codebook, errors, the nearest codeword; few. -/
namespace Go.Proofs.YtoljffghaklpdaaGreatDoor
open Go.RowKit

set_option maxHeartbeats 800000 in
theorem RDistance_any (A A' : Option Addr) (n c c' : Nat) (xs ys : List Int) (w : World) (h : Sl .i64 w A n c xs) (h' : Sl .i64 w A' n c' ys) (hn : n ≤ 64)
    (hx : allB (-1048576) 1048576 xs = true) (hy : allB (-1048576) 1048576 ys = true) :
    Calls Tryz.prog 82 #[.slice A n c, .slice A' n c'] w fun e w' => e = .returned (.int .i64 (dist xs ys)) ∧ ∃ r, w' = w.drewN r := by
  have hl := Lib.hid h.len
  have hl' := Lib.hid h'.len
  have hcap := h.cap
  have htop := h.top
  have hcap' := h'.cap
  have htop' := h'.top
  have hd := Lib.hid (show dist xs ys = sm n (dsF xs ys) by unfold dist; rw [hl.out])
  have hsb := Lib.hid (fun j (hj : j ≤ n) => dsS_bd hx hy (by rw [hl.out, hl'.out]) (by rw [hl.out]; exact hn) (j := j) (by rw [hl.out]; exact hj))
  have hx := Lib.hid hx
  have hy := Lib.hid hy
  go_enter Tryz.func82, Tryz.ntmps82
  go_wp2
  go_loopw [5, 6] (fun sv iv wr => ∃ k r : Nat, iv = .int .i64 k ∧ k ≤ n ∧ sv = .int .i64 (sm k (dsF xs ys)) ∧ wr = w.drewN r) (fun _ iv _ => n - (intOf iv).toNat)
  case atStart => exact ⟨0, 0, rfl, Nat.zero_le _, rfl, rfl⟩
  case round =>
    obtain ⟨k, r, rfl, hkn, rfl, rfl⟩ := hrel
    have hr := h.drewN r
    have hr' := h'.drewN r
    generalize hw : w.drewN r = w1 at *
    have hw := Lib.hid hw
    rcases Nat.lt_or_ge k n with hlt | hge
    · obtain ⟨ax, x, rfl, hcx, hxx⟩ := hr.at_ hlt
      obtain ⟨ay, y, rfl, hcy, hyy⟩ := hr'.at_ hlt
      have hs1 := hsb.out k hkn
      have hs2 := hsb.out (k + 1) hlt
      have hstep := Lib.hid (show sm (k + 1) (dsF xs ys) = sm k (dsF xs ys) + (x - y) * (x - y) by show sm k _ + dsF xs ys k = _; unfold dsF; rw [hxx.out, hyy.out])
      have hxb := allB_get hx.out (by rw [hl.out]; exact hlt) hxx.out
      have hyb := allB_get hy.out (by rw [hl'.out]; exact hlt) hyy.out
      rw [hstep.out] at hs2
      obtain ⟨p, hp⟩ : ∃ p, (x - y) * (x - y) = p := ⟨_, rfl⟩
      rw [hp] at hs2
      have hstep' := Lib.hid (show sm (k + 1) (dsF xs ys) = sm k (dsF xs ys) + p by rw [hstep.out, hp])
      generalize sm k (dsF xs ys) = S at *
      have hpb : -281474976710656 ≤ p ∧ p ≤ 281474976710656 := by omega
      have e1 : IntKind.i64.wrap (x - y) = x - y := IntWalk.i64_in _ (by omega)
      have e2 : IntKind.i64.wrap ((x - y) * (x - y)) = p := by rw [hp]; exact IntWalk.i64_in _ (by omega)
      have e3 : IntKind.i64.wrap (S + p) = S + p := IntWalk.i64_in _ (by omega)
      have i0 : (0 : Int) ≤ (k : Int) := by omega
      have i1 : (k : Int) < (n : Int) := by omega
      clear hp hpb hxb hyb hs1 hs2 hstep
      go_wp2
      go_quiet (fail)
      go_wp2
      go_roundw
      case rel => exact ⟨k + 1, r + nq, by go_num, hlt, by rw [hstep'.out], by rw [← hw.out]; exact dr_add w r nq⟩
      case measure => simp [intOf]; omega
    · have hkn : k = n := by omega
      subst hkn
      go_wp2
      go_ret
      exact ⟨ret_int hd.out.symm, r, hw.out.symm⟩

theorem nrS_at {x : List Int} {us : List (List Int)} (hx : allB (-1048576) 1048576 x = true) (hl2 : x.length ≤ 64) (hu : ∀ u ∈ us, u.length = x.length ∧ allB (-1048576) 1048576 u = true) {k : Nat} (h1 : 1 ≤ k) (hk : k ≤ us.length) :
    (nrS x us k).2 = dist x (us.getD (nrS x us k).1 []) := by
  induction k with
  | zero => omega
  | succ k ih =>
    have hm : us.getD k [] ∈ us := by rw [List.getD_eq_getElem?_getD, List.getElem?_eq_getElem (by omega)]; exact List.getElem_mem _
    have h2 := hu _ hm
    have h3 := dsS_bd hx h2.2 h2.1.symm hl2 (Nat.le_refl _)
    have h5 : dist x (us.getD k []) ≤ 281474976710656 := h3.2
    unfold nrS
    split
    · rfl
    · rename_i hn
      rcases Nat.eq_zero_or_pos k with rfl | hp
      · exfalso
        apply hn
        show dist x (us.getD 0 []) < 9223372036854775807
        omega
      · exact ih hp (by omega)

set_option maxHeartbeats 1600000 in
theorem RNearest_any (A A' : Option Addr) (m c n c' : Nat) (xs : List Int) (us : List (List Int)) (w : World) (h : Sl .i64 w A m c xs) (h' : Rr w A' n c' us) (hx : allB (-1048576) 1048576 xs = true) (hm2 : m ≤ 64) (hn : 1 ≤ n)
    (hu : ∀ u ∈ us, u.length = m ∧ allB (-1048576) 1048576 u = true) :
    Calls Tryz.prog 83 #[.slice A m c, .slice A' n c'] w fun e w' => e = .returned (.int .i64 ((nrS xs us n).1 : Nat)) ∧ ∃ r, w' = w.drewN r := by
  have hl := Lib.hid h.len
  have hl' := Lib.hid h'.len
  have hcap := h.cap
  have htop := h.top
  have hcap' := h'.cap
  have htop' := h'.top
  have hu' : ∀ u ∈ us, u.length = xs.length ∧ allB (-1048576) 1048576 u = true := fun u h9 => by rw [hl.out]; exact hu u h9
  have hbd := Lib.hid (fun k (hk : k ≤ n) => nrS_bd hx (by rw [hl.out]; exact hm2) hu' (k := k) (by rw [hl'.out]; exact hk))
  have hat := Lib.hid (fun k (h1 : 1 ≤ k) (hk : k ≤ n) => nrS_at hx (by rw [hl.out]; exact hm2) hu' h1 (k := k) (by rw [hl'.out]; exact hk))
  have h01 := Lib.hid (show (nrS xs us 1).1 = 0 by have := (hbd.out 1 hn).2.2.2 (by decide); omega)
  have hx := Lib.hid hx
  have hu := Lib.hid hu
  clear hu'
  go_enter Tryz.func83, Tryz.ntmps83
  go_wp2
  go_loopw [5, 6] (fun av iv wr => ∃ k r : Nat, iv = .int .i64 k ∧ 1 ≤ k ∧ k ≤ n ∧ av = .int .i64 ((nrS xs us k).1 : Nat) ∧ wr = w.drewN r) (fun _ iv _ => n - (intOf iv).toNat)
  case atStart => exact ⟨1, 0, rfl, Nat.le_refl _, hn, by rw [h01.out]; rfl, rfl⟩
  case round =>
    obtain ⟨k, r, rfl, hk1, hkn, rfl, rfl⟩ := hrel
    have hr := h.drewN r
    have hr' := h'.below (bel_drewN (Below.refl _ _) r)
    generalize hw : w.drewN r = w1 at *
    have hw := Lib.hid hw
    have hb := (hbd.out k hkn).2.2.2 (by omega)
    have hb2 := hb.2
    clear hb
    have hatk := Lib.hid (hat.out k hk1 hkn)
    obtain ⟨a, ha⟩ : ∃ a, (nrS xs us k).1 = a := ⟨_, rfl⟩
    have hnx := Lib.hid (show (nrS xs us (k + 1)).1 = if dist xs (us.getD k []) < dist xs (us.getD a []) then k else a by
      show (if dist xs (us.getD k []) < (nrS xs us k).2 then (k, _) else nrS xs us k).1 = _
      rw [hatk.out, ha]
      split
      · rfl
      · exact ha)
    have hfin := Lib.hid (show k = n → (nrS xs us n).1 = a from fun e => by rw [← e]; exact ha)
    rw [ha] at hb2
    rw [ha]
    clear ha hatk
    rcases Nat.lt_or_ge k n with hlt | hge
    · obtain ⟨ad, B, L, C, y, rfl, hc, hy, hS, _⟩ := hr'.at_ hlt
      obtain ⟨ad2, B2, L2, C2, y2, e2, hc2, hy2, hS2, _⟩ := hr'.at_ (i := a) (by omega)
      injection e2 with e2
      subst e2
      have hum := hu.out y (List.mem_of_getElem? hy.out)
      have hLm : L = m := by rw [← hS.len]; exact hum.1
      subst hLm
      have hum2 := hu.out y2 (List.mem_of_getElem? hy2.out)
      have hLm2 : L2 = L := by rw [← hS2.len]; exact hum2.1
      subst hLm2
      have hyb := Lib.hid hum.2
      have hyb2 := Lib.hid hum2.2
      have hd1 := Lib.hid (fun (i : Nat) => RDistance_any _ _ _ _ _ _ _ (w1.drewN i) (hr.drewN i) (hS.drewN i) hm2 hx.out hyb.out)
      have hd2 := Lib.hid (fun (i : Nat) => RDistance_any _ _ _ _ _ _ _ (w1.drewN i) (hr.drewN i) (hS2.drewN i) hm2 hx.out hyb2.out)
      rw [getD_some hy.out, getD_some hy2.out] at hnx
      generalize dist xs y = D1 at *
      generalize dist xs y2 = D2 at *
      clear hum hum2
      have i0 : (0 : Int) ≤ (k : Int) := by omega
      have i1 : (k : Int) < (n : Int) := by omega
      have i2 : (0 : Int) ≤ (a : Int) := by omega
      have i3 : (a : Int) < (n : Int) := by omega
      rcases Int.lt_or_le D1 D2 with hlt2 | hge2
      · have hdd : decide (D1 < D2) = true := decide_eq_true hlt2
        have hz := Lib.hid (show (nrS xs us (k + 1)).1 = k by rw [hnx.out, if_pos hlt2])
        go_wp2
        go_quiet (first | (go_at_call_of 82 (Value.slice B L2 C); exact Calls.quiet_of (hd1.out _)) | (go_at_call_of 82 (Value.slice B2 L2 C2); exact Calls.quiet_of (hd2.out _)))
        go_wp2
        go_roundw
        case rel => exact ⟨k + 1, r + nq, by go_num, by omega, hlt, by rw [hz.out], by rw [← hw.out]; exact dr_add w r nq⟩
        case measure => simp [intOf]; omega
      · have hdd : decide (D1 < D2) = false := decide_eq_false (by omega)
        have hz := Lib.hid (show (nrS xs us (k + 1)).1 = a by rw [hnx.out, if_neg (by omega)])
        go_wp2
        go_quiet (first | (go_at_call_of 82 (Value.slice B L2 C); exact Calls.quiet_of (hd1.out _)) | (go_at_call_of 82 (Value.slice B2 L2 C2); exact Calls.quiet_of (hd2.out _)))
        go_wp2
        go_roundw
        case rel => exact ⟨k + 1, r + nq, by go_num, by omega, hlt, by rw [hz.out], by rw [← hw.out]; exact dr_add w r nq⟩
        case measure => simp [intOf]; omega
    · have hkn' : k = n := by omega
      have hf := Lib.hid (hfin.out hkn')
      subst hkn'
      go_wp2
      go_ret
      exact ⟨ret_int (by rw [hf.out]), r, hw.out.symm⟩
end Go.Proofs.YtoljffghaklpdaaGreatDoor


/- The document's vectors, codebook, errors; few. -/
namespace Go.Proofs.YtoljffghaklpdaaGreatDoor
open Go.RowKit

theorem rr_head {w : World} {A : Option Addr} {n c : Nat} {vs : List (List Int)} (h : Rr w A n c vs) (hn : 0 < n) : ∃ ad B L C x, A = some ad ∧ w.cell? ad = some (.slice B L C) ∧ vs.headD [] = x ∧ Sl .i64 w B L C x ∧ L ≤ 17592186044416 := by
  obtain ⟨ad, B, L, C, x, rfl, hc, hy, hS, _, hL⟩ := h.at_ hn
  refine ⟨ad, B, L, C, x, rfl, by rw [show ad.add 0 = ad from by unfold Addr.add; simp] at hc; exact hc, ?_, hS, hL⟩
  have := hy.out
  cases vs with
  | nil => cases this
  | cons v vs => injection this

set_option maxHeartbeats 3200000 in
set_option maxRecDepth 100000 in
theorem RVectors_any (A : Option Addr) (n c : Nat) (vs : List (List Int)) (w : World) (h : Rr w A n c vs) :
    Calls Tryz.prog 81 #[.slice A n c] w fun e w' => e = .returned (.bool (vecsB vs)) ∧ ∃ r, w' = w.drewN r := by
  have hl := Lib.hid h.len
  have hcap := h.cap
  have htop := h.top
  go_enter Tryz.func81, Tryz.ntmps81
  go_wp2
  go_loopw [3] (fun iv wr => ∃ k r : Nat, iv = .int .i64 k ∧ k ≤ n ∧ Hid ((vs.take k).all (rowOk vs) = true) ∧ wr = w.drewN r) (fun iv _ => n - (intOf iv).toNat)
  case atStart => exact ⟨0, 0, rfl, Nat.zero_le _, Lib.hid rfl, rfl⟩
  case round =>
    obtain ⟨k, r, rfl, hkn, hall, rfl⟩ := hrel
    have hr := h.below (bel_drewN (Below.refl _ _) r)
    generalize hw : w.drewN r = w1 at *
    have hw := Lib.hid hw
    rcases Nat.lt_or_ge k n with hlt | hge
    · obtain ⟨ad, B, L, C, y, rfl, hc, hy, hS, _, hLb⟩ := hr.at_ hlt
      obtain ⟨ad0, B0, L0, C0, y0, e0, hc0, hy0, hS0, hLb0⟩ := rr_head hr (by omega)
      injection e0 with e0
      subst e0
      have hyl := Lib.hid hS.len
      have hyl0 := Lib.hid hS0.len
      have hrow := Lib.hid (show rowOk vs y = (okB 1 64 (L : Int) && allB (-1048576) 1048576 y && decide (L = L0)) by unfold rowOk vecB; rw [hy0, hyl.out, hyl0.out])
      have hno := Lib.hid (fun (hf : rowOk vs y = false) => show vecsB vs = false by
        unfold vecsB
        rw [List.all_eq_false]
        exact ⟨y, List.mem_of_getElem? hy.out, by rw [hf]; simp⟩)
      have hyes := Lib.hid (fun (hf : rowOk vs y = true) => take_all_snoc hall.out hy.out hf)
      have hall2 := Lib.hid (fun (i : Nat) => (All_any B L C y (-1048576) 1048576 (w1.drewN i) (hS.drewN i)).mono (fun e w' h9 => (⟨h9.1, h9.2.symm⟩ : e = .returned (.bool (allB (-1048576) 1048576 y)) ∧ w' = w1.drewN i)))
      clear hy0
      have i0 : (0 : Int) ≤ (k : Int) := by omega
      have i1 : (k : Int) < (n : Int) := by omega
      have i2 : (0 : Int) < (n : Int) := by omega
      have hn1 : 0 < n := by omega
      have hc00 : w1.cell? (ad.add 0) = some (.slice B0 L0 C0) := by rw [show ad.add 0 = ad from by unfold Addr.add; simp]; exact hc0
      have hcases : L < 1 ∨ (1 ≤ L ∧ 64 < L) ∨ (1 ≤ L ∧ L ≤ 64 ∧ ¬ L = L0) ∨ (1 ≤ L ∧ L ≤ 64 ∧ L = L0) := by omega
      rcases hcases with c1 | ⟨c1, c2⟩ | ⟨c1, c2, c3⟩ | ⟨c1, c2, c3⟩
      · have hbad := Lib.hid (hno.out (by rw [hrow.out, okB_lo (by omega)]; rfl))
        have d1 : decide ((L : Int) < 1) = true := decide_eq_true (by omega)
        go_wp2
        go_quiet (fail)
        go_wp2
        go_ret
        exact ⟨ret_bool hbad.out.symm, r + nq, by rw [← hw.out]; exact dr_add w r nq⟩
      · have hbad := Lib.hid (hno.out (by rw [hrow.out, okB_hi (by omega)]; rfl))
        have d1 : decide ((L : Int) < 1) = false := decide_eq_false (by omega)
        have d2 : decide (64 < (L : Int)) = true := decide_eq_true (by omega)
        go_wp2
        go_quiet (fail)
        go_wp2
        go_ret
        exact ⟨ret_bool hbad.out.symm, r + nq, by rw [← hw.out]; exact dr_add w r nq⟩
      · have hbad := Lib.hid (hno.out (by rw [hrow.out, decide_eq_false c3, Bool.and_false]))
        have d1 : decide ((L : Int) < 1) = false := decide_eq_false (by omega)
        have d2 : decide (64 < (L : Int)) = false := decide_eq_false (by omega)
        have d3 : ((L : Int) == (L0 : Int)) = false := by rw [beq_eq_false_iff_ne]; omega
        have d4 : ((L : Int) != (L0 : Int)) = true := by rw [bne_iff_ne]; omega
        have d5 : ¬ (L : Int) = (L0 : Int) := by omega
        clear hrow hno hyes
        go_wp2
        go_quiet (fail)
        go_wp2
        go_ret
        exact ⟨ret_bool hbad.out.symm, r + nq, by rw [← hw.out]; exact dr_add w r nq⟩
      · subst c3
        have d1 : decide ((L : Int) < 1) = false := decide_eq_false (by omega)
        have d2 : decide (64 < (L : Int)) = false := decide_eq_false (by omega)
        cases hA : allB (-1048576) 1048576 y with
        | false =>
          have hbad := Lib.hid (hno.out (by rw [hrow.out, hA, Bool.and_false]; rfl))
          rw [hA] at hall2
          clear hA
          go_wp2
          go_quiet ((go_at_call 19; exact Calls.quiet_of_same (hall2.out _)))
          go_wp2
          go_ret
          exact ⟨ret_bool hbad.out.symm, r + nq, by rw [← hw.out]; exact dr_add w r nq⟩
        | true =>
          have hok := Lib.hid (hyes.out (by rw [hrow.out, hA, okB_mk (by omega) (by omega)]; simp))
          rw [hA] at hall2
          clear hA
          go_wp2
          go_quiet ((go_at_call 19; exact Calls.quiet_of_same (hall2.out _)))
          go_wp2
          go_roundw
          case rel => exact ⟨k + 1, r + nq, by go_num, hlt, hok, by rw [← hw.out]; exact dr_add w r nq⟩
          case measure => simp [intOf]; omega
    · have hkn' : k = n := by omega
      have hfin := Lib.hid (show vecsB vs = true by
        have := hall.out
        rw [List.take_of_length_le (by rw [hl.out]; omega)] at this
        exact this)
      go_wp2
      go_ret
      exact ⟨ret_bool hfin.out.symm, r, hw.out.symm⟩

theorem RBook_any (A : Option Addr) (n c : Nat) (us : List (List Int)) (w : World) (h : Rr w A n c us) :
    Calls Tryz.prog 31 #[.slice A n c] w fun e w' => e = .returned (.bool (okB 1 256 (n : Int) && vecsB us)) ∧ ∃ r, w' = w.drewN r := by
  have hcap := h.cap
  have htop := h.top
  rcases Nat.lt_or_ge n 1 with h1 | h1
  · have hv := Lib.hid (show (okB 1 256 (n : Int) && vecsB us) = false by rw [okB_lo (by omega)]; rfl)
    go_enter Tryz.func31, Tryz.ntmps31
    go_wp2
    go_ret
    exact ⟨ret_bool hv.out.symm, 0, rfl⟩
  rcases Nat.lt_or_ge 256 n with h2 | h2
  · have hv := Lib.hid (show (okB 1 256 (n : Int) && vecsB us) = false by rw [okB_hi (by omega)]; rfl)
    go_enter Tryz.func31, Tryz.ntmps31
    go_wp2
    go_ret
    exact ⟨ret_bool hv.out.symm, 0, rfl⟩
  · have hv := Lib.hid (show (okB 1 256 (n : Int) && vecsB us) = vecsB us by rw [okB_mk (by omega) (by omega)]; rfl)
    go_enter Tryz.func31, Tryz.ntmps31
    go_wp2_with fail
    refine (RVectors_any _ _ _ _ _ h).mono ?_
    rintro e w1 ⟨rfl, r, hw1⟩
    go_wp2
    go_ret
    exact ⟨ret_bool hv.out.symm, r, rfl⟩

def IsB (e : Ending) : Prop := ∃ b, e = .returned (.bool b)
theorem isB (b : Bool) : IsB (.returned (.bool b)) := ⟨b, rfl⟩
set_option maxHeartbeats 1600000 in
set_option maxRecDepth 100000 in
theorem few_any (A : Option Addr) (n c m : Nat) (vs : List (List Int)) (w : World) (h : Rr w A n c vs) (hm : m ≤ 1000) :
    Calls Tryz.prog 20 #[.slice A n c, .int .i64 (m : Int)] w fun e w' => IsB e ∧ w' = w := by
  have hcap := h.cap
  have htop := h.top
  go_enter Tryz.func20, Tryz.ntmps20
  go_wp2
  go_loop [5] (fun iv => ∃ k : Nat, iv = .int .i64 k ∧ k ≤ n) (fun iv => n - (intOf iv).toNat)
  case atStart => exact ⟨0, rfl, Nat.zero_le _⟩
  case round =>
    obtain ⟨k, rfl, hkn⟩ := hrel
    have hcs : (k < n ∧ k ≤ m) ∨ ((¬ k < n ∨ (k < n ∧ m < k)) ∧ (n ≤ m ∨ (m < n ∧ n ≤ 10000) ∨ (m < n ∧ 10000 < n ∧ n < 20000) ∨ (m < n ∧ 10000 < n ∧ ¬ n < 20000))) := by omega
    rcases hcs with ⟨c1, c2⟩ | ⟨c1, c2⟩
    · obtain ⟨ad, B, L, C, y, rfl, hc, hy, hS, _, hLb⟩ := h.at_ c1
      have d1 : decide ((k : Int) < (n : Int)) = true := decide_eq_true (by omega)
      have d2 : decide ((k : Int) ≤ (m : Int)) = true := decide_eq_true (by omega)
      have i0 : (0 : Int) ≤ (k : Int) := by omega
      rcases Nat.lt_or_ge 70 L with hL | hL
      · go_wp2
        go_ret
        exact ⟨isB _, rfl⟩
      · go_wp2
        go_round
        case rel => exact ⟨k + 1, by go_num, c1⟩
        case measure => simp [intOf]; omega
    · rcases c1 with c1 | ⟨c1, c3⟩
      case' inl => have d1 : decide ((k : Int) < (n : Int)) = false := decide_eq_false (by omega)
      case' inr =>
        have d1 : decide ((k : Int) < (n : Int)) = true := decide_eq_true (by omega)
        have d2 : decide ((k : Int) ≤ (m : Int)) = false := decide_eq_false (by omega)
      all_goals rcases c2 with c2 | ⟨c2, c4⟩ | ⟨c2, c4, c5⟩ | ⟨c2, c4, c5⟩
      all_goals first
        | have d3 : decide ((n : Int) ≤ (m : Int)) = true := decide_eq_true (by omega)
        | (have d3 : decide ((n : Int) ≤ (m : Int)) = false := decide_eq_false (by omega)
           first
            | have d4 : decide (10000 < (n : Int)) = false := decide_eq_false (by omega)
            | (have d4 : decide (10000 < (n : Int)) = true := decide_eq_true (by omega)
               first
                | have d5 : decide ((n : Int) < 20000) = true := decide_eq_true (by omega)
                | have d5 : decide ((n : Int) < 20000) = false := decide_eq_false (by omega)))
      all_goals first
        | (go_wp2; done)
        | (go_wp2; go_ret; exact ⟨isB _, rfl⟩)
end Go.Proofs.YtoljffghaklpdaaGreatDoor
