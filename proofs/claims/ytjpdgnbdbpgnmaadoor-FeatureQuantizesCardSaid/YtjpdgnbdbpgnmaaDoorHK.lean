/- The document's vectors: distance, vectors, codebook, errors, the nearest codeword; few. -/
import Derived.Test.YtjpdgnbdbpgnmaaDoorHE
namespace Go.Proofs.YtjpdgnbdbpgnmaaDoor
open Go.RowKit

set_option maxHeartbeats 800000 in
theorem RDistance_any (A A' : Option Addr) (n c c' : Nat) (xs ys : List Int) (w : World) (h : Sl .i64 w A n c xs) (h' : Sl .i64 w A' n c' ys) (hn : n ≤ 64)
    (hx : allB (-1048576) 1048576 xs = true) (hy : allB (-1048576) 1048576 ys = true) :
    Calls Tryd.prog 48 #[.slice A n c, .slice A' n c'] w fun e w' => e = .returned (.int .i64 (dist xs ys)) ∧ ∃ r, w' = w.drewN r := by
  have hl := Lib.hid h.len
  have hl' := Lib.hid h'.len
  have hcap := h.cap
  have htop := h.top
  have hcap' := h'.cap
  have htop' := h'.top
  have hd := Lib.hid (show dist xs ys = sm n (dsF xs ys) by unfold dist; rw [hl.out])
  have hsb := Lib.hid (fun j (hj : j ≤ n) => dsS_bd hx hy (by rw [hl.out, hl'.out]) (by rw [hl.out]; exact hn) (j := j) (by rw [hl.out]; exact hj))
  have hx := Lib.hid hx
  have hy := Lib.hid hy
  go_enter Tryd.func48, Tryd.ntmps48
  go_wp2
  go_loopw [5, 6] (fun sv iv wr => ∃ k r : Nat, iv = .int .i64 k ∧ k ≤ n ∧ sv = .int .i64 (sm k (dsF xs ys)) ∧ wr = w.drewN r) (fun _ iv _ => n - (intOf iv).toNat)
  case atStart => exact ⟨0, 0, rfl, Nat.zero_le _, rfl, rfl⟩
  case round =>
    obtain ⟨k, r, rfl, hkn, rfl, rfl⟩ := hrel
    have hr := h.drewN r
    have hr' := h'.drewN r
    generalize hw : w.drewN r = w1 at *
    have hw := Lib.hid hw
    rcases Nat.lt_or_ge k n with hlt | hge
    · obtain ⟨ax, x, rfl, hcx, hxx⟩ := hr.at_ hlt
      obtain ⟨ay, y, rfl, hcy, hyy⟩ := hr'.at_ hlt
      have hs1 := hsb.out k hkn
      have hs2 := hsb.out (k + 1) hlt
      have hstep := Lib.hid (show sm (k + 1) (dsF xs ys) = sm k (dsF xs ys) + (x - y) * (x - y) by show sm k _ + dsF xs ys k = _; unfold dsF; rw [hxx.out, hyy.out])
      have hxb := allB_get hx.out (by rw [hl.out]; exact hlt) hxx.out
      have hyb := allB_get hy.out (by rw [hl'.out]; exact hlt) hyy.out
      rw [hstep.out] at hs2
      obtain ⟨p, hp⟩ : ∃ p, (x - y) * (x - y) = p := ⟨_, rfl⟩
      rw [hp] at hs2
      have hstep' := Lib.hid (show sm (k + 1) (dsF xs ys) = sm k (dsF xs ys) + p by rw [hstep.out, hp])
      generalize sm k (dsF xs ys) = S at *
      have hpb : -281474976710656 ≤ p ∧ p ≤ 281474976710656 := by omega
      have e1 : IntKind.i64.wrap (x - y) = x - y := IntWalk.i64_in _ (by omega)
      have e2 : IntKind.i64.wrap ((x - y) * (x - y)) = p := by rw [hp]; exact IntWalk.i64_in _ (by omega)
      have e3 : IntKind.i64.wrap (S + p) = S + p := IntWalk.i64_in _ (by omega)
      have i0 : (0 : Int) ≤ (k : Int) := by omega
      have i1 : (k : Int) < (n : Int) := by omega
      clear hp hpb hxb hyb hs1 hs2 hstep
      go_wp2
      go_quiet (fail)
      go_wp2
      go_roundw
      case rel => exact ⟨k + 1, r + nq, by go_num, hlt, by rw [hstep'.out], by rw [← hw.out]; exact dr_add w r nq⟩
      case measure => simp [intOf]; omega
    · have hkn : k = n := by omega
      subst hkn
      go_wp2
      go_ret
      exact ⟨ret_int hd.out.symm, r, hw.out.symm⟩

theorem nrS_at {x : List Int} {us : List (List Int)} (hx : allB (-1048576) 1048576 x = true) (hl2 : x.length ≤ 64) (hu : ∀ u ∈ us, u.length = x.length ∧ allB (-1048576) 1048576 u = true) {k : Nat} (h1 : 1 ≤ k) (hk : k ≤ us.length) :
    (nrS x us k).2 = dist x (us.getD (nrS x us k).1 []) := by
  induction k with
  | zero => omega
  | succ k ih =>
    have hm : us.getD k [] ∈ us := by rw [List.getD_eq_getElem?_getD, List.getElem?_eq_getElem (by omega)]; exact List.getElem_mem _
    have h2 := hu _ hm
    have h3 := dsS_bd hx h2.2 h2.1.symm hl2 (Nat.le_refl _)
    have h5 : dist x (us.getD k []) ≤ 281474976710656 := h3.2
    unfold nrS
    split
    · rfl
    · rename_i hn
      rcases Nat.eq_zero_or_pos k with rfl | hp
      · exfalso
        apply hn
        show dist x (us.getD 0 []) < 9223372036854775807
        omega
      · exact ih hp (by omega)

set_option maxHeartbeats 1600000 in
theorem RNearest_any (A A' : Option Addr) (m c n c' : Nat) (xs : List Int) (us : List (List Int)) (w : World) (h : Sl .i64 w A m c xs) (h' : Rr w A' n c' us) (hx : allB (-1048576) 1048576 xs = true) (hm2 : m ≤ 64) (hn : 1 ≤ n)
    (hu : ∀ u ∈ us, u.length = m ∧ allB (-1048576) 1048576 u = true) :
    Calls Tryd.prog 51 #[.slice A m c, .slice A' n c'] w fun e w' => e = .returned (.int .i64 ((nrS xs us n).1 : Nat)) ∧ ∃ r, w' = w.drewN r := by
  have hl := Lib.hid h.len
  have hl' := Lib.hid h'.len
  have hcap := h.cap
  have htop := h.top
  have hcap' := h'.cap
  have htop' := h'.top
  have hu' : ∀ u ∈ us, u.length = xs.length ∧ allB (-1048576) 1048576 u = true := fun u h9 => by rw [hl.out]; exact hu u h9
  have hbd := Lib.hid (fun k (hk : k ≤ n) => nrS_bd hx (by rw [hl.out]; exact hm2) hu' (k := k) (by rw [hl'.out]; exact hk))
  have hat := Lib.hid (fun k (h1 : 1 ≤ k) (hk : k ≤ n) => nrS_at hx (by rw [hl.out]; exact hm2) hu' h1 (k := k) (by rw [hl'.out]; exact hk))
  have h01 := Lib.hid (show (nrS xs us 1).1 = 0 by have := (hbd.out 1 hn).2.2.2 (by decide); omega)
  have hx := Lib.hid hx
  have hu := Lib.hid hu
  clear hu'
  go_enter Tryd.func51, Tryd.ntmps51
  go_wp2
  go_loopw [5, 6] (fun av iv wr => ∃ k r : Nat, iv = .int .i64 k ∧ 1 ≤ k ∧ k ≤ n ∧ av = .int .i64 ((nrS xs us k).1 : Nat) ∧ wr = w.drewN r) (fun _ iv _ => n - (intOf iv).toNat)
  case atStart => exact ⟨1, 0, rfl, Nat.le_refl _, hn, by rw [h01.out]; rfl, rfl⟩
  case round =>
    obtain ⟨k, r, rfl, hk1, hkn, rfl, rfl⟩ := hrel
    have hr := h.drewN r
    have hr' := h'.below (bel_drewN (Below.refl _ _) r)
    generalize hw : w.drewN r = w1 at *
    have hw := Lib.hid hw
    have hb := (hbd.out k hkn).2.2.2 (by omega)
    have hb2 := hb.2
    clear hb
    have hatk := Lib.hid (hat.out k hk1 hkn)
    obtain ⟨a, ha⟩ : ∃ a, (nrS xs us k).1 = a := ⟨_, rfl⟩
    have hnx := Lib.hid (show (nrS xs us (k + 1)).1 = if dist xs (us.getD k []) < dist xs (us.getD a []) then k else a by
      show (if dist xs (us.getD k []) < (nrS xs us k).2 then (k, _) else nrS xs us k).1 = _
      rw [hatk.out, ha]
      split
      · rfl
      · exact ha)
    have hfin := Lib.hid (show k = n → (nrS xs us n).1 = a from fun e => by rw [← e]; exact ha)
    rw [ha] at hb2
    rw [ha]
    clear ha hatk
    rcases Nat.lt_or_ge k n with hlt | hge
    · obtain ⟨ad, B, L, C, y, rfl, hc, hy, hS, _⟩ := hr'.at_ hlt
      obtain ⟨ad2, B2, L2, C2, y2, e2, hc2, hy2, hS2, _⟩ := hr'.at_ (i := a) (by omega)
      injection e2 with e2
      subst e2
      have hum := hu.out y (List.mem_of_getElem? hy.out)
      have hLm : L = m := by rw [← hS.len]; exact hum.1
      subst hLm
      have hum2 := hu.out y2 (List.mem_of_getElem? hy2.out)
      have hLm2 : L2 = L := by rw [← hS2.len]; exact hum2.1
      subst hLm2
      have hyb := Lib.hid hum.2
      have hyb2 := Lib.hid hum2.2
      have hd1 := Lib.hid (fun (i : Nat) => RDistance_any _ _ _ _ _ _ _ (w1.drewN i) (hr.drewN i) (hS.drewN i) hm2 hx.out hyb.out)
      have hd2 := Lib.hid (fun (i : Nat) => RDistance_any _ _ _ _ _ _ _ (w1.drewN i) (hr.drewN i) (hS2.drewN i) hm2 hx.out hyb2.out)
      rw [getD_some hy.out, getD_some hy2.out] at hnx
      generalize dist xs y = D1 at *
      generalize dist xs y2 = D2 at *
      clear hum hum2
      have i0 : (0 : Int) ≤ (k : Int) := by omega
      have i1 : (k : Int) < (n : Int) := by omega
      have i2 : (0 : Int) ≤ (a : Int) := by omega
      have i3 : (a : Int) < (n : Int) := by omega
      rcases Int.lt_or_le D1 D2 with hlt2 | hge2
      · have hdd : decide (D1 < D2) = true := decide_eq_true hlt2
        have hz := Lib.hid (show (nrS xs us (k + 1)).1 = k by rw [hnx.out, if_pos hlt2])
        go_wp2
        go_quiet (first | (go_at_call_of 48 (Value.slice B L2 C); exact Calls.quiet_of (hd1.out _)) | (go_at_call_of 48 (Value.slice B2 L2 C2); exact Calls.quiet_of (hd2.out _)))
        go_wp2
        go_roundw
        case rel => exact ⟨k + 1, r + nq, by go_num, by omega, hlt, by rw [hz.out], by rw [← hw.out]; exact dr_add w r nq⟩
        case measure => simp [intOf]; omega
      · have hdd : decide (D1 < D2) = false := decide_eq_false (by omega)
        have hz := Lib.hid (show (nrS xs us (k + 1)).1 = a by rw [hnx.out, if_neg (by omega)])
        go_wp2
        go_quiet (first | (go_at_call_of 48 (Value.slice B L2 C); exact Calls.quiet_of (hd1.out _)) | (go_at_call_of 48 (Value.slice B2 L2 C2); exact Calls.quiet_of (hd2.out _)))
        go_wp2
        go_roundw
        case rel => exact ⟨k + 1, r + nq, by go_num, by omega, hlt, by rw [hz.out], by rw [← hw.out]; exact dr_add w r nq⟩
        case measure => simp [intOf]; omega
    · have hkn' : k = n := by omega
      have hf := Lib.hid (hfin.out hkn')
      subst hkn'
      go_wp2
      go_ret
      exact ⟨ret_int (by rw [hf.out]), r, hw.out.symm⟩
end Go.Proofs.YtjpdgnbdbpgnmaaDoor
