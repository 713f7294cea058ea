/- The nearest codeword. -/
import Derived.Test.YtjpdgnbdbpgnmaaDoorGA
import Derived.Deep.QuietTactic
import Derived.BigQuiet
import Derived.Deep.LoopGhost
import Derived.WalkMore
namespace Go.Proofs.YtjpdgnbdbpgnmaaDoor
open Go.RowKit

def dsF (x y : List Int) : Nat → Int := fun j => (x.getD j 0 - y.getD j 0) * (x.getD j 0 - y.getD j 0)
def dist (x y : List Int) : Int := sm x.length (dsF x y)
/-- the nearest of the first k codewords, and its distance -/
def nrS (x : List Int) (us : List (List Int)) : Nat → Nat × Int
  | 0 => (0, 9223372036854775807)
  | k + 1 => if dist x (us.getD k []) < (nrS x us k).2 then (k, dist x (us.getD k [])) else nrS x us k
theorem dsF_nn (x y : List Int) (j : Nat) : 0 ≤ dsF x y j := by
  unfold dsF
  generalize x.getD j 0 - y.getD j 0 = d
  rcases Int.le_total 0 d with h | h
  · exact Int.mul_nonneg h h
  · rw [← Int.neg_mul_neg]; exact Int.mul_nonneg (by omega) (by omega)
theorem sm_mono {f : Nat → Int} (h : ∀ j, 0 ≤ f j) {a b : Nat} (hab : a ≤ b) : sm a f ≤ sm b f := by
  induction b with
  | zero =>
    obtain rfl : a = 0 := by omega
    exact Int.le_refl _
  | succ b ih =>
    rcases Nat.lt_or_ge b a with h1 | h1
    · obtain rfl : a = b + 1 := by omega
      exact Int.le_refl _
    · have := ih h1
      have := h b
      show _ ≤ sm b f + f b
      omega
theorem dsF_bd {x y : List Int} (hx : allB (-1048576) 1048576 x = true) (hy : allB (-1048576) 1048576 y = true) (hl : x.length = y.length) {j : Nat} (hj : j < x.length) : -4398046511104 ≤ dsF x y j ∧ dsF x y j ≤ 4398046511104 := by
  have h1 := allB_get hx hj rfl
  have h2 := allB_get hy (j := j) (by omega) rfl
  unfold dsF
  exact prod_bd (m := 2097152) (q := 2097152) (by omega) (by omega) (by omega) (by omega)
theorem dsS_bd {x y : List Int} (hx : allB (-1048576) 1048576 x = true) (hy : allB (-1048576) 1048576 y = true) (hl : x.length = y.length) (hl2 : x.length ≤ 64) {j : Nat} (hj : j ≤ x.length) : 0 ≤ sm j (dsF x y) ∧ sm j (dsF x y) ≤ 281474976710656 := by
  have h1 := sm_bd (f := dsF x y) (m := 4398046511104) (n := j) (fun i hi => dsF_bd hx hy hl (by omega))
  have h2 := sm_mono (dsF_nn x y) (Nat.zero_le j)
  have h3 : sm 0 (dsF x y) = 0 := rfl
  omega
theorem nrS_bd {x : List Int} {us : List (List Int)} (hx : allB (-1048576) 1048576 x = true) (hl2 : x.length ≤ 64) (hu : ∀ u ∈ us, u.length = x.length ∧ allB (-1048576) 1048576 u = true) {k : Nat} (hk : k ≤ us.length) : (nrS x us k).1 ≤ k ∧ 0 ≤ (nrS x us k).2 ∧ (nrS x us k).2 ≤ 9223372036854775807 ∧ (0 < k → (nrS x us k).2 ≤ 281474976710656 ∧ (nrS x us k).1 < k) := by
  induction k with
  | zero => exact ⟨Nat.le_refl _, by show (0 : Int) ≤ 9223372036854775807; decide, Int.le_refl _, fun h => absurd h (by omega)⟩
  | succ k ih =>
    have h := ih (by omega)
    have hm : us.getD k [] ∈ us := by rw [List.getD_eq_getElem?_getD, List.getElem?_eq_getElem (by omega)]; exact List.getElem_mem _
    have h2 := hu _ hm
    have h3 := dsS_bd hx h2.2 h2.1.symm hl2 (Nat.le_refl _)
    unfold nrS
    split
    · exact ⟨by show k ≤ _; omega, h3.1, by show sm _ _ ≤ _; omega, fun _ => ⟨h3.2, by show k < _; omega⟩⟩
    · rename_i hn
      have h4 : (nrS x us k).2 ≤ dist x (us.getD k []) := by omega
      have h5 : dist x (us.getD k []) ≤ 281474976710656 := h3.2
      exact ⟨by omega, h.2.1, h.2.2.1, fun _ => ⟨by omega, by omega⟩⟩
theorem getD_some {us : List (List Int)} {k : Nat} {y : List Int} (h : us[k]? = some y) : us.getD k [] = y := by rw [List.getD_eq_getElem?_getD, h]; rfl

set_option maxHeartbeats 3200000 in
set_option maxRecDepth 100000 in
theorem nearest_any (A A' : Option Addr) (m c n c' : Nat) (xs : List Int) (us : List (List Int)) (w : World) (h : Sl .i64 w A m c xs) (h' : Rr w A' n c' us) (hx : allB (-1048576) 1048576 xs = true) (hm1 : 1 ≤ m) (hm2 : m ≤ 64)
    (hu : ∀ u ∈ us, u.length = m ∧ allB (-1048576) 1048576 u = true) :
    Calls Tryd.prog 84 #[.slice A m c, .slice A' n c'] w fun e w' => e = .returned (.tuple #[.int .i64 ((nrS xs us n).1 : Nat), .int .i64 (nrS xs us n).2]) ∧ ∃ r, w' = w.drewN r := by
  have hl := Lib.hid h.len
  have hl' := Lib.hid h'.len
  have hcap := h.cap
  have htop := h.top
  have hcap' := h'.cap
  have htop' := h'.top
  have hx := Lib.hid hx
  have hu := Lib.hid hu
  have hbd := Lib.hid (fun k (hk : k ≤ n) => nrS_bd hx.out (by rw [hl.out]; exact hm2) (fun u h9 => by rw [hl.out]; exact hu.out u h9) (k := k) (by rw [hl'.out]; exact hk))
  go_enter Tryd.func84, Tryd.ntmps84
  go_wp2
  go_step3
  go_wp2
  go_step3
  go_wp2
  go_loopg [6, 7, 15] n (fun gk bv lv iv wr => ∃ k r : Nat, iv = .int .i64 k ∧ Hid (k + gk = n) ∧ k ≤ n ∧ bv = .int .i64 ((nrS xs us k).1 : Nat) ∧ lv = .int .i64 (nrS xs us k).2 ∧ wr = w.drewN r)
  case atStart => exact ⟨0, 0, rfl, Nat.zero_add _, Nat.zero_le _, rfl, rfl, rfl⟩
  case round =>
    obtain ⟨k, r, rfl, hgk, hkn, rfl, rfl, rfl⟩ := hrel
    have hr := h.drewN r
    have hr' := h'.below (bel_drewN (Below.refl _ _) r)
    have hb := hbd.out k hkn
    have hb0 := hb.2.1
    have hb1 := hb.2.2.1
    clear hb
    generalize hw : w.drewN r = w1 at *
    have hw := Lib.hid hw
    rcases Nat.lt_or_ge k n with hlt | hge
    · obtain ⟨ad, B, L, C, y, rfl, hc, hy, hS, _⟩ := hr'.at_ hlt
      have hum := hu.out y (List.mem_of_getElem? hy.out)
      have hLm : L = m := by rw [← hS.len]; exact hum.1
      subst hLm
      have hyl := Lib.hid hum.1
      have hyb := Lib.hid hum.2
      have hLc := hS.cap
      have hLt := hS.top
      clear hum
      have hnx := Lib.hid (show nrS xs us (k + 1) = if sm L (dsF xs y) < (nrS xs us k).2 then (k, sm L (dsF xs y)) else nrS xs us k by
        show (if dist xs (us.getD k []) < _ then _ else _) = _
        rw [getD_some hy.out]
        unfold dist
        rw [hl.out])
      have hsb := Lib.hid (fun j (hj : j ≤ L) => dsS_bd hx.out hyb.out (by rw [hl.out, hyl.out]) (by rw [hl.out]; exact hm2) (j := j) (by rw [hl.out]; exact hj))
      have hmono := Lib.hid (fun j (hj : j ≤ L) => sm_mono (dsF_nn xs y) hj)
      go_wp2
      go_loopg [10, 22] L (fun gj sv jv w2 => ∃ j q : Nat, jv = .int .i64 j ∧ Hid (j + gj = L) ∧ j ≤ L ∧ sv = .int .i64 (sm j (dsF xs y)) ∧ Hid (0 < j → sm j (dsF xs y) < (nrS xs us k).2) ∧ w2 = w1.drewN q)
      case atStart => exact ⟨0, 0, rfl, Nat.zero_add _, Nat.zero_le _, rfl, fun h => absurd h (by omega), rfl⟩
      case round =>
        obtain ⟨j, q, rfl, hgj, hj, rfl, hless, rfl⟩ := hrel
        have hrq := hr.drewN q
        have hSq := hS.drewN q
        generalize hw2 : w1.drewN q = w2 at *
        have hw2 := Lib.hid hw2
        have hs1 := hsb.out j hj
        rcases Nat.lt_or_ge j L with hjl | hjg
        · obtain ⟨ax, x, rfl, hcx, hxx⟩ := hrq.at_ hjl
          obtain ⟨ay, y2, rfl, hcy, hyy⟩ := hSq.at_ hjl
          have hs2 := hsb.out (j + 1) hjl
          have hstep := Lib.hid (show sm (j + 1) (dsF xs y) = sm j (dsF xs y) + (x - y2) * (x - y2) by show sm j _ + dsF xs y j = _; unfold dsF; rw [hxx.out, hyy.out])
          have hxb := allB_get hx.out (by rw [hl.out]; exact hjl) hxx.out
          have hyb2 := allB_get hyb.out (by rw [hyl.out]; exact hjl) hyy.out
          have hmn := Lib.hid (hmono.out (j + 1) hjl)
          rw [hstep.out] at hs2
          obtain ⟨p, hp⟩ : ∃ p, (x - y2) * (x - y2) = p := ⟨_, rfl⟩
          rw [hp] at hs2
          have hstep' := Lib.hid (show sm (j + 1) (dsF xs y) = sm j (dsF xs y) + p by rw [hstep.out, hp])
          generalize hS0 : sm j (dsF xs y) = S at *
          clear hS0 hstep
          generalize hQ0 : sm (j + 1) (dsF xs y) = S2 at *
          have hQ := Lib.hid hQ0
          clear hQ0
          have hpb : -281474976710656 ≤ p ∧ p ≤ 281474976710656 := by omega
          have e1 : IntKind.i64.wrap (x - y2) = x - y2 := IntWalk.i64_in _ (by omega)
          have e2 : IntKind.i64.wrap ((x - y2) * (x - y2)) = p := by rw [hp]; exact IntWalk.i64_in _ (by omega)
          have e3 : IntKind.i64.wrap (S + p) = S + p := IntWalk.i64_in _ (by omega)
          have i0 : (0 : Int) ≤ (j : Int) := by omega
          have i1 : (j : Int) < (L : Int) := by omega
          clear hp hpb hxb hyb2 hs1
          go_wp2
          go_quiet (fail)
          by_cases hge2 : (nrS xs us k).2 ≤ S + p
          · have hd : decide ((nrS xs us k).2 ≤ S + p) = true := decide_eq_true hge2
            have hskip := Lib.hid (show nrS xs us (k + 1) = nrS xs us k by rw [hnx.out, if_neg (by have h1 := hmn.out; have h2 := hstep'.out; omega)])
            have hl9 := Lib.hid (show 0 < L - j from by omega)
            go_wp2
            go_roundg (n - (k + 1))
            case measure => have := hgk.out; omega
            case rel => exact ⟨k + 1, r + (q + nq), by go_num, by show _ = _; omega, hlt, by rw [hskip.out], by rw [hskip.out], by rw [← hw2.out, ← hw.out, dr_add, dr_add]⟩
          · have hd : decide ((nrS xs us k).2 ≤ S + p) = false := decide_eq_false hge2
            go_wp2
            go_roundg (L - (j + 1))
            case measure => have := hgj.out; omega
            case rel => exact ⟨j + 1, q + nq, by go_num, by show _ = _; omega, hjl, by rw [hQ.out, hstep'.out], fun _ => by rw [hQ.out, hstep'.out]; omega, by rw [← hw2.out]; exact dr_add _ _ _⟩
        · have hjL : j = L := by omega
          subst hjL
          have hgo := Lib.hid (show nrS xs us (k + 1) = (k, sm j (dsF xs y)) by rw [hnx.out, if_pos (hless.out (by omega))])
          go_wp2
          go_roundg (n - (k + 1))
          case measure => have := hgk.out; omega
          case rel => exact ⟨k + 1, r + q, by go_num, by show _ = _; omega, hlt, by rw [hgo.out], by rw [hgo.out], by rw [← hw2.out, ← hw.out, dr_add]⟩
    · have hkn' : k = n := by omega
      subst hkn'
      go_wp2
      try rw [Exit.noGoto_ret]
      go_ret2
      exact ⟨rfl, r, hw.out.symm⟩
end Go.Proofs.YtjpdgnbdbpgnmaaDoor
