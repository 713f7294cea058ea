import Derived.Deep.LoopGhost
import Derived.Test.YtfgiiidfpbpniaaGreatDoorA6

namespace Go.Proofs.YtfgiiidfpbpniaaGreatDoor.Fr
open Go.RowKit Num

theorem even_is (A : Option Addr) (n c : Nat) (xs : List Nat) (w : World) (h : Dg .u32 w A n c xs) (x : Nat) (hx : Hid (vl (bs .u32) xs = x)) (b : Bool) (hb : decide (x % 2 = 0) = b) :
    Calls Tryz.prog 120 #[.slice A n c] w fun e w' => e = .returned (.bool b) ∧ w = w' :=
  (even_any A n c xs w h).mono fun e w' he => by rw [hx.out, hb] at he; exact he

theorem order_is (A A' : Option Addr) (n c n' c' : Nat) (xs ys : List Nat) (w : World) (h : Dg .u32 w A n c xs) (h' : Dg .u32 w A' n' c' ys) (x y : Nat) (hx : Hid (vl (bs .u32) xs = x)) (hy : Hid (vl (bs .u32) ys = y)) :
    Calls Tryz.prog 122 #[.slice A n c, .slice A' n' c'] w fun e w' => ∃ m, e = .returned (.int .i64 (ord x y)) ∧ w' = w.drewN m :=
  (order_any A A' n c n' c' xs ys w h h').mono fun e w' he => by rw [hx.out, hy.out] at he; exact he

set_option maxHeartbeats 1600000 in
set_option maxRecDepth 100000 in
theorem gcd_any (A A' : Option Addr) (n c n' c' : Nat) (xs ys : List Nat) (w : World) (h : Dg .u32 w A n c xs) (h' : Dg .u32 w A' n' c' ys) (hN : Nrm xs) (hN' : Nrm ys) (hn : n ≤ 1000000) (hn' : n' ≤ 1000000)
    (hx0 : 0 < vl (bs .u32) xs) (hy0 : 0 < vl (bs .u32) ys) :
    Calls Tryz.prog 99 #[.slice A n c, .slice A' n' c'] w (RetN .u32 w ((vl (bs .u32) xs).gcd (vl (bs .u32) ys)) n) := by
  have hb32 : bl (vl (bs .u32) xs) ≤ 32000000 := by
    have := vl_lt h.ok
    rw [bs32_pow] at this
    have := bl_le this
    have := h.len
    omega
  have HX := Lib.hid (show ∀ zs : List Nat, Nrm zs → vl (bs .u32) zs ≤ vl (bs .u32) xs → zs.length ≤ n from fun zs hz hle => by rw [← h.len]; exact len_le_of one_lt_bs32 h.ok hz hle)
  have nv1 := NV.mk h hN (x := vl (bs .u32) xs) rfl (Nat.le_refl n)
  have nv2 := NV.mk h' hN' (x := vl (bs .u32) ys) rfl (Nat.le_refl n')
  clear h h' hN hN'
  generalize vl (bs .u32) xs = X at *
  generalize vl (bs .u32) ys = Y at *
  go_enter Tryz.func99, Tryz.ntmps99
  go_wp2
  go_loopg [0, 1, 5] X (fun g a b t wr => ∃ u v tt : Nat, NV .u32 wr a u n ∧ NV .u32 wr b v n' ∧ t = .int .i64 tt ∧ 0 < u ∧ 0 < v ∧ Hid (X.gcd Y = 2 ^ tt * u.gcd v) ∧ Hid (tt + bl u = bl X) ∧ tt ≤ bl X ∧ Hid (g = u) ∧ Below w.heap.size w wr)
  case atStart => exact ⟨X, Y, 0, nv1, nv2, rfl, hx0, hy0, show _ = _ by simp, show _ = _ by simp, by omega, rfl, Below.refl _ _⟩
  case round =>
    obtain ⟨u, v, tt, ⟨A1, m1, c1, us, rfl, hD1, hN1, hv1, hm1⟩, ⟨A2, m2, c2, vs, rfl, hD2, hN2, hv2, hm2⟩, rfl, hu0, hv0, hG, hbl, htt, hg, hbel⟩ := hrel
    rcases (show (u % 2 = 0 ∧ v % 2 = 0) ∨ (u % 2 = 0 ∧ v % 2 = 1) ∨ u % 2 = 1 by omega) with ⟨hu, hv⟩ | ⟨hu, hv⟩ | hu
    · have Hu := Lib.hid hu
      have Hv := Lib.hid hv
      clear hu hv
      go_wp2_with fail
      refine (even_is _ _ _ _ _ hD1 u hv1 true (decide_eq_true Hu.out)).mono ?_
      rintro e w' ⟨rfl, rfl⟩
      go_wp2_with fail
      refine (even_is _ _ _ _ _ hD2 v hv2 true (decide_eq_true Hv.out)).mono ?_
      rintro e w' ⟨rfl, rfl⟩
      go_wp2_with fail
      refine (half_any _ _ _ _ _ hD1 (by omega)).mono ?_
      rintro e w' ⟨A3, m3, c3, us3, rfl, hD3, hN3, hv3, hm3, hb3⟩
      go_wp2_with fail
      refine (half_any _ _ _ _ _ (hD2.below hb3) (by omega)).mono ?_
      rintro e w4 ⟨A4, m4, c4, us4, rfl, hD4, hN4, hv4, hm4, hb4⟩
      go_wp2
      go_roundg (u / 2)
      case measure => have := hg.out; omega
      case rel =>
        have hh := bl_half hu0
        have e1 := hbl.out
        have e2 := hb3.size
        exact ⟨u / 2, v / 2, tt + 1, NV.mk (hD3.below hb4) hN3 (by rw [← hv1.out]; exact hv3) (by omega), NV.mk hD4 hN4 (by rw [← hv2.out]; exact hv4) (by omega), by go_num, by have := Hu.out; omega, by have := Hv.out; omega,
          show _ = _ by rw [hG.out, even_gcd Hu.out Hv.out, Nat.pow_succ, Nat.mul_assoc], show _ = _ by omega, by omega, rfl, (hbel.trans (hb3.mono hbel.size)).trans (hb4.mono (Nat.le_trans hbel.size hb3.size))⟩
    all_goals
      have hodd : Hid (u.gcd v % 2 = 1) := by
        first
          | exact odd_of_right hv
          | exact odd_of_left hu
      clear hbl hg
    all_goals
      first
        | (have Hu := Lib.hid hu
           have Hv := Lib.hid hv
           clear hu hv
           go_wp2_with fail
           refine (even_is _ _ _ _ _ hD1 u hv1 true (decide_eq_true Hu.out)).mono ?_
           rintro e w' ⟨rfl, rfl⟩
           go_wp2_with fail
           refine (even_is _ _ _ _ _ hD2 v hv2 false (by have := Hv.out; rw [decide_eq_false_iff_not]; omega)).mono ?_
           rintro e w' ⟨rfl, rfl⟩)
        | (have Hu := Lib.hid hu
           clear hu
           go_wp2_with fail
           refine (even_is _ _ _ _ _ hD1 u hv1 false (by have := Hu.out; rw [decide_eq_false_iff_not]; omega)).mono ?_
           rintro e w' ⟨rfl, rfl⟩)
      go_wp2
      clear Hu
      have nv1 := NV.mk hD1 hN1 hv1 (show m1 ≤ max n n' by omega)
      have nv2 := NV.mk hD2 hN2 hv2 (show m2 ≤ max n n' by omega)
      have hM : max n n' ≤ 1000000 := by omega
      clear hD1 hN1 hv1 hm1 hD2 hN2 hv2 hm2
      generalize max n n' = M at *
      obtain ⟨wo, rfl⟩ : ∃ wo : World, wo = wr := ⟨_, rfl⟩
      go_loopg [0, 1] (u + v) (fun g a b wr => ∃ p q : Nat, NV .u32 wr a p M ∧ NV .u32 wr b q M ∧ 0 < p ∧ Hid (p.gcd q = u.gcd v) ∧ Hid (g = p + q) ∧ Below w.heap.size w wr)
      case atStart => exact ⟨u, v, nv1, nv2, hu0, rfl, rfl, hbel⟩
      case round =>
        clear nv1 nv2 hbel
        obtain ⟨p, q, ⟨A1, m1, c1, us1, rfl, hD1, hN1, hv1, hm1⟩, ⟨A2, m2, c2, us2, rfl, hD2, hN2, hv2, hm2⟩, hp0, hpq, hg2, hbel⟩ := hrel
        by_cases hq0 : q = 0
        · have hm0 : m2 = 0 := by
            have := (hN2.zero (b := bs .u32) (by decide)).1 (by rw [hv2.out]; exact hq0)
            rw [hD2.len] at this; exact this
          have hpG : Hid (p * 2 ^ tt = X.gcd Y) := by
            have e := hpq.out
            rw [hq0, Nat.gcd_zero_right] at e
            show _ = _
            rw [hG.out, e, Nat.mul_comm]
          have hle : Hid (p * 2 ^ tt ≤ X) := by rw [hpG.out]; exact Nat.gcd_le_left _ hx0
          have hm1n : m1 ≤ n := by
            have h2 : 1 ≤ 2 ^ tt := Nat.one_le_two_pow
            have h3 : p * 1 ≤ p * 2 ^ tt := Nat.mul_le_mul_left _ h2
            have h4 := hle.out
            have := HX.out us1 hN1 (by rw [hv1.out]; omega)
            rw [hD1.len] at this; exact this
          clear hpq hq0
          subst hm0
          go_wp2
          obtain ⟨wo2, rfl⟩ : ∃ wo : World, wo = wr := ⟨_, rfl⟩
          go_loopg [0, 6] tt (fun g a i wr => ∃ k e : Nat, i = .int .i64 k ∧ k ≤ tt ∧ Hid (e = p * 2 ^ k) ∧ NV .u32 wr a e n ∧ Hid (g = tt - k) ∧ Below w.heap.size w wr)
          case atStart => exact ⟨0, p, rfl, Nat.zero_le _, show _ = _ by simp, NV.mk hD1 hN1 hv1 hm1n, rfl, hbel⟩
          case round =>
            clear hD1 hN1 hv1 hm1 hbel
            obtain ⟨k, e, rfl, hk, he, ⟨A1, m1, c1, us1, rfl, hD1, hN1, hv1, hm1⟩, hg5, hbel⟩ := hrel
            by_cases hkt : k < tt
            · go_wp2_with fail
              refine (plus_any _ _ _ _ _ _ _ _ _ hD1 hD1 (by omega) (by omega)).mono ?_
              rintro e' w3 ⟨A3, m3, c3, us3, rfl, hD3, hN3, hv3, hm3, hb3⟩
              go_wp2
              go_roundg (tt - (k + 1))
              case measure => have := hg5.out; omega
              case rel =>
                have e2 : e + e = p * 2 ^ (k + 1) := by rw [he.out, Nat.pow_succ, ← Nat.mul_assoc]; omega
                have hv4 : vl (bs .u32) us3 = e + e := by have := hv3.out; rw [hv1.out] at this; exact this
                have h5 : p * 2 ^ (k + 1) ≤ p * 2 ^ tt := Nat.mul_le_mul_left _ (Nat.pow_le_pow_right (by omega) hkt)
                have h6 := HX.out us3 hN3 (by have := hle.out; omega)
                rw [hD3.len] at h6
                exact ⟨k + 1, e + e, by go_num, hkt, e2, NV.mk hD3 hN3 hv4 h6, rfl, hbel.trans (hb3.mono hbel.size)⟩
            · obtain rfl : k = tt := by omega
              go_wp2
              go_ret
              exact ⟨_, _, _, _, rfl, hD1, hN1, show _ = _ by rw [hv1.out, he.out]; exact hpG.out, hm1, hbel⟩
        · have hq1 : 0 < q := by omega
          have hm2' : 0 < m2 := by have := nz_len (b := bs .u32) (xs := us2) (by rw [hv2.out]; exact hq1); rw [hD2.len] at this; exact this
          clear hq0
          go_wp2
          obtain ⟨wo2, rfl⟩ : ∃ wo : World, wo = wr := ⟨_, rfl⟩
          go_loopg [0] p (fun g a wr => ∃ p' : Nat, NV .u32 wr a p' M ∧ 0 < p' ∧ Hid (p'.gcd q = u.gcd v) ∧ Hid (p' ≤ p) ∧ Hid (g = p') ∧ Below wo2.heap.size wo2 wr)
          case atStart => exact ⟨p, NV.mk hD1 hN1 hv1 hm1, hp0, hpq, Nat.le_refl p, rfl, Below.refl _ _⟩
          case round =>
            clear hD1 hN1 hv1 hm1
            obtain ⟨p', ⟨A1, m1, c1, us1, rfl, hD1, hN1, hv1, hm1⟩, hp0', hpq', hpp, hg3, hbel2⟩ := hrel
            by_cases hpe : p' % 2 = 0
            · have Hpe := Lib.hid hpe
              clear hpe
              go_wp2_with fail
              refine (even_is _ _ _ _ _ hD1 p' hv1 true (decide_eq_true Hpe.out)).mono ?_
              rintro e w' ⟨rfl, rfl⟩
              go_wp2_with fail
              refine (half_any _ _ _ _ _ hD1 (by omega)).mono ?_
              rintro e w3 ⟨A3, m3, c3, us3, rfl, hD3, hN3, hv3, hm3, hb3⟩
              go_wp2
              go_roundg (p' / 2)
              case measure => have := hg3.out; omega
              case rel =>
                exact ⟨p' / 2, NV.mk hD3 hN3 (by rw [← hv1.out]; exact hv3) (by omega), by have := Hpe.out; omega, show _ = _ by rw [odd_gcd_half Hpe.out (by rw [hpq'.out]; exact hodd.out), hpq'.out],
                  show _ ≤ _ by have := hpp.out; omega, rfl, hbel2.trans (hb3.mono hbel2.size)⟩
            · have Hpe := Lib.hid (show p' % 2 = 1 by omega)
              clear hpe hg3
              go_wp2_with fail
              refine (even_is _ _ _ _ _ hD1 p' hv1 false (by have := Hpe.out; rw [decide_eq_false_iff_not]; omega)).mono ?_
              rintro e w' ⟨rfl, rfl⟩
              go_wp2
              obtain ⟨wo3, rfl⟩ : ∃ wo : World, wo = wr := ⟨_, rfl⟩
              have nvq := NV.mk (hD2.below hbel2) hN2 hv2 hm2
              go_loopg [1] q (fun g b wr => ∃ q' : Nat, NV .u32 wr b q' M ∧ 0 < q' ∧ Hid (p'.gcd q' = u.gcd v) ∧ Hid (q' ≤ q) ∧ Hid (g = q') ∧ Below wo3.heap.size wo3 wr)
              case atStart => exact ⟨q, nvq, hq1, hpq', Nat.le_refl q, rfl, Below.refl _ _⟩
              case round =>
                clear hD2 hN2 hv2 hm2 nvq
                obtain ⟨q', ⟨A2, m2, c2, us2, rfl, hD2, hN2, hv2, hm2⟩, hq0', hpq2, hqq, hg4, hbel3⟩ := hrel
                by_cases hqe : q' % 2 = 0
                · have Hqe := Lib.hid hqe
                  clear hqe
                  go_wp2_with fail
                  refine (even_is _ _ _ _ _ hD2 q' hv2 true (decide_eq_true Hqe.out)).mono ?_
                  rintro e w' ⟨rfl, rfl⟩
                  go_wp2_with fail
                  refine (half_any _ _ _ _ _ hD2 (by omega)).mono ?_
                  rintro e w3 ⟨A3, m3, c3, us3, rfl, hD3, hN3, hv3, hm3, hb3⟩
                  go_wp2
                  go_roundg (q' / 2)
                  case measure => have := hg4.out; omega
                  case rel =>
                    exact ⟨q' / 2, NV.mk hD3 hN3 (by rw [← hv2.out]; exact hv3) (by omega), by have := Hqe.out; omega, show _ = _ by rw [odd_gcd_half' Hqe.out (by rw [hpq2.out]; exact hodd.out), hpq2.out],
                      show _ ≤ _ by have := hqq.out; omega, rfl, hbel3.trans (hb3.mono hbel3.size)⟩
                · have Hqe := Lib.hid (show q' % 2 = 1 by omega)
                  clear hqe hg4
                  have hDa := hD1.below hbel3
                  have hbel := (hbel.trans (hbel2.mono hbel.size)).trans (hbel3.mono (Nat.le_trans hbel.size hbel2.size))
                  clear hD1
                  go_wp2_with fail
                  refine (even_is _ _ _ _ _ hD2 q' hv2 false (by have := Hqe.out; rw [decide_eq_false_iff_not]; omega)).mono ?_
                  rintro e w' ⟨rfl, rfl⟩
                  go_wp2_with fail
                  refine (order_is _ _ _ _ _ _ _ _ _ hDa hD2 p' q' hv1 hv2).mono ?_
                  rintro e w' ⟨nd, rfl, rfl⟩
                  by_cases hlt : q' < p'
                  · have ho : (0 : Int) < ord p' q' := ord_pos.2 hlt
                    go_wp2_with fail
                    refine (minus_any _ _ _ _ _ _ _ _ _ (hDa.drewN nd) (hD2.drewN nd) (by omega) (by rw [hv1.out, hv2.out]; omega)).mono ?_
                    rintro e w3 ⟨A3, m3, c3, us3, rfl, hD3, hN3, hv3, hm3, hb3⟩
                    go_wp2
                    go_roundg (p')
                    case measure => have := hg2.out; have := hpp.out; omega
                    case rel =>
                      exact ⟨q', p' - q', NV.mk ((hD2.drewN nd).below hb3) hN2 hv2 hm2, NV.mk hD3 hN3 (by rw [← hv1.out, ← hv2.out]; exact hv3) (by omega), hq0',
                        show _ = _ by rw [Nat.gcd_sub_self_right (by omega), Nat.gcd_comm]; exact hpq2.out, show _ = _ by omega, (bel_drewN hbel nd).trans (hb3.mono hbel.size)⟩
                  · have ho : ¬ (0 : Int) < ord p' q' := fun h => hlt (ord_pos.1 h)
                    go_wp2_with fail
                    refine (minus_any _ _ _ _ _ _ _ _ _ (hD2.drewN nd) (hDa.drewN nd) (by omega) (by rw [hv1.out, hv2.out]; omega)).mono ?_
                    rintro e w3 ⟨A3, m3, c3, us3, rfl, hD3, hN3, hv3, hm3, hb3⟩
                    go_wp2
                    go_roundg (q')
                    case measure => have := hg2.out; have := hqq.out; omega
                    case rel =>
                      exact ⟨p', q' - p', NV.mk ((hDa.drewN nd).below hb3) hN1 hv1 hm1, NV.mk hD3 hN3 (by rw [← hv1.out, ← hv2.out]; exact hv3) (by omega), hp0',
                        show _ = _ by rw [Nat.gcd_sub_self_right (by omega)]; exact hpq2.out, show _ = _ by omega, (bel_drewN hbel nd).trans (hb3.mono hbel.size)⟩

end Go.Proofs.YtfgiiidfpbpniaaGreatDoor.Fr
