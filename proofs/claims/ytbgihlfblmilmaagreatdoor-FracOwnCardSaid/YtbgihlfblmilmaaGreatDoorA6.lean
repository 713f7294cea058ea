import Derived.Test.YtbgihlfblmilmaaGreatDoorA0
import Derived.Deep.LoopGhost
namespace Go.Proofs.YtbgihlfblmilmaaGreatDoor.Fr
open Go.RowKit Num

structure TimesRel (w : World) (n n' : Nat) (xs ys : List Nat) (i : Value) (wr : World) (k : Nat) (cur : List Nat) : Prop where
  i : i = .int .i64 k
  kb : k ≤ n
  len : Hid (cur.length = n + n')
  ok : Okd (bs .u32) cur
  own : Mk wr w.heap.size 63 .u32 cur
  val : Hid (vl (bs .u32) (cur.take (k + n')) = vl (bs .u32) (xs.take k) * vl (bs .u32) ys)
  bel : Below w.heap.size w wr

structure TimesIn (w : World) (n n' k x P : Nat) (ys : List Nat) (cv jv : Value) (wr : World) (j cy : Nat) (cur : List Nat) : Prop where
  i : jv = .int .i64 j
  cv : cv = .int .u64 cy
  jb : j ≤ n'
  cb : cy ≤ 4294967295
  len : Hid (cur.length = n + n')
  ok : Okd (bs .u32) cur
  own : Mk wr w.heap.size 63 .u32 cur
  val : Hid (vl (bs .u32) (cur.take (k + n')) + bs .u32 ^ (k + j) * cy = P + bs .u32 ^ k * (x * vl (bs .u32) (ys.take j)))
  bel : Below w.heap.size w wr

theorem timesIn_next {w wr : World} {n n' k j cy dg x y P nq : Nat} {ys cur : List Nat} {E C : Int} (hkn : k < n) (hj : j < n') (hy : ys.getD j 0 = y) (hdg : cur.getD (k + j) 0 = dg)
    (hcb : cy ≤ 4294967295) (hdb : dg ≤ 4294967295) (hm : x * y ≤ 18446744065119617025)
    (hcl : cur.length = n + n') (hco : Okd (bs .u32) cur) (hown : Mk wr w.heap.size 63 .u32 cur)
    (hval : vl (bs .u32) (cur.take (k + n')) + bs .u32 ^ (k + j) * cy = P + bs .u32 ^ k * (x * vl (bs .u32) (ys.take j))) (hbel : Below w.heap.size w wr)
    (hE : E = ((cy + dg + x * y : Nat) : Int) % 4294967296) (hC : C = ((cy + dg + x * y : Nat) : Int) / 4294967296) :
    ∃ j' cy' cur', TimesIn w n n' k x P ys (.int .u64 C) (.int .i64 ((j : Int) + 1)) ((wr.drewN nq).setCell ⟨w.heap.size, k + j, none⟩ (.int .u32 E)) j' cy' cur' := by
  have e1 : E = (((cy + dg + x * y) % 4294967296 : Nat) : Int) := by rw [hE]; omega
  have e2 : C = (((cy + dg + x * y) / 4294967296 : Nat) : Int) := by rw [hC]; omega
  subst e1 e2
  refine ⟨j + 1, _, cur.set (k + j) ((cy + dg + x * y) % 4294967296), rfl, rfl, by omega, by omega, by simpa [Hid] using hcl, hco.set _ (Nat.mod_lt _ (by decide)), (hown.drewN nq).set_ _ _, ?_, (bel_drewN hbel nq).setCell (Nat.le_refl _) _⟩
  exact times_step (by omega) (by omega) hdg hy hval (by show _ + 4294967296 * _ = _; omega)

theorem timesRel_next {w wr : World} {n n' k cy x : Nat} {xs ys cur : List Nat} (hkn : k < n) (hx : xs.getD k 0 = x) (hyl : ys.length = n') (hcb : cy ≤ 4294967295)
    (hcl : cur.length = n + n') (hco : Okd (bs .u32) cur) (hown : Mk wr w.heap.size 63 .u32 cur)
    (hval : vl (bs .u32) (cur.take (k + n')) + bs .u32 ^ (k + n') * cy = vl (bs .u32) (xs.take k) * vl (bs .u32) ys + bs .u32 ^ k * (x * vl (bs .u32) (ys.take n'))) (hbel : Below w.heap.size w wr) :
    ∃ k' cur', TimesRel w n n' xs ys (.int .i64 ((k : Int) + 1)) (wr.setCell ⟨w.heap.size, k + n', none⟩ (.int .u32 cy)) k' cur' :=
  ⟨k + 1, cur.set (k + n') cy, rfl, by omega, by simpa [Hid] using hcl, hco.set _ (Nat.lt_succ_of_le hcb), hown.set_ _ _, times_next (by omega) hx hyl hval, hbel.setCell (Nat.le_refl _) _⟩

set_option maxHeartbeats 1600000 in
set_option maxRecDepth 100000 in
theorem times_any (A A' : Option Addr) (n c n' c' : Nat) (xs ys : List Nat) (w : World) (h : Dg .u32 w A n c xs) (h' : Dg .u32 w A' n' c' ys) (hn : n ≤ 400000) (hn' : n' ≤ 400000) :
    Calls Tryz.prog 93 #[.slice A n c, .slice A' n' c'] w (RetN .u32 w (vl (bs .u32) xs * vl (bs .u32) ys) (n + n')) := by
  have hmk := make_u32 (n + n') (by omega)
  have e0 : (((n + n' : Nat) : Int)) = (n : Int) + (n' : Int) := by omega
  rw [e0] at hmk
  clear e0
  have hxl := Lib.hid h.len
  have hyl := Lib.hid h'.len
  go_enter Tryz.func93, Tryz.ntmps93
  go_wp2
  go_loopw [6] (fun i wr => ∃ k cur, TimesRel w n n' xs ys i wr k cur) (fun i _ => n - (intOf i).toNat)
  case atStart =>
    exact ⟨0, zs (n + n'), rfl, by omega, zs_len _, zs_ok (by decide) _, Mk.new _ _ _ _, by show vl _ (List.take _ (List.replicate _ _)) = _; rw [List.take_replicate, vl_replicate, List.take_zero, vl_nil, Nat.zero_mul], (Below.refl _ _).alloc (Nat.le_refl _) _⟩
  case round =>
    obtain ⟨wo, rfl⟩ : ∃ wo : World, wo = wr := ⟨_, rfl⟩
    obtain ⟨k, cur, rfl, hkb, hcl, hco, hown, hval, hbel⟩ := hrel
    by_cases hkn : k < n
    · obtain ⟨ad, x, rfl, hcx, hcs, hx⟩ := h.at2 hbel hkn
      have hxb : x ≤ 4294967295 := Nat.le_of_lt_succ hx.out.2
      clear hcx hcs
      go_wp2
      go_loopw [7, 8] (fun cv jv wr => ∃ j cy cur', TimesIn w n n' k x (vl (bs .u32) (xs.take k) * vl (bs .u32) ys) ys cv jv wr j cy cur') (fun _ jv _ => n' - (intOf jv).toNat)
      case atStart => exact ⟨0, 0, cur, rfl, rfl, by omega, by omega, hcl, hco, hown, by show _ = _; rw [hval.out]; simp [vl], hbel⟩
      case round =>
        clear hown hcl hco hval hbel
        clear cur
        obtain ⟨j, cy, cur, rfl, rfl, hjb, hcb, hcl, hco, hown, hval, hbel⟩ := hrel
        by_cases hjn : j < n'
        · obtain ⟨ad1, x1, e1, hcx, hcs, hx1⟩ := h.at2 hbel hkn
          injection e1 with e1
          subst e1
          obtain rfl : x1 = x := hx1.out.1.symm.trans hx.out.1
          obtain ⟨ad', y, rfl, hcy, hcs', hy⟩ := h'.at2 hbel hjn
          have hyb : y ≤ 4294967295 := Nat.le_of_lt_succ hy.out.2
          clear hcs hcs' hx1
          have hcc := hown.cell (i := k + j) (by rw [hcl.out]; omega)
          have hcf := hown.frozen (k + j)
          have hcd : Hid (cur.getD (k + j) 0 ≤ 4294967295 ∧ k + j < cur.length) := ⟨Nat.le_of_lt_succ (hco.getD (by decide) _), by rw [hcl.out]; omega⟩
          obtain ⟨dg, hdg⟩ : ∃ dg, cur.getD (k + j) 0 = dg := ⟨_, rfl⟩
          rw [hdg] at hcc hcd
          have hdg := Lib.hid hdg
          have hdb := hcd.out.1
          have hm1 := mul_bd hxb hyb
          have hm2 : (0 : Int) ≤ (x1 : Int) * (y : Int) := Int.mul_nonneg (by omega) (by omega)
          have hm3 : (x1 : Int) * (y : Int) ≤ 18446744065119617025 := by have : (((x1 * y : Nat)) : Int) ≤ 18446744065119617025 := by omega
                                                                         rwa [Int.natCast_mul] at this
          go_wp2
          go_quiet (fail)
          go_wp2
          have R := timesIn_next (nq := nq) (E := ((cy : Int) + dg + x1 * y) % 4294967296) (C := ((cy : Int) + dg + x1 * y) / 4294967296) hkn hjn hy.out.1 hdg.out hcb hdb hm1 hcl.out hco hown hval.out hbel (by rw [Int.natCast_add, Int.natCast_mul, Int.natCast_add]) (by rw [Int.natCast_add, Int.natCast_mul, Int.natCast_add])
          go_roundw
          case rel => exact R
          case measure => simp [intOf]; omega
        · obtain rfl : j = n' := by omega
          have hcc := hown.cell (i := k + j) (by rw [hcl.out]; omega)
          have hcf := hown.frozen (k + j)
          generalize cur.getD (k + j) 0 = dg at hcc
          have R := timesRel_next hkn hx.out.1 hyl.out hcb hcl.out hco hown hval.out hbel
          go_wp2
          go_roundw
          case rel => exact R
          case measure => simp [intOf]; omega
    · obtain rfl : k = n := by omega
      have hD := hown.dg hcl.out (by omega) hco
      have hv := hval.out
      rw [List.take_of_length_le (by rw [hcl.out]; omega), List.take_of_length_le (by rw [hxl.out]; omega)] at hv
      have Hv := Lib.hid hv
      clear hv
      go_wp2_with fail
      refine (trim_any _ _ _ _ _ hD).mono ?_
      rintro e w' ⟨rfl, rfl⟩
      go_wp2
      go_ret
      exact RetN.tr hD Hv.out (Nat.le_refl _) hbel
end Go.Proofs.YtbgihlfblmilmaaGreatDoor.Fr

namespace Go.Proofs.YtbgihlfblmilmaaGreatDoor.Fr
open Go.RowKit Num

theorem even_is (A : Option Addr) (n c : Nat) (xs : List Nat) (w : World) (h : Dg .u32 w A n c xs) (x : Nat) (hx : Hid (vl (bs .u32) xs = x)) (b : Bool) (hb : decide (x % 2 = 0) = b) :
    Calls Tryz.prog 151 #[.slice A n c] w fun e w' => e = .returned (.bool b) ∧ w = w' :=
  (even_any A n c xs w h).mono fun e w' he => by rw [hx.out, hb] at he; exact he

theorem order_is (A A' : Option Addr) (n c n' c' : Nat) (xs ys : List Nat) (w : World) (h : Dg .u32 w A n c xs) (h' : Dg .u32 w A' n' c' ys) (x y : Nat) (hx : Hid (vl (bs .u32) xs = x)) (hy : Hid (vl (bs .u32) ys = y)) :
    Calls Tryz.prog 94 #[.slice A n c, .slice A' n' c'] w fun e w' => ∃ m, e = .returned (.int .i64 (ord x y)) ∧ w' = w.drewN m :=
  (order_any A A' n c n' c' xs ys w h h').mono fun e w' he => by rw [hx.out, hy.out] at he; exact he

set_option maxHeartbeats 1600000 in
set_option maxRecDepth 100000 in
theorem gcd_any (A A' : Option Addr) (n c n' c' : Nat) (xs ys : List Nat) (w : World) (h : Dg .u32 w A n c xs) (h' : Dg .u32 w A' n' c' ys) (hN : Nrm xs) (hN' : Nrm ys) (hn : n ≤ 1000000) (hn' : n' ≤ 1000000)
    (hx0 : 0 < vl (bs .u32) xs) (hy0 : 0 < vl (bs .u32) ys) :
    Calls Tryz.prog 124 #[.slice A n c, .slice A' n' c'] w (RetN .u32 w ((vl (bs .u32) xs).gcd (vl (bs .u32) ys)) n) := by
  have hb32 : bl (vl (bs .u32) xs) ≤ 32000000 := by
    have := vl_lt h.ok
    rw [bs32_pow] at this
    have := bl_le this
    have := h.len
    omega
  have HX := Lib.hid (show ∀ zs : List Nat, Nrm zs → vl (bs .u32) zs ≤ vl (bs .u32) xs → zs.length ≤ n from fun zs hz hle => by rw [← h.len]; exact len_le_of one_lt_bs32 h.ok hz hle)
  have nv1 := NV.mk h hN (x := vl (bs .u32) xs) rfl (Nat.le_refl n)
  have nv2 := NV.mk h' hN' (x := vl (bs .u32) ys) rfl (Nat.le_refl n')
  clear h h' hN hN'
  generalize vl (bs .u32) xs = X at *
  generalize vl (bs .u32) ys = Y at *
  go_enter Tryz.func124, Tryz.ntmps124
  go_wp2
  go_loopg [0, 1, 5] X (fun g a b t wr => ∃ u v tt : Nat, NV .u32 wr a u n ∧ NV .u32 wr b v n' ∧ t = .int .i64 tt ∧ 0 < u ∧ 0 < v ∧ Hid (X.gcd Y = 2 ^ tt * u.gcd v) ∧ Hid (tt + bl u = bl X) ∧ tt ≤ bl X ∧ Hid (g = u) ∧ Below w.heap.size w wr)
  case atStart => exact ⟨X, Y, 0, nv1, nv2, rfl, hx0, hy0, show _ = _ by simp, show _ = _ by simp, by omega, rfl, Below.refl _ _⟩
  case round =>
    obtain ⟨u, v, tt, ⟨A1, m1, c1, us, rfl, hD1, hN1, hv1, hm1⟩, ⟨A2, m2, c2, vs, rfl, hD2, hN2, hv2, hm2⟩, rfl, hu0, hv0, hG, hbl, htt, hg, hbel⟩ := hrel
    rcases (show (u % 2 = 0 ∧ v % 2 = 0) ∨ (u % 2 = 0 ∧ v % 2 = 1) ∨ u % 2 = 1 by omega) with ⟨hu, hv⟩ | ⟨hu, hv⟩ | hu
    · have Hu := Lib.hid hu
      have Hv := Lib.hid hv
      clear hu hv
      go_wp2_with fail
      refine (even_is _ _ _ _ _ hD1 u hv1 true (decide_eq_true Hu.out)).mono ?_
      rintro e w' ⟨rfl, rfl⟩
      go_wp2_with fail
      refine (even_is _ _ _ _ _ hD2 v hv2 true (decide_eq_true Hv.out)).mono ?_
      rintro e w' ⟨rfl, rfl⟩
      go_wp2_with fail
      refine (half_any _ _ _ _ _ hD1 (by omega)).mono ?_
      rintro e w' ⟨A3, m3, c3, us3, rfl, hD3, hN3, hv3, hm3, hb3⟩
      go_wp2_with fail
      refine (half_any _ _ _ _ _ (hD2.below hb3) (by omega)).mono ?_
      rintro e w4 ⟨A4, m4, c4, us4, rfl, hD4, hN4, hv4, hm4, hb4⟩
      go_wp2
      go_roundg (u / 2)
      case measure => have := hg.out; omega
      case rel =>
        have hh := bl_half hu0
        have e1 := hbl.out
        have e2 := hb3.size
        exact ⟨u / 2, v / 2, tt + 1, NV.mk (hD3.below hb4) hN3 (by rw [← hv1.out]; exact hv3) (by omega), NV.mk hD4 hN4 (by rw [← hv2.out]; exact hv4) (by omega), by go_num, by have := Hu.out; omega, by have := Hv.out; omega,
          show _ = _ by rw [hG.out, even_gcd Hu.out Hv.out, Nat.pow_succ, Nat.mul_assoc], show _ = _ by omega, by omega, rfl, (hbel.trans (hb3.mono hbel.size)).trans (hb4.mono (Nat.le_trans hbel.size hb3.size))⟩
    all_goals
      have hodd : Hid (u.gcd v % 2 = 1) := by
        first
          | exact odd_of_right hv
          | exact odd_of_left hu
      clear hbl hg
    all_goals
      first
        | (have Hu := Lib.hid hu
           have Hv := Lib.hid hv
           clear hu hv
           go_wp2_with fail
           refine (even_is _ _ _ _ _ hD1 u hv1 true (decide_eq_true Hu.out)).mono ?_
           rintro e w' ⟨rfl, rfl⟩
           go_wp2_with fail
           refine (even_is _ _ _ _ _ hD2 v hv2 false (by have := Hv.out; rw [decide_eq_false_iff_not]; omega)).mono ?_
           rintro e w' ⟨rfl, rfl⟩)
        | (have Hu := Lib.hid hu
           clear hu
           go_wp2_with fail
           refine (even_is _ _ _ _ _ hD1 u hv1 false (by have := Hu.out; rw [decide_eq_false_iff_not]; omega)).mono ?_
           rintro e w' ⟨rfl, rfl⟩)
      go_wp2
      clear Hu
      have nv1 := NV.mk hD1 hN1 hv1 (show m1 ≤ max n n' by omega)
      have nv2 := NV.mk hD2 hN2 hv2 (show m2 ≤ max n n' by omega)
      have hM : max n n' ≤ 1000000 := by omega
      clear hD1 hN1 hv1 hm1 hD2 hN2 hv2 hm2
      generalize max n n' = M at *
      obtain ⟨wo, rfl⟩ : ∃ wo : World, wo = wr := ⟨_, rfl⟩
      go_loopg [0, 1] (u + v) (fun g a b wr => ∃ p q : Nat, NV .u32 wr a p M ∧ NV .u32 wr b q M ∧ 0 < p ∧ Hid (p.gcd q = u.gcd v) ∧ Hid (g = p + q) ∧ Below w.heap.size w wr)
      case atStart => exact ⟨u, v, nv1, nv2, hu0, rfl, rfl, hbel⟩
      case round =>
        clear nv1 nv2 hbel
        obtain ⟨p, q, ⟨A1, m1, c1, us1, rfl, hD1, hN1, hv1, hm1⟩, ⟨A2, m2, c2, us2, rfl, hD2, hN2, hv2, hm2⟩, hp0, hpq, hg2, hbel⟩ := hrel
        by_cases hq0 : q = 0
        · have hm0 : m2 = 0 := by
            have := (hN2.zero (b := bs .u32) (by decide)).1 (by rw [hv2.out]; exact hq0)
            rw [hD2.len] at this; exact this
          have hpG : Hid (p * 2 ^ tt = X.gcd Y) := by
            have e := hpq.out
            rw [hq0, Nat.gcd_zero_right] at e
            show _ = _
            rw [hG.out, e, Nat.mul_comm]
          have hle : Hid (p * 2 ^ tt ≤ X) := by rw [hpG.out]; exact Nat.gcd_le_left _ hx0
          have hm1n : m1 ≤ n := by
            have h2 : 1 ≤ 2 ^ tt := Nat.one_le_two_pow
            have h3 : p * 1 ≤ p * 2 ^ tt := Nat.mul_le_mul_left _ h2
            have h4 := hle.out
            have := HX.out us1 hN1 (by rw [hv1.out]; omega)
            rw [hD1.len] at this; exact this
          clear hpq hq0
          subst hm0
          go_wp2
          obtain ⟨wo2, rfl⟩ : ∃ wo : World, wo = wr := ⟨_, rfl⟩
          go_loopg [0, 6] tt (fun g a i wr => ∃ k e : Nat, i = .int .i64 k ∧ k ≤ tt ∧ Hid (e = p * 2 ^ k) ∧ NV .u32 wr a e n ∧ Hid (g = tt - k) ∧ Below w.heap.size w wr)
          case atStart => exact ⟨0, p, rfl, Nat.zero_le _, show _ = _ by simp, NV.mk hD1 hN1 hv1 hm1n, rfl, hbel⟩
          case round =>
            clear hD1 hN1 hv1 hm1 hbel
            obtain ⟨k, e, rfl, hk, he, ⟨A1, m1, c1, us1, rfl, hD1, hN1, hv1, hm1⟩, hg5, hbel⟩ := hrel
            by_cases hkt : k < tt
            · go_wp2_with fail
              refine (plus_any _ _ _ _ _ _ _ _ _ hD1 hD1 (by omega) (by omega)).mono ?_
              rintro e' w3 ⟨A3, m3, c3, us3, rfl, hD3, hN3, hv3, hm3, hb3⟩
              go_wp2
              go_roundg (tt - (k + 1))
              case measure => have := hg5.out; omega
              case rel =>
                have e2 : e + e = p * 2 ^ (k + 1) := by rw [he.out, Nat.pow_succ, ← Nat.mul_assoc]; omega
                have hv4 : vl (bs .u32) us3 = e + e := by have := hv3.out; rw [hv1.out] at this; exact this
                have h5 : p * 2 ^ (k + 1) ≤ p * 2 ^ tt := Nat.mul_le_mul_left _ (Nat.pow_le_pow_right (by omega) hkt)
                have h6 := HX.out us3 hN3 (by have := hle.out; omega)
                rw [hD3.len] at h6
                exact ⟨k + 1, e + e, by go_num, hkt, e2, NV.mk hD3 hN3 hv4 h6, rfl, hbel.trans (hb3.mono hbel.size)⟩
            · obtain rfl : k = tt := by omega
              go_wp2
              go_ret
              exact ⟨_, _, _, _, rfl, hD1, hN1, show _ = _ by rw [hv1.out, he.out]; exact hpG.out, hm1, hbel⟩
        · have hq1 : 0 < q := by omega
          have hm2' : 0 < m2 := by have := nz_len (b := bs .u32) (xs := us2) (by rw [hv2.out]; exact hq1); rw [hD2.len] at this; exact this
          clear hq0
          go_wp2
          obtain ⟨wo2, rfl⟩ : ∃ wo : World, wo = wr := ⟨_, rfl⟩
          go_loopg [0] p (fun g a wr => ∃ p' : Nat, NV .u32 wr a p' M ∧ 0 < p' ∧ Hid (p'.gcd q = u.gcd v) ∧ Hid (p' ≤ p) ∧ Hid (g = p') ∧ Below wo2.heap.size wo2 wr)
          case atStart => exact ⟨p, NV.mk hD1 hN1 hv1 hm1, hp0, hpq, Nat.le_refl p, rfl, Below.refl _ _⟩
          case round =>
            clear hD1 hN1 hv1 hm1
            obtain ⟨p', ⟨A1, m1, c1, us1, rfl, hD1, hN1, hv1, hm1⟩, hp0', hpq', hpp, hg3, hbel2⟩ := hrel
            by_cases hpe : p' % 2 = 0
            · have Hpe := Lib.hid hpe
              clear hpe
              go_wp2_with fail
              refine (even_is _ _ _ _ _ hD1 p' hv1 true (decide_eq_true Hpe.out)).mono ?_
              rintro e w' ⟨rfl, rfl⟩
              go_wp2_with fail
              refine (half_any _ _ _ _ _ hD1 (by omega)).mono ?_
              rintro e w3 ⟨A3, m3, c3, us3, rfl, hD3, hN3, hv3, hm3, hb3⟩
              go_wp2
              go_roundg (p' / 2)
              case measure => have := hg3.out; omega
              case rel =>
                exact ⟨p' / 2, NV.mk hD3 hN3 (by rw [← hv1.out]; exact hv3) (by omega), by have := Hpe.out; omega, show _ = _ by rw [odd_gcd_half Hpe.out (by rw [hpq'.out]; exact hodd.out), hpq'.out],
                  show _ ≤ _ by have := hpp.out; omega, rfl, hbel2.trans (hb3.mono hbel2.size)⟩
            · have Hpe := Lib.hid (show p' % 2 = 1 by omega)
              clear hpe hg3
              go_wp2_with fail
              refine (even_is _ _ _ _ _ hD1 p' hv1 false (by have := Hpe.out; rw [decide_eq_false_iff_not]; omega)).mono ?_
              rintro e w' ⟨rfl, rfl⟩
              go_wp2
              obtain ⟨wo3, rfl⟩ : ∃ wo : World, wo = wr := ⟨_, rfl⟩
              have nvq := NV.mk (hD2.below hbel2) hN2 hv2 hm2
              go_loopg [1] q (fun g b wr => ∃ q' : Nat, NV .u32 wr b q' M ∧ 0 < q' ∧ Hid (p'.gcd q' = u.gcd v) ∧ Hid (q' ≤ q) ∧ Hid (g = q') ∧ Below wo3.heap.size wo3 wr)
              case atStart => exact ⟨q, nvq, hq1, hpq', Nat.le_refl q, rfl, Below.refl _ _⟩
              case round =>
                clear hD2 hN2 hv2 hm2 nvq
                obtain ⟨q', ⟨A2, m2, c2, us2, rfl, hD2, hN2, hv2, hm2⟩, hq0', hpq2, hqq, hg4, hbel3⟩ := hrel
                by_cases hqe : q' % 2 = 0
                · have Hqe := Lib.hid hqe
                  clear hqe
                  go_wp2_with fail
                  refine (even_is _ _ _ _ _ hD2 q' hv2 true (decide_eq_true Hqe.out)).mono ?_
                  rintro e w' ⟨rfl, rfl⟩
                  go_wp2_with fail
                  refine (half_any _ _ _ _ _ hD2 (by omega)).mono ?_
                  rintro e w3 ⟨A3, m3, c3, us3, rfl, hD3, hN3, hv3, hm3, hb3⟩
                  go_wp2
                  go_roundg (q' / 2)
                  case measure => have := hg4.out; omega
                  case rel =>
                    exact ⟨q' / 2, NV.mk hD3 hN3 (by rw [← hv2.out]; exact hv3) (by omega), by have := Hqe.out; omega, show _ = _ by rw [odd_gcd_half' Hqe.out (by rw [hpq2.out]; exact hodd.out), hpq2.out],
                      show _ ≤ _ by have := hqq.out; omega, rfl, hbel3.trans (hb3.mono hbel3.size)⟩
                · have Hqe := Lib.hid (show q' % 2 = 1 by omega)
                  clear hqe hg4
                  have hDa := hD1.below hbel3
                  have hbel := (hbel.trans (hbel2.mono hbel.size)).trans (hbel3.mono (Nat.le_trans hbel.size hbel2.size))
                  clear hD1
                  go_wp2_with fail
                  refine (even_is _ _ _ _ _ hD2 q' hv2 false (by have := Hqe.out; rw [decide_eq_false_iff_not]; omega)).mono ?_
                  rintro e w' ⟨rfl, rfl⟩
                  go_wp2_with fail
                  refine (order_is _ _ _ _ _ _ _ _ _ hDa hD2 p' q' hv1 hv2).mono ?_
                  rintro e w' ⟨nd, rfl, rfl⟩
                  by_cases hlt : q' < p'
                  · have ho : (0 : Int) < ord p' q' := ord_pos.2 hlt
                    go_wp2_with fail
                    refine (minus_any _ _ _ _ _ _ _ _ _ (hDa.drewN nd) (hD2.drewN nd) (by omega) (by rw [hv1.out, hv2.out]; omega)).mono ?_
                    rintro e w3 ⟨A3, m3, c3, us3, rfl, hD3, hN3, hv3, hm3, hb3⟩
                    go_wp2
                    go_roundg (p')
                    case measure => have := hg2.out; have := hpp.out; omega
                    case rel =>
                      exact ⟨q', p' - q', NV.mk ((hD2.drewN nd).below hb3) hN2 hv2 hm2, NV.mk hD3 hN3 (by rw [← hv1.out, ← hv2.out]; exact hv3) (by omega), hq0',
                        show _ = _ by rw [Nat.gcd_sub_self_right (by omega), Nat.gcd_comm]; exact hpq2.out, show _ = _ by omega, (bel_drewN hbel nd).trans (hb3.mono hbel.size)⟩
                  · have ho : ¬ (0 : Int) < ord p' q' := fun h => hlt (ord_pos.1 h)
                    go_wp2_with fail
                    refine (minus_any _ _ _ _ _ _ _ _ _ (hD2.drewN nd) (hDa.drewN nd) (by omega) (by rw [hv1.out, hv2.out]; omega)).mono ?_
                    rintro e w3 ⟨A3, m3, c3, us3, rfl, hD3, hN3, hv3, hm3, hb3⟩
                    go_wp2
                    go_roundg (q')
                    case measure => have := hg2.out; have := hqq.out; omega
                    case rel =>
                      exact ⟨p', q' - p', NV.mk ((hDa.drewN nd).below hb3) hN1 hv1 hm1, NV.mk hD3 hN3 (by rw [← hv1.out, ← hv2.out]; exact hv3) (by omega), hp0',
                        show _ = _ by rw [Nat.gcd_sub_self_right (by omega)]; exact hpq2.out, show _ = _ by omega, (bel_drewN hbel nd).trans (hb3.mono hbel.size)⟩

end Go.Proofs.YtbgihlfblmilmaaGreatDoor.Fr
