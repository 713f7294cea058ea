import Derived.Test.YtfgiiidfpbpniaaGreatDoorA4
import Derived.Test.YtfgiiidfpbpniaaGreatDoorA1

namespace Go.Proofs.YtfgiiidfpbpniaaGreatDoor.Fr
open Go.RowKit Num

structure TimesRel (w : World) (n n' : Nat) (xs ys : List Nat) (i : Value) (wr : World) (k : Nat) (cur : List Nat) : Prop where
  i : i = .int .i64 k
  kb : k ≤ n
  len : Hid (cur.length = n + n')
  ok : Okd (bs .u32) cur
  own : Mk wr w.heap.size 112 .u32 cur
  val : Hid (vl (bs .u32) (cur.take (k + n')) = vl (bs .u32) (xs.take k) * vl (bs .u32) ys)
  bel : Below w.heap.size w wr

structure TimesIn (w : World) (n n' k x P : Nat) (ys : List Nat) (cv jv : Value) (wr : World) (j cy : Nat) (cur : List Nat) : Prop where
  i : jv = .int .i64 j
  cv : cv = .int .u64 cy
  jb : j ≤ n'
  cb : cy ≤ 4294967295
  len : Hid (cur.length = n + n')
  ok : Okd (bs .u32) cur
  own : Mk wr w.heap.size 112 .u32 cur
  val : Hid (vl (bs .u32) (cur.take (k + n')) + bs .u32 ^ (k + j) * cy = P + bs .u32 ^ k * (x * vl (bs .u32) (ys.take j)))
  bel : Below w.heap.size w wr

theorem timesIn_next {w wr : World} {n n' k j cy dg x y P nq : Nat} {ys cur : List Nat} {E C : Int} (hkn : k < n) (hj : j < n') (hy : ys.getD j 0 = y) (hdg : cur.getD (k + j) 0 = dg)
    (hcb : cy ≤ 4294967295) (hdb : dg ≤ 4294967295) (hm : x * y ≤ 18446744065119617025)
    (hcl : cur.length = n + n') (hco : Okd (bs .u32) cur) (hown : Mk wr w.heap.size 112 .u32 cur)
    (hval : vl (bs .u32) (cur.take (k + n')) + bs .u32 ^ (k + j) * cy = P + bs .u32 ^ k * (x * vl (bs .u32) (ys.take j))) (hbel : Below w.heap.size w wr)
    (hE : E = ((cy + dg + x * y : Nat) : Int) % 4294967296) (hC : C = ((cy + dg + x * y : Nat) : Int) / 4294967296) :
    ∃ j' cy' cur', TimesIn w n n' k x P ys (.int .u64 C) (.int .i64 ((j : Int) + 1)) ((wr.drewN nq).setCell ⟨w.heap.size, k + j, none⟩ (.int .u32 E)) j' cy' cur' := by
  have e1 : E = (((cy + dg + x * y) % 4294967296 : Nat) : Int) := by rw [hE]; omega
  have e2 : C = (((cy + dg + x * y) / 4294967296 : Nat) : Int) := by rw [hC]; omega
  subst e1 e2
  refine ⟨j + 1, _, cur.set (k + j) ((cy + dg + x * y) % 4294967296), rfl, rfl, by omega, by omega, by simpa [Hid] using hcl, hco.set _ (Nat.mod_lt _ (by decide)), (hown.drewN nq).set_ _ _, ?_, (bel_drewN hbel nq).setCell (Nat.le_refl _) _⟩
  exact times_step (by omega) (by omega) hdg hy hval (by show _ + 4294967296 * _ = _; omega)

theorem timesRel_next {w wr : World} {n n' k cy x : Nat} {xs ys cur : List Nat} (hkn : k < n) (hx : xs.getD k 0 = x) (hyl : ys.length = n') (hcb : cy ≤ 4294967295)
    (hcl : cur.length = n + n') (hco : Okd (bs .u32) cur) (hown : Mk wr w.heap.size 112 .u32 cur)
    (hval : vl (bs .u32) (cur.take (k + n')) + bs .u32 ^ (k + n') * cy = vl (bs .u32) (xs.take k) * vl (bs .u32) ys + bs .u32 ^ k * (x * vl (bs .u32) (ys.take n'))) (hbel : Below w.heap.size w wr) :
    ∃ k' cur', TimesRel w n n' xs ys (.int .i64 ((k : Int) + 1)) (wr.setCell ⟨w.heap.size, k + n', none⟩ (.int .u32 cy)) k' cur' :=
  ⟨k + 1, cur.set (k + n') cy, rfl, by omega, by simpa [Hid] using hcl, hco.set _ (Nat.lt_succ_of_le hcb), hown.set_ _ _, times_next (by omega) hx hyl hval, hbel.setCell (Nat.le_refl _) _⟩

set_option maxHeartbeats 1600000 in
set_option maxRecDepth 100000 in
theorem times_any (A A' : Option Addr) (n c n' c' : Nat) (xs ys : List Nat) (w : World) (h : Dg .u32 w A n c xs) (h' : Dg .u32 w A' n' c' ys) (hn : n ≤ 400000) (hn' : n' ≤ 400000) :
    Calls Tryz.prog 70 #[.slice A n c, .slice A' n' c'] w (RetN .u32 w (vl (bs .u32) xs * vl (bs .u32) ys) (n + n')) := by
  have hmk := make_u32 (n + n') (by omega)
  have e0 : (((n + n' : Nat) : Int)) = (n : Int) + (n' : Int) := by omega
  rw [e0] at hmk
  clear e0
  have hxl := Lib.hid h.len
  have hyl := Lib.hid h'.len
  go_enter Tryz.func70, Tryz.ntmps70
  go_wp2
  go_loopw [6] (fun i wr => ∃ k cur, TimesRel w n n' xs ys i wr k cur) (fun i _ => n - (intOf i).toNat)
  case atStart =>
    exact ⟨0, zs (n + n'), rfl, by omega, zs_len _, zs_ok (by decide) _, Mk.new _ _ _ _, by show vl _ (List.take _ (List.replicate _ _)) = _; rw [List.take_replicate, vl_replicate, List.take_zero, vl_nil, Nat.zero_mul], (Below.refl _ _).alloc (Nat.le_refl _) _⟩
  case round =>
    obtain ⟨wo, rfl⟩ : ∃ wo : World, wo = wr := ⟨_, rfl⟩
    obtain ⟨k, cur, rfl, hkb, hcl, hco, hown, hval, hbel⟩ := hrel
    by_cases hkn : k < n
    · obtain ⟨ad, x, rfl, hcx, hcs, hx⟩ := h.at2 hbel hkn
      have hxb : x ≤ 4294967295 := Nat.le_of_lt_succ hx.out.2
      clear hcx hcs
      go_wp2
      go_loopw [7, 8] (fun cv jv wr => ∃ j cy cur', TimesIn w n n' k x (vl (bs .u32) (xs.take k) * vl (bs .u32) ys) ys cv jv wr j cy cur') (fun _ jv _ => n' - (intOf jv).toNat)
      case atStart => exact ⟨0, 0, cur, rfl, rfl, by omega, by omega, hcl, hco, hown, by show _ = _; rw [hval.out]; simp [vl], hbel⟩
      case round =>
        clear hown hcl hco hval hbel
        clear cur
        obtain ⟨j, cy, cur, rfl, rfl, hjb, hcb, hcl, hco, hown, hval, hbel⟩ := hrel
        by_cases hjn : j < n'
        · obtain ⟨ad1, x1, e1, hcx, hcs, hx1⟩ := h.at2 hbel hkn
          injection e1 with e1
          subst e1
          obtain rfl : x1 = x := hx1.out.1.symm.trans hx.out.1
          obtain ⟨ad', y, rfl, hcy, hcs', hy⟩ := h'.at2 hbel hjn
          have hyb : y ≤ 4294967295 := Nat.le_of_lt_succ hy.out.2
          clear hcs hcs' hx1
          have hcc := hown.cell (i := k + j) (by rw [hcl.out]; omega)
          have hcf := hown.frozen (k + j)
          have hcd : Hid (cur.getD (k + j) 0 ≤ 4294967295 ∧ k + j < cur.length) := ⟨Nat.le_of_lt_succ (hco.getD (by decide) _), by rw [hcl.out]; omega⟩
          obtain ⟨dg, hdg⟩ : ∃ dg, cur.getD (k + j) 0 = dg := ⟨_, rfl⟩
          rw [hdg] at hcc hcd
          have hdg := Lib.hid hdg
          have hdb := hcd.out.1
          have hm1 := mul_bd hxb hyb
          have hm2 : (0 : Int) ≤ (x1 : Int) * (y : Int) := Int.mul_nonneg (by omega) (by omega)
          have hm3 : (x1 : Int) * (y : Int) ≤ 18446744065119617025 := by have : (((x1 * y : Nat)) : Int) ≤ 18446744065119617025 := by omega
                                                                         rwa [Int.natCast_mul] at this
          go_wp2
          go_quiet (fail)
          go_wp2
          have R := timesIn_next (nq := nq) (E := ((cy : Int) + dg + x1 * y) % 4294967296) (C := ((cy : Int) + dg + x1 * y) / 4294967296) hkn hjn hy.out.1 hdg.out hcb hdb hm1 hcl.out hco hown hval.out hbel (by rw [Int.natCast_add, Int.natCast_mul, Int.natCast_add]) (by rw [Int.natCast_add, Int.natCast_mul, Int.natCast_add])
          go_roundw
          case rel => exact R
          case measure => simp [intOf]; omega
        · obtain rfl : j = n' := by omega
          have hcc := hown.cell (i := k + j) (by rw [hcl.out]; omega)
          have hcf := hown.frozen (k + j)
          generalize cur.getD (k + j) 0 = dg at hcc
          have R := timesRel_next hkn hx.out.1 hyl.out hcb hcl.out hco hown hval.out hbel
          go_wp2
          go_roundw
          case rel => exact R
          case measure => simp [intOf]; omega
    · obtain rfl : k = n := by omega
      have hD := hown.dg hcl.out (by omega) hco
      have hv := hval.out
      rw [List.take_of_length_le (by rw [hcl.out]; omega), List.take_of_length_le (by rw [hxl.out]; omega)] at hv
      have Hv := Lib.hid hv
      clear hv
      go_wp2_with fail
      refine (trim_any _ _ _ _ _ hD).mono ?_
      rintro e w' ⟨rfl, rfl⟩
      go_wp2
      go_ret
      exact RetN.tr hD Hv.out (Nat.le_refl _) hbel
end Go.Proofs.YtfgiiidfpbpniaaGreatDoor.Fr
