import Derived.Test.YtoljffghaklpdaaGreatDoorA0
import Derived.Test.YtoljffghaklpdaaGreatDoorNum
import Derived.Laws.ResultCell
import Derived.Deep.Cut
import Derived.Deep.RegionHeld3

namespace Go.Proofs.YtoljffghaklpdaaGreatDoor.Fr
open Go.RowKit Num

/-- what 'divide' returns: the quotient and the rest -/
def RetDiv (w : World) (x y L L' : Nat) (e : Ending) (w' : World) : Prop :=
  ∃ v v', e = .returned (.tuple #[v, v']) ∧ NV .u32 w' v (x / y) L ∧ NV .u32 w' v' (x % y) L' ∧ Below w.heap.size w w'

/-- the loop of 'divide' by one digit: the digits from place k on are divided -/
structure Div1Rel (w : World) (n : Nat) (xs : List Nat) (y : Nat) (rv i : Value) (wr : World) (k r : Nat) (cur : List Nat) : Prop where
  i : i = .int .i64 ((k : Int) - 1)
  rv : rv = .int .u64 r
  kb : k ≤ n
  hr : Hid (r = vl (bs .u32) (xs.drop k) % y)
  rb : r < y
  len : Hid (cur.length = n)
  ok : Okd (bs .u32) cur
  own : Mk wr w.heap.size 120 .u32 cur
  val : Hid (vl (bs .u32) (cur.drop k) = vl (bs .u32) (xs.drop k) / y)
  bel : Below w.heap.size w wr

theorem div1Rel_next {w wr : World} {n j r x y : Nat} {xs cur : List Nat} {E C : Int} (hxl : xs.length = n) (hj : j + 1 ≤ n) (hx : xs.getD j 0 = x) (hxb : x ≤ 4294967295) (hy : 0 < y)
    (hr : r = vl (bs .u32) (xs.drop (j + 1)) % y) (hry : r < y) (hcl : cur.length = n) (hco : Okd (bs .u32) cur) (hown : Mk wr w.heap.size 120 .u32 cur)
    (hval : vl (bs .u32) (cur.drop (j + 1)) = vl (bs .u32) (xs.drop (j + 1)) / y) (hbel : Below w.heap.size w wr) (hE : E = (((r * 4294967296 + x) / y : Nat) : Int)) (hC : C = (((r * 4294967296 + x) % y : Nat) : Int)) :
    ∃ k r' cur', Div1Rel w n xs y (.int .u64 C) (.int .i64 ((j : Int) - 1)) (wr.setCell ⟨w.heap.size, j, none⟩ (.int .u32 E)) k r' cur' := by
  subst hE hC
  have hd := vl_drop_pred (b := bs .u32) (by omega : j < xs.length) hx
  have hs := div1_step (x := x) (V := vl (bs .u32) (xs.drop (j + 1))) hy hr
  refine ⟨j, (r * 4294967296 + x) % y, cur.set j ((r * 4294967296 + x) / y), rfl, rfl, by omega, ?_, Nat.mod_lt _ hy, by simpa [Hid] using hcl, hco.set j ?_, hown.set_ j _, ?_, hbel.setCell (Nat.le_refl _) _⟩
  · show _ = _
    rw [hd]
    exact hs.2.symm
  · exact div1_lt hry (by omega)
  · show _ = _
    rw [vl_drop_set (by omega), hval, hd]
    exact hs.1.symm

set_option maxHeartbeats 1600000 in
set_option maxRecDepth 100000 in
theorem divide_any (A A' : Option Addr) (n c n' c' : Nat) (xs ys : List Nat) (w : World) (h : Dg .u32 w A n c xs) (h' : Dg .u32 w A' n' c' ys) (hn : n ≤ 900000) (hn' : n' ≤ 900000) (hy0 : 0 < vl (bs .u32) ys) :
    Calls Tryz.prog 163 #[.slice A n c, .slice A' n' c'] w (RetDiv w (vl (bs .u32) xs) (vl (bs .u32) ys) n n') := by
  have k1 := h.tr
  have k2 := h'.tr
  have hNx := nrm_tr xs
  have hNy := nrm_tr ys
  have HVx := Lib.hid (vl_tr (bs .u32) xs)
  have HVy := Lib.hid (vl_tr (bs .u32) ys)
  have hle := len_tl h.len
  have hle' := len_tl h'.len
  have hmk := make_u32 (tl xs) (by omega)
  go_enter Tryz.func163, Tryz.ntmps163
  go_wp2_with fail
  refine (trim_any A n c xs w h).mono ?_
  rintro e w' ⟨rfl, rfl⟩
  go_wp2_with fail
  refine (trim_any A' n' c' ys w h').mono ?_
  rintro e w' ⟨rfl, rfl⟩
  clear h h'
  generalize vl (bs .u32) xs = X at *
  generalize vl (bs .u32) ys = Y at *
  generalize tr xs = us at *
  generalize tr ys = vs at *
  generalize tl xs = p at *
  generalize tl ys = q at *
  by_cases hq : q = 1
  · subst hq
    obtain ⟨ad', y, rfl, hcy, hy⟩ := k2.at_ (j := 0) (by omega)
    have hyv : Hid (y = Y) := by
      have := nrm_one hNy k2.ok k2.len hy.out.1
      show _ = _
      rw [← HVy.out]; exact this.symm
    have hy1 : 1 ≤ y := by have := hyv.out; omega
    have hyb : y ≤ 4294967295 := Nat.le_of_lt_succ hy.out.2
    have hcy : w.cell? ad' = some (.int .u32 y) := hcy
    have hbY := World.block_lt_of_cell? _ _ hcy
    have hxl := Lib.hid k1.len
    go_wp2
    go_loopw [7, 8] (fun rv i wr => ∃ k r cur, Div1Rel w p us y rv i wr k r cur) (fun _ i _ => (intOf i + 1).toNat)
    case atStart =>
      have e : us.drop p = [] := List.drop_eq_nil_of_le (by have := hxl.out; omega)
      exact ⟨p, 0, zs p, rfl, rfl, Nat.le_refl _, by show _ = _; rw [e]; simp [vl], by omega, zs_len p, zs_ok (by decide) p, Mk.new _ _ _ _, by show _ = _; rw [e, List.drop_eq_nil_of_le (by rw [zs_len]; omega)]; simp [vl], (Below.refl _ _).alloc (Nat.le_refl _) _⟩
    case round =>
      obtain ⟨k, r, cur, hi, rfl, hkb, hr, hry, hcl, hco, hown, hval, hbel⟩ := hrel
      have hsz := hbel.size
      rcases idx_cases hi with ⟨rfl, rfl⟩ | ⟨j, rfl, rfl⟩
      · clear hi
        have hD := hown.dg hcl.out (by omega) hco
        go_wp2_with fail
        refine (trim_any _ _ _ _ _ hD).mono ?_
        rintro e w' ⟨rfl, rfl⟩
        have hD2 := Dg.lit1 .u32 wr 120 r (show r < 4294967296 by omega)
        have hDt := hD.tr.alloc (.cells #[.int .u32 (r : Int)] 120)
        go_wp2_with fail
        refine (trim_any _ _ _ _ _ hD2).mono ?_
        rintro e w' ⟨rfl, rfl⟩
        go_wp2
        go_ret2
        refine ⟨_, _, rfl, NV.mk hDt (nrm_tr _) (show _ = _ by rw [vl_tr, ← hyv.out, ← HVx.out]; exact hval.out) (by have := tl_le cur; have := hcl.out; omega), NV.mk hD2.tr (nrm_tr _) (show _ = _ by rw [vl_tr, ← hyv.out, ← HVx.out]; have := hr.out; simpa [vl] using this) (Nat.le_trans (tl_le _) (by simp; omega)), hbel.alloc hsz _⟩
      · clear hi
        obtain ⟨ad, x, rfl, hcx, hcs, hx⟩ := k1.at2 hbel (j := j) (by omega)
        have hcs := hcs w.heap.size j
        simp only [Nat.le_refl, forall_const] at hcs
        have hxb : x ≤ 4294967295 := Nat.le_of_lt_succ hx.out.2
        have hcy1 : wr.cell? ad' = some (.int .u32 y) := (hbel.cell hbY).trans hcy
        have hcy2 : ∀ u, (wr.setCell ⟨w.heap.size, j, none⟩ u).cell? ad' = some (.int .u32 y) := fun u => by
          rw [World.cell?_setCell_other wr _ _ u (fun e => by have := congrArg Addr.block e; simp at this; omega)]
          exact hcy1
        have hcc := hown.cell (i := j) (by rw [hcl.out]; omega)
        have hcf := hown.frozen j
        generalize cur.getD j 0 = z at hcc
        have hj1 := u64_join r x (by omega) hxb
        have R := div1Rel_next hxl.out (by omega) hx.out.1 hxb hy1 hr.out hry hcl.out hco hown hval.out hbel (div1_cast r x y (div1_lt hry (by omega))) (div1_castm r x y)
        go_wp2
        go_roundw
        case rel => exact R
        case measure => simp [intOf]
  · have hne : ((q : Int) == 1) = false := by rw [beq_eq_false_iff_ne]; omega
    have hX0 : bl X ≤ 28800000 := by
      have := vl_lt k1.ok
      rw [bs32_pow] at this
      have := bl_le this
      have := k1.len
      rw [HVx.out] at *
      omega
    clear hq
    go_wp2_with fail
    refine (bits_any _ _ _ _ _ (k1.alloc (.cells (dcs .u32 (zs p)).toArray 120)) (by omega)).mono ?_
    rintro e w' ⟨rfl, rfl⟩
    rw [HVx.out]
    go_wp2
    have HLen := Lib.hid (show ∀ zs : List Nat, Nrm zs → vl (bs .u32) zs < Y → zs.length ≤ q from fun zs hz hlt => by rw [← k2.len]; exact len_le_of one_lt_bs32 k2.ok hz (by rw [HVy.out]; omega))
    go_loopg [9, 10] (bl X) (fun g rv i wr => ∃ (k : Nat) (cur : List Nat), i = .int .i64 ((k : Int) - 1) ∧ k ≤ bl X ∧ NV .u32 wr rv (X / 2 ^ k % Y) q ∧ Hid (cur.length = p) ∧ Okd (bs .u32) cur ∧ Mk wr w.heap.size 120 .u32 cur ∧ Hid (vl (bs .u32) cur = X / 2 ^ k / Y * 2 ^ k) ∧ Hid (g = k) ∧ Below w.heap.size w wr)
    case atStart =>
      have e : X / 2 ^ bl X = 0 := Nat.div_eq_of_lt (lt_bl X)
      exact ⟨bl X, zs p, rfl, Nat.le_refl _, NV.mk (Dg.nil _ _) Nrm.nil (show _ = _ by rw [e]; simp [vl]) (by omega), zs_len p, zs_ok (by decide) p, Mk.new _ _ _ _, show _ = _ by rw [e, zs_vl]; simp, rfl, (Below.refl _ _).alloc (Nat.le_refl _) _⟩
    case round =>
      obtain ⟨k, cur, hi, hkb, ⟨A3, m3, c3, us3, rfl, hD3, hN3, hv3, hm3⟩, hcl, hco, hown, hval, hg, hbel⟩ := hrel
      have hsz := hbel.size
      rcases idx_cases hi with ⟨rfl, rfl⟩ | ⟨j, rfl, rfl⟩
      · clear hi
        have hD := hown.dg hcl.out (by omega) hco
        go_wp2_with fail
        refine (trim_any _ _ _ _ _ hD).mono ?_
        rintro e w' ⟨rfl, rfl⟩
        go_wp2
        go_ret2
        refine ⟨_, _, rfl, NV.mk hD.tr (nrm_tr _) (show _ = _ by rw [vl_tr, hval.out]; simp) (by have := tl_le cur; have := hcl.out; omega), NV.mk hD3 hN3 (show _ = _ by rw [hv3.out]; simp) (by omega), hbel⟩
      · clear hi
        have hjp : j / 32 < p := by
          have := vl_lt k1.ok
          rw [bs32_pow, k1.len, HVx.out] at this
          have := bl_le this
          omega
        go_wp2_with fail
        refine (plus_any _ _ _ _ _ _ _ _ _ hD3 hD3 (by omega) (by omega)).mono ?_
        rintro e w4 ⟨A4, m4, c4, us4, rfl, hD4, hN4, hv4, hm4, hb4⟩
        have hbel4 := hbel.trans (hb4.mono hbel.size)
        have hown4 := hown.below hb4 hown.lt
        clear hown
        obtain ⟨ad, x, rfl, hcx, hcs, hx⟩ := k1.at2 hbel4 hjp
        clear hcs
        have hxb : x ≤ 4294967295 := Nat.le_of_lt_succ hx.out.2
        have hband := bit_and x (j % 32) hxb
        have hbx : Hid (x / 2 ^ (j % 32) % 2 = X / 2 ^ j % 2) := by
          have := bit_of_digit k1.ok j
          rw [HVx.out, hx.out.1] at this; exact this
        obtain ⟨R, hR⟩ : ∃ R, R = X / 2 ^ (j + 1) % Y := ⟨_, rfl⟩
        obtain ⟨Q, hQ⟩ : ∃ Q, Q = X / 2 ^ (j + 1) / Y := ⟨_, rfl⟩
        rw [← hR] at hv3
        rw [← hQ] at hval
        have hRY : R < Y := by rw [hR]; exact Nat.mod_lt _ hy0
        have HR := Lib.hid hR
        have HQ := Lib.hid hQ
        clear hR hQ
        have hv4 : Hid (vl (bs .u32) us4 = 2 * R) := by
          have := hv4.out
          rw [hv3.out] at this
          show _ = _; omega
        obtain ⟨bt, hbt0⟩ : ∃ bt, bt = X / 2 ^ j % 2 := ⟨_, rfl⟩
        have Hbt := Lib.hid hbt0
        rw [← hbt0] at hbx
        have hbt1 : bt ≤ 1 := by omega
        clear hbt0
        rcases (show bt = 1 ∨ bt = 0 by omega) with hbit | hbit
        all_goals
          have Hbit := Lib.hid hbit
          first
            | (have hbtt : (bits .and .u32 ((x : Int) / 2 ^ (j % 32)) 1 == 1) = true := by rw [hband, hbx.out, Hbit.out]; rfl
               clear hbit hband
               have hD5 := Dg.lit1 .u32 w4 120 1 (show 1 < 4294967296 by omega)
               go_wp2_with fail
               refine (plus_any _ _ _ _ _ _ _ _ _ (hD4.alloc _) hD5 (by omega) (by omega)).mono ?_
               rintro e w6 ⟨A6, m6, c6, us6, rfl, hD6, hN6, hv6, hm6, hb6⟩
               have hv6 : Hid (vl (bs .u32) us6 = 2 * R + bt) := by
                 have := hv6.out
                 rw [hv4.out] at this
                 have h1 : vl (bs .u32) [1] = 1 := by simp [vl]
                 rw [h1] at this
                 have := Hbit.out
                 show _ = _; omega
               have hown6 := (hown4.alloc (.cells #[.int .u32 ((1 : Nat) : Int)] 120)).below hb6 (hown4.alloc _).lt
               have hbel6 := (hbel4.alloc hbel4.size (.cells #[.int .u32 ((1 : Nat) : Int)] 120)).trans (hb6.mono (by have := hbel4.size; simp; omega)))
            | (have hbtt : (bits .and .u32 ((x : Int) / 2 ^ (j % 32)) 1 == 1) = false := by rw [hband, hbx.out, Hbit.out]; rfl
               clear hbit hband
               have hD6 := hD4
               have hm6 := hm4
               have hv6 : Hid (vl (bs .u32) us4 = 2 * R + bt) := by
                 have := hv4.out
                 have := Hbit.out
                 show _ = _; omega
               have hown6 := hown4
               have hbel6 := hbel4
               obtain ⟨w6, rfl⟩ : ∃ w6 : World, w6 = w4 := ⟨_, rfl⟩)
        all_goals
          go_wp2_with fail
          refine (order_is _ _ _ _ _ _ _ _ _ hD6 (k2.below hbel6) (2 * R + bt) Y hv6 HVy).mono ?_
          rintro e w' ⟨nd, rfl, rfl⟩
          by_cases hle : Y ≤ 2 * R + bt
          · have ho : (0 : Int) ≤ ord (2 * R + bt) Y := ord_nonneg.2 hle
            have hle' := Lib.hid hle
            clear hle
            go_wp2_with fail
            refine (minus_fr _ _ _ _ _ _ _ _ _ (hD6.drewN nd) ((k2.below hbel6).drewN nd) (by omega) (by rw [hv6.out, HVy.out]; exact hle'.out)).mono ?_
            rintro e w7 ⟨A7, m7, c7, us7, rfl, hD7, hN7, hv7, hm7, hb7, hf7⟩
            have hbel7 := (bel_drewN hbel6 nd).trans (hb7.mono hbel6.size)
            have hown7 := (hown6.drewN nd).below hb7 (hown6.drewN nd).lt
            have hcc := hown7.cell (i := j / 32) (by rw [hcl.out]; exact hjp)
            have hcf := hown7.frozen (j / 32)
            obtain ⟨d, hd⟩ : ∃ d, cur.getD (j / 32) 0 = d := ⟨_, rfl⟩
            rw [hd] at hcc
            have hset := setbit hcl.out hjp hco hd hval.out
            have Hset := Lib.hid hset
            have Hd := Lib.hid hd
            clear hset hd
            have hor := Hset.out.2.1
            have hstep : Hid (X / 2 ^ j / Y = 2 * Q + 1 ∧ X / 2 ^ j % Y = 2 * R + bt - Y) := by
              show _ ∧ _
              rw [bit_step Hbt.out]
              exact (bit_div hy0 hbt1 HR.out HQ.out).1 hle'.out
            have hv8 : Hid (vl (bs .u32) us7 = X / 2 ^ j % Y) := by
              have := hv7.out
              rw [hv6.out, HVy.out] at this
              rw [hstep.out.2]; exact this
            have hm8 : m7 ≤ q := by
              have := HLen.out us7 hN7 (by rw [hv8.out]; exact Nat.mod_lt _ hy0)
              rw [hD7.len] at this; exact this
            go_wp2_with fail
            go_region
            go_wp2
            go_roundg j
            case measure => have := hg.out; omega
            case rel =>
              have hlt6 := hown6.lt
              have hf8 : ∀ ad, A7 = some ad → w.heap.size < ad.block := fun ad he => by have h1 := hf7.out ad he; rw [show (w6.drewN nd).heap.size = w6.heap.size from rfl] at h1; omega
              rw [show (d : Int) + 2 ^ (j % 32) = ((d + 2 ^ (j % 32) : Nat) : Int) by rw [Int.natCast_add, Int.natCast_pow]; rfl]
              exact ⟨j, cur.set (j / 32) (d + 2 ^ (j % 32)), rfl, by omega, NV.mk ((hD7.far hf8 _ _).drew) hN7 hv8 hm8, show _ = _ by rw [List.length_set]; exact hcl.out, hco.set _ Hset.out.1, (hown7.set_ _ _).drew, show _ = _ by rw [hstep.out.1]; exact Hset.out.2.2, rfl, (hbel7.setCell (Nat.le_refl _) _).drew⟩
          · have ho : ¬ (0 : Int) ≤ ord (2 * R + bt) Y := fun h => hle (ord_nonneg.1 h)
            have hle' := Lib.hid (show 2 * R + bt < Y by omega)
            clear hle
            have hstep : Hid (X / 2 ^ j / Y = 2 * Q ∧ X / 2 ^ j % Y = 2 * R + bt) := by
              show _ ∧ _
              rw [bit_step Hbt.out]
              exact (bit_div hy0 hbt1 HR.out HQ.out).2 hle'.out
            have hv8 := Lib.hid (hv6.out.trans hstep.out.2.symm)
            have hm8 := HLen.out _ (by first | exact hN6 | exact hN4) (by rw [hv8.out]; exact Nat.mod_lt _ hy0)
            rw [hD6.len] at hm8
            go_wp2
            go_roundg j
            case measure => have := hg.out; omega
            case rel =>
              exact ⟨j, cur, rfl, by omega, NV.mk (hD6.drewN nd) (by first | exact hN6 | exact hN4) hv8 hm8, hcl, hco, hown6.drewN nd, show _ = _ by rw [hstep.out.1]; exact nobit hval.out, rfl, bel_drewN hbel6 nd⟩

end Go.Proofs.YtoljffghaklpdaaGreatDoor.Fr


namespace Go.Proofs.YtoljffghaklpdaaGreatDoor.Fr
open Go.RowKit Num

theorem ret_u64 {a b : Int} (h : a = b) : Ending.returned (.int .u64 a) = .returned (.int .u64 b) := by rw [h]
/-- the natural number of an int's size -/
theorem size_any (n : Int) (w : World) (h : -9223372036854775808 ≤ n ∧ n ≤ 9223372036854775807) :
    Calls Tryz.prog 114 #[.int .i64 n] w fun e w' => e = .returned (.int .u64 (n.natAbs : Int)) ∧ w = w' := by
  by_cases h0 : n < 0
  · have hf := Lib.hid (u64_negneg n ⟨h.1, h0⟩)
    go_enter Tryz.func114, Tryz.ntmps114
    go_wp2
    go_ret
    exact ⟨ret_u64 hf.out, rfl⟩
  · have hf := Lib.hid (show n = (n.natAbs : Int) by omega)
    go_enter Tryz.func114, Tryz.ntmps114
    go_wp2
    go_ret
    exact ⟨ret_u64 hf.out, rfl⟩

theorem natural_any (x : Nat) (w : World) (hx : x ≤ 18446744073709551615) :
    Calls Tryz.prog 113 #[.int .u64 (x : Int)] w (RetN .u32 w x 2) := by
  have hD := Dg.lit2 .u32 w 120 (x % 4294967296) (x / 4294967296) (Nat.mod_lt _ (by decide)) (by show _ < 4294967296; omega)
  go_enter Tryz.func113, Tryz.ntmps113
  go_wp2_with fail
  refine (trim_any _ _ _ _ _ hD).mono ?_
  rintro e w' ⟨rfl, rfl⟩
  go_wp2
  go_ret
  exact RetN.tr hD (by simp [vl]; show _ + 4294967296 * _ = _; omega) (Nat.le_refl _) ((Below.refl _ _).alloc (Nat.le_refl _) _)

end Go.Proofs.YtoljffghaklpdaaGreatDoor.Fr


namespace Go.Proofs.YtoljffghaklpdaaGreatDoor.Fr
open Go.RowKit Num

theorem one_is (A : Option Addr) (n c : Nat) (xs : List Nat) (w : World) (h : Dg .u32 w A n c xs) (hn : Nrm xs) (x : Nat) (hx : Hid (vl (bs .u32) xs = x)) (b : Bool) (hb : decide (x = 1) = b) :
    Calls Tryz.prog 161 #[.slice A n c] w fun e w' => e = .returned (.bool b) ∧ w = w' :=
  (one_any A n c xs w h hn).mono fun e w' he => by rw [hx.out, hb] at he; exact he
theorem info_u32' : (Tryz.prog.info? 120).map (fun i => (i.zero, i.size, i.bytes)) = some (some (.int .u32 0), 1, 4) := info_u32

set_option maxHeartbeats 800000 in
set_option maxRecDepth 100000 in
theorem make1_any (neg : Bool) (A A' : Option Addr) (n c n' c' : Nat) (xs ys : List Nat) (w : World) (h : Dg .u32 w A n c xs) (h' : Dg .u32 w A' n' c' ys) (hn : n ≤ 900000) (hn' : n' ≤ 900000) :
    Calls Tryz.prog 112 #[.bool neg, .slice A n c, .slice A' n' c'] w (RetQ w neg (vl (bs .u32) xs) (dn (vl (bs .u32) ys)) (n + n' + 1)) := by
  have k1 := h.tr
  have k2 := h'.tr
  have hNx := nrm_tr xs
  have hNy := nrm_tr ys
  have HVx := Lib.hid (vl_tr (bs .u32) xs)
  have HVy := Lib.hid (vl_tr (bs .u32) ys)
  have hle := len_tl h.len
  have hle' := len_tl h'.len
  obtain ⟨i0, hi, hz0, hz1, hz2⟩ := info_parts info_u32
  go_enter Tryz.func112, Tryz.ntmps112
  have hB0 := Blk.new w 78 #[.bool false, .slice none 0 0, .slice none 0 0]
  have hw0 := (Below.refl w.heap.size w).alloc (Nat.le_refl _) (.cells #[.bool false, .slice none 0 0, .slice none 0 0] 78)
  go_wp2_with fail
  refine (trim_any _ _ _ _ _ (h.alloc _)).mono ?_
  rintro e w' ⟨rfl, rfl⟩
  go_wp2_with fail
  refine (trim_any _ _ _ _ _ (h'.alloc _)).mono ?_
  rintro e w' ⟨rfl, rfl⟩
  clear h h'
  have k1 := k1.alloc (.cells #[.bool false, .slice none 0 0, .slice none 0 0] 78)
  have k2 := k2.alloc (.cells #[.bool false, .slice none 0 0, .slice none 0 0] 78)
  generalize w.alloc (.cells #[.bool false, .slice none 0 0, .slice none 0 0] 78) = w1 at *
  generalize vl (bs .u32) xs = N at *
  generalize vl (bs .u32) ys = D at *
  generalize tr xs = us at *
  generalize tr ys = vs at *
  generalize tl xs = p at *
  generalize tl ys = q at *
  by_cases hp : p = 0
  · subst hp
    have hN0 : N = 0 := by rw [← HVx.out, List.eq_nil_of_length_eq_zero k1.len]; rfl
    have hc0 := hB0.cell 0
    have hc1 := hB0.cell 1
    have hc2 := hB0.cell 2
    have hf0 := hB0.frozen 0
    have hf1 := hB0.frozen 1
    have hf2 := hB0.frozen 2
    subst hN0
    go_wp2
    exact ret_frac rfl rfl (((hB0.set_ 0 (.bool false)).set_ 1 (.slice none 0 0)).set_ 2 (.slice none 0 0)) rfl
      ⟨_, rfl, ⟨_, _, by rw [cneg_zero], by rw [cnum_zero]; exact NV.mk (Dg.nil _ _) Nrm.nil rfl (Nat.zero_le _), by rw [cden_zero]; exact NV.mk (Dg.nil _ _) Nrm.nil rfl (Nat.zero_le _)⟩,
        ((hw0.setCell (p := ⟨w.heap.size, 0, none⟩) (Nat.le_refl _) _).setCell (p := ⟨w.heap.size, 1, none⟩) (Nat.le_refl _) _).setCell (p := ⟨w.heap.size, 2, none⟩) (Nat.le_refl _) _⟩
  · have hp0 : 0 < p := by omega
    have hN0 : 0 < N := by rw [← HVx.out]; exact hNx.pos (by decide) (by rw [k1.len]; exact hp0)
    have hpe : ((p : Int) == 0) = false := by rw [beq_eq_false_iff_ne]; omega
    clear hp
    have hE0 : 0 < dn D := by unfold dn; split <;> omega
    rcases (show q = 0 ∨ 0 < q by omega) with hq | hq
    all_goals
      first
        | (subst hq
           have hHe : Hid (dn D = 1) := by
             have hD0 : D = 0 := by rw [← HVy.out, List.eq_nil_of_length_eq_zero k2.len]; rfl
             rw [hD0]; rfl
           have k2 := (Dg.lit_one w1 120).alloc (.cells #[.int .u32 1] 120)
           have hDg := Dg.lit_one (w1.alloc (.cells #[.int .u32 1] 120)) 120
           rw [show (w1.alloc (.cells #[.int .u32 1] 120)).heap.size = w1.heap.size + 1 from by simp] at hDg
           have hD1 := (k1.alloc (.cells #[.int .u32 1] 120)).alloc (.cells #[.int .u32 1] 120)
           have hB1 := (hB0.alloc (.cells #[.int .u32 1] 120)).alloc (.cells #[.int .u32 1] 120)
           have hw1 := (hw0.alloc hw0.size (.cells #[.int .u32 1] 120)).alloc (by have := hw0.size; simp; omega) (.cells #[.int .u32 1] 120)
           have hNd := nrm_lit1
           have hvd : Hid (vl (bs .u32) [1] = dn D) := by rw [hHe.out]; exact vl_lit1 _
           have hqb : 1 ≤ n' + 1 := by omega
           go_upto_region 7 with fail
           generalize (w1.alloc (.cells #[.int .u32 1] 120)).alloc (.cells #[.int .u32 1] 120) = w2 at *)
        | (have hqe : ((q : Int) == 0) = false := by rw [beq_eq_false_iff_ne]; omega
           have hHe : Hid (dn D = D) := dn_pos (by rw [← HVy.out]; exact hNy.pos (by decide) (by rw [k2.len]; exact hq))
           have k2 := k2.alloc (.cells #[.int .u32 1] 120)
           have hDg := Dg.lit_one w1 120
           have hD1 := k1.alloc (.cells #[.int .u32 1] 120)
           have hB1 := hB0.alloc (.cells #[.int .u32 1] 120)
           have hw1 := hw0.alloc hw0.size (.cells #[.int .u32 1] 120)
           have hNd := hNy
           have hvd : Hid (vl (bs .u32) vs = dn D) := by rw [hHe.out]; exact HVy
           have hqb : q ≤ n' + 1 := by omega
           go_upto_region 7 with fail
           generalize w1.alloc (.cells #[.int .u32 1] 120) = w2 at *
           clear hHe)
    all_goals generalize dn D = E at *
    · have HE1 := hHe
      go_wp2_with fail
      refine (one_is _ _ _ _ _ k2 hNd E hvd true (decide_eq_true HE1.out)).mono ?_
      rintro e w' ⟨rfl, rfl⟩
      go_wp2_with fail
      refine (one_is _ _ _ _ _ hDg nrm_lit1 1 (vl_lit1 _) true rfl).mono ?_
      rintro e w' ⟨rfl, rfl⟩
      go_upto_region 12 with fail
      have hD8 := hD1
      have hN8 := hNx
      have hv8 := HVx
      have hE8 := k2
      have hNE8 := hNd
      have hvE8 := hvd
      have hB8 := hB1
      have hw8 := hw1
      have hlen8 := hp0
      obtain ⟨ad8, rfl, _⟩ := hD8.cell hlen8
      have hnews8 := Lib.hid (hD8.news hlen8)
      have hl8 := Lib.hid hD8.len
      have hlt8 := hB8.lt
      go_wp2_with (at_builtin; refine wpList_append_own _ rfl _ _ 76 rfl (w2).heap.size 120 i0 (.int .u32 0) 1 4 Tryz.underlying76 hi hz0 hz1 hz2 rfl (by decide) _ _ _ rfl (World.ownsRow_nil _ _ _ _) ad8 _ _ (dcs .u32 _) rfl ?c1 hnews8.out (oneCell_dcs _ _) ?c3 ?c4 (Nat.le_refl _) ?_)
      case c1 => rw [dcs_len, hl8.out]; simp
      case c3 => unfold maxLen; omega
      case c4 => omega
      intro v9 w9 hown9 hg9 _
      have hb9 : Below (w2).heap.size (w2) w9 := bel_grown hg9
      obtain ⟨A9, c9, rfl, hD9⟩ := Dg.of_own hown9 hD8.ok
      have hf9 := Lib.hid (own_fresh hown9)
      have hB9 := hB8.below hb9
      have hE9 := hE8.below hb9
      have hw9 := hw8.trans (hb9.mono hw8.size)
      clear hown9 hg9 hb9 hnews8
      have hBo := Blk.new w9 78 #[.bool neg, .slice A9 p c9, .slice none 0 0]
      have hB9 := hB9.alloc (.cells #[.bool neg, .slice A9 p c9, .slice none 0 0] 78)
      have hD9 := hD9.alloc (.cells #[.bool neg, .slice A9 p c9, .slice none 0 0] 78)
      have hE9 := hE9.alloc (.cells #[.bool neg, .slice A9 p c9, .slice none 0 0] 78)
      have hw9 := hw9.alloc hw9.size (.cells #[.bool neg, .slice A9 p c9, .slice none 0 0] 78)
      go_wp2_with fail
      generalize w9.alloc (.cells #[.bool neg, .slice A9 p c9, .slice none 0 0] 78) = w10 at *
      refine (one_is _ _ _ _ _ hE9 hNE8 _ hvE8 true (decide_eq_true (by exact HE1.out))).mono ?_
      rintro e w' ⟨rfl, rfl⟩
      have c0 := hB9.cell 0
      have c1 := hB9.cell 1
      have c2 := hB9.cell 2
      have f0 := hB9.frozen 0
      have f1 := hB9.frozen 1
      have f2 := hB9.frozen 2
      have o0 : w10.cell? ⟨w9.heap.size, 0, none⟩ = some (.bool neg) := hBo.cell 0
      have o1 : w10.cell? ⟨w9.heap.size, 1, none⟩ = some (.slice A9 p c9) := hBo.cell 1
      have o2 : w10.cell? ⟨w9.heap.size, 2, none⟩ = some (.slice none 0 0) := hBo.cell 2
      have hff : ∀ ad, A9 = some ad → w.heap.size < ad.block := fun ad he => Nat.lt_of_lt_of_le hlt8 (hf9.out ad he)
      have Hff := Lib.hid hff
      clear hff
      go_wp2
      exact ret_frac rfl rfl (((hB9.set_ 0 (.bool neg)).set_ 1 (.slice A9 p c9)).set_ 2 (.slice none 0 0)) rfl
        ⟨_, rfl, ⟨_, _, by rw [cneg_pos _ hN0], nv_far3 hD9 hN8 (by show _ = _; unfold cnum; rw [HE1.out, Nat.gcd_one_right, Nat.div_one]; exact hv8.out) (by omega) Hff.out _ _ _, by rw [cden_one hN0 (by rw [HE1.out]; simp)]; exact NV.mk (Dg.nil _ _) Nrm.nil rfl (Nat.zero_le _)⟩, bel_set3 hw9 (Nat.le_refl _) _ _ _⟩
    · by_cases hE1 : E = 1
      · have HE1 := Lib.hid hE1
        clear hE1
        go_wp2_with fail
        refine (one_is _ _ _ _ _ k2 hNd E hvd true (decide_eq_true HE1.out)).mono ?_
        rintro e w' ⟨rfl, rfl⟩
        go_wp2_with fail
        refine (one_is _ _ _ _ _ hDg nrm_lit1 1 (vl_lit1 _) true rfl).mono ?_
        rintro e w' ⟨rfl, rfl⟩
        go_upto_region 12 with fail
        have hD8 := hD1
        have hN8 := hNx
        have hv8 := HVx
        have hE8 := k2
        have hNE8 := hNd
        have hvE8 := hvd
        have hB8 := hB1
        have hw8 := hw1
        have hlen8 := hp0
        obtain ⟨ad8, rfl, _⟩ := hD8.cell hlen8
        have hnews8 := Lib.hid (hD8.news hlen8)
        have hl8 := Lib.hid hD8.len
        have hlt8 := hB8.lt
        go_wp2_with (at_builtin; refine wpList_append_own _ rfl _ _ 76 rfl (w2).heap.size 120 i0 (.int .u32 0) 1 4 Tryz.underlying76 hi hz0 hz1 hz2 rfl (by decide) _ _ _ rfl (World.ownsRow_nil _ _ _ _) ad8 _ _ (dcs .u32 _) rfl ?c1 hnews8.out (oneCell_dcs _ _) ?c3 ?c4 (Nat.le_refl _) ?_)
        case c1 => rw [dcs_len, hl8.out]; simp
        case c3 => unfold maxLen; omega
        case c4 => omega
        intro v9 w9 hown9 hg9 _
        have hb9 : Below (w2).heap.size (w2) w9 := bel_grown hg9
        obtain ⟨A9, c9, rfl, hD9⟩ := Dg.of_own hown9 hD8.ok
        have hf9 := Lib.hid (own_fresh hown9)
        have hB9 := hB8.below hb9
        have hE9 := hE8.below hb9
        have hw9 := hw8.trans (hb9.mono hw8.size)
        clear hown9 hg9 hb9 hnews8
        have hBo := Blk.new w9 78 #[.bool neg, .slice A9 p c9, .slice none 0 0]
        have hB9 := hB9.alloc (.cells #[.bool neg, .slice A9 p c9, .slice none 0 0] 78)
        have hD9 := hD9.alloc (.cells #[.bool neg, .slice A9 p c9, .slice none 0 0] 78)
        have hE9 := hE9.alloc (.cells #[.bool neg, .slice A9 p c9, .slice none 0 0] 78)
        have hw9 := hw9.alloc hw9.size (.cells #[.bool neg, .slice A9 p c9, .slice none 0 0] 78)
        go_wp2_with fail
        generalize w9.alloc (.cells #[.bool neg, .slice A9 p c9, .slice none 0 0] 78) = w10 at *
        refine (one_is _ _ _ _ _ hE9 hNE8 _ hvE8 true (decide_eq_true (by exact HE1.out))).mono ?_
        rintro e w' ⟨rfl, rfl⟩
        have c0 := hB9.cell 0
        have c1 := hB9.cell 1
        have c2 := hB9.cell 2
        have f0 := hB9.frozen 0
        have f1 := hB9.frozen 1
        have f2 := hB9.frozen 2
        have o0 : w10.cell? ⟨w9.heap.size, 0, none⟩ = some (.bool neg) := hBo.cell 0
        have o1 : w10.cell? ⟨w9.heap.size, 1, none⟩ = some (.slice A9 p c9) := hBo.cell 1
        have o2 : w10.cell? ⟨w9.heap.size, 2, none⟩ = some (.slice none 0 0) := hBo.cell 2
        have hff : ∀ ad, A9 = some ad → w.heap.size < ad.block := fun ad he => Nat.lt_of_lt_of_le hlt8 (hf9.out ad he)
        have Hff := Lib.hid hff
        clear hff
        go_wp2
        exact ret_frac rfl rfl (((hB9.set_ 0 (.bool neg)).set_ 1 (.slice A9 p c9)).set_ 2 (.slice none 0 0)) rfl
          ⟨_, rfl, ⟨_, _, by rw [cneg_pos _ hN0], nv_far3 hD9 hN8 (by show _ = _; unfold cnum; rw [HE1.out, Nat.gcd_one_right, Nat.div_one]; exact hv8.out) (by omega) Hff.out _ _ _, by rw [cden_one hN0 (by rw [HE1.out]; simp)]; exact NV.mk (Dg.nil _ _) Nrm.nil rfl (Nat.zero_le _)⟩, bel_set3 hw9 (Nat.le_refl _) _ _ _⟩
      · have HE1 := Lib.hid hE1
        clear hE1
        go_wp2_with fail
        refine (one_is _ _ _ _ _ k2 hNd E hvd false (decide_eq_false HE1.out)).mono ?_
        rintro e w' ⟨rfl, rfl⟩
        by_cases hN1 : N = 1
        · have HN1 := Lib.hid hN1
          clear hN1
          go_wp2_with fail
          refine (one_is _ _ _ _ _ hD1 hNx N HVx true (decide_eq_true HN1.out)).mono ?_
          rintro e w' ⟨rfl, rfl⟩
          go_wp2_with fail
          refine (one_is _ _ _ _ _ hDg nrm_lit1 1 (vl_lit1 _) true rfl).mono ?_
          rintro e w' ⟨rfl, rfl⟩
          go_upto_region 12 with fail
          have hD8 := hD1
          have hN8 := hNx
          have hv8 := HVx
          have hE8 := k2
          have hNE8 := hNd
          have hvE8 := hvd
          have hB8 := hB1
          have hw8 := hw1
          have hlen8 := hp0
          obtain ⟨ad8, rfl, _⟩ := hD8.cell hlen8
          have hnews8 := Lib.hid (hD8.news hlen8)
          have hl8 := Lib.hid hD8.len
          have hlt8 := hB8.lt
          go_wp2_with (at_builtin; refine wpList_append_own _ rfl _ _ 76 rfl (w2).heap.size 120 i0 (.int .u32 0) 1 4 Tryz.underlying76 hi hz0 hz1 hz2 rfl (by decide) _ _ _ rfl (World.ownsRow_nil _ _ _ _) ad8 _ _ (dcs .u32 _) rfl ?c1 hnews8.out (oneCell_dcs _ _) ?c3 ?c4 (Nat.le_refl _) ?_)
          case c1 => rw [dcs_len, hl8.out]; simp
          case c3 => unfold maxLen; omega
          case c4 => omega
          intro v9 w9 hown9 hg9 _
          have hb9 : Below (w2).heap.size (w2) w9 := bel_grown hg9
          obtain ⟨A9, c9, rfl, hD9⟩ := Dg.of_own hown9 hD8.ok
          have hf9 := Lib.hid (own_fresh hown9)
          have hB9 := hB8.below hb9
          have hE9 := hE8.below hb9
          have hw9 := hw8.trans (hb9.mono hw8.size)
          have hb9s := Lib.hid hb9.size
          clear hown9 hg9 hb9 hnews8
          have hBo := Blk.new w9 78 #[.bool neg, .slice A9 p c9, .slice none 0 0]
          have hB9 := hB9.alloc (.cells #[.bool neg, .slice A9 p c9, .slice none 0 0] 78)
          have hn9 := Lib.hid (hD9.blt hlen8)
          have hD9 := hD9.alloc (.cells #[.bool neg, .slice A9 p c9, .slice none 0 0] 78)
          have hE9 := hE9.alloc (.cells #[.bool neg, .slice A9 p c9, .slice none 0 0] 78)
          have hlt9 : w.heap.size < w9.heap.size := Nat.lt_of_lt_of_le hlt8 (hb9s.out)
          have hw9 := hw9.alloc hw9.size (.cells #[.bool neg, .slice A9 p c9, .slice none 0 0] 78)
          go_wp2_with fail
          generalize w9.alloc (.cells #[.bool neg, .slice A9 p c9, .slice none 0 0] 78) = w10 at *
          have hlt10 := hBo.lt
          refine (one_is _ _ _ _ _ hE9 hNE8 _ hvE8 false (decide_eq_false (by exact HE1.out))).mono ?_
          rintro e w' ⟨rfl, rfl⟩
          have hq8 := nz_len (show 0 < vl (bs .u32) _ by rw [hvE8.out]; exact hE0)
          rw [hE9.len] at hq8
          obtain ⟨ad10, rfl, _⟩ := hE9.cell hq8
          have hnews10 := Lib.hid (hE9.news hq8)
          have hl10 := Lib.hid hE9.len
          go_wp2_with (at_builtin; refine wpList_append_own _ rfl _ _ 76 rfl w10.heap.size 120 i0 (.int .u32 0) 1 4 Tryz.underlying76 hi hz0 hz1 hz2 rfl (by decide) _ _ _ rfl (World.ownsRow_nil _ _ _ _) ad10 _ _ (dcs .u32 _) rfl ?c6 hnews10.out (oneCell_dcs _ _) ?c7 ?c8 (Nat.le_refl _) ?_)
          case c6 => rw [dcs_len, hl10.out]; simp
          case c7 => unfold maxLen; omega
          case c8 => omega
          intro v11 w11 hown11 hg11 _
          have hb11 : Below w10.heap.size w10 w11 := bel_grown hg11
          obtain ⟨A11, c11, rfl, hD11⟩ := Dg.of_own hown11 hE9.ok
          have hf11 := Lib.hid (own_fresh hown11)
          have hB11 := hB9.below hb11
          have hBo11 := hBo.below hb11
          have hD9 := hD9.below hb11
          have hw11 := hw9.trans (hb11.mono hw9.size)
          clear hown11 hg11 hnews10
          have c0 := hB11.cell 0
          have c1 := hB11.cell 1
          have c2 := hB11.cell 2
          have f0 := hB11.frozen 0
          have f1 := hB11.frozen 1
          have f2 := hB11.frozen 2
          have o0 : w11.cell? ⟨w9.heap.size, 0, none⟩ = some (.bool neg) := hBo11.cell 0
          have o1 : w11.cell? ⟨w9.heap.size, 1, none⟩ = some (.slice A9 p c9) := hBo11.cell 1
          have o2 : w11.cell? ⟨w9.heap.size, 2, none⟩ = some (.slice none 0 0) := hBo11.cell 2
          have fo2 := hBo11.frozen 2
          have hne9 : w.heap.size ≠ w9.heap.size := by omega
          have Hff := Lib.hid (show ∀ ad, A9 = some ad → w.heap.size < ad.block from fun ad he => Nat.lt_of_lt_of_le hlt8 (hf9.out ad he))
          have Hf11 := Lib.hid (show ∀ ad, A11 = some ad → w9.heap.size < ad.block ∧ w.heap.size < ad.block from fun ad he => by have := hf11.out ad he; omega)
          go_wp2
          exact ret_frac rfl rfl ((((hB11.far (p := ⟨w9.heap.size, 2, none⟩) hne9 _).set_ 0 (.bool neg)).set_ 1 (.slice A9 p c9)).set_ 2 _) rfl
            ⟨_, rfl, ⟨_, _, by rw [cneg_pos _ hN0], nv_far3 (hD9.farn (fun ad he => by have := hn9.out ad he; omega) 2 _) hN8 (by show _ = _; unfold cnum; rw [HN1.out, Nat.gcd_one_left, Nat.div_one, ← HN1.out]; exact hv8.out) (by omega) Hff.out _ _ _, nv_far3 (hD11.far (fun ad he => (Hf11.out ad he).1) 2 _) hNE8 (by show _ = _; rw [cden_not hN0 (by rw [HN1.out, Nat.gcd_one_left, Nat.div_one]; exact HE1.out), HN1.out, Nat.gcd_one_left, Nat.div_one]; exact hvE8.out) (by omega) (fun ad he => (Hf11.out ad he).2) _ _ _⟩, bel_set3 (hw11.setCell (p := ⟨w9.heap.size, 2, none⟩) (by show _ ≤ w9.heap.size; omega) _) (Nat.le_refl _) _ _ _⟩
        · have HN1 := Lib.hid hN1
          clear hN1
          go_wp2_with fail
          refine (one_is _ _ _ _ _ hD1 hNx N HVx false (decide_eq_false HN1.out)).mono ?_
          rintro e w' ⟨rfl, rfl⟩
          go_wp2_with fail
          refine (gcd_any _ _ _ _ _ _ _ _ _ hD1 k2 hNx hNd (by omega) (by omega) (by rw [HVx.out]; exact hN0) (by rw [hvd.out]; exact hE0)).mono ?_
          rintro e w3 ⟨A3, m3, c3, us3, rfl, hD3, hN3, hv3, hm3, hb3⟩
          rw [HVx.out, hvd.out] at hv3
          by_cases hG1 : N.gcd E = 1
          · have HG1 := Lib.hid hG1
            clear hG1
            go_wp2_with fail
            refine (one_is _ _ _ _ _ hD3 hN3 _ hv3 true (decide_eq_true HG1.out)).mono ?_
            rintro e w' ⟨rfl, rfl⟩
            go_upto_region 12 with fail
            have hD8 := hD1.below hb3
            have hN8 := hNx
            have hv8 := HVx
            have hE8 := k2.below hb3
            have hNE8 := hNd
            have hvE8 := hvd
            have hB8 := hB1.below hb3
            have hw8 := hw1.trans (hb3.mono hw1.size)
            have hlen8 := hp0
            obtain ⟨ad8, rfl, _⟩ := hD8.cell hlen8
            have hnews8 := Lib.hid (hD8.news hlen8)
            have hl8 := Lib.hid hD8.len
            have hlt8 := hB8.lt
            go_wp2_with (at_builtin; refine wpList_append_own _ rfl _ _ 76 rfl (w3).heap.size 120 i0 (.int .u32 0) 1 4 Tryz.underlying76 hi hz0 hz1 hz2 rfl (by decide) _ _ _ rfl (World.ownsRow_nil _ _ _ _) ad8 _ _ (dcs .u32 _) rfl ?c1 hnews8.out (oneCell_dcs _ _) ?c3 ?c4 (Nat.le_refl _) ?_)
            case c1 => rw [dcs_len, hl8.out]; simp
            case c3 => unfold maxLen; omega
            case c4 => omega
            intro v9 w9 hown9 hg9 _
            have hb9 : Below (w3).heap.size (w3) w9 := bel_grown hg9
            obtain ⟨A9, c9, rfl, hD9⟩ := Dg.of_own hown9 hD8.ok
            have hf9 := Lib.hid (own_fresh hown9)
            have hB9 := hB8.below hb9
            have hE9 := hE8.below hb9
            have hw9 := hw8.trans (hb9.mono hw8.size)
            have hb9s := Lib.hid hb9.size
            clear hown9 hg9 hb9 hnews8
            have hBo := Blk.new w9 78 #[.bool neg, .slice A9 p c9, .slice none 0 0]
            have hB9 := hB9.alloc (.cells #[.bool neg, .slice A9 p c9, .slice none 0 0] 78)
            have hn9 := Lib.hid (hD9.blt hlen8)
            have hD9 := hD9.alloc (.cells #[.bool neg, .slice A9 p c9, .slice none 0 0] 78)
            have hE9 := hE9.alloc (.cells #[.bool neg, .slice A9 p c9, .slice none 0 0] 78)
            have hlt9 : w.heap.size < w9.heap.size := Nat.lt_of_lt_of_le hlt8 (hb9s.out)
            have hw9 := hw9.alloc hw9.size (.cells #[.bool neg, .slice A9 p c9, .slice none 0 0] 78)
            go_wp2_with fail
            generalize w9.alloc (.cells #[.bool neg, .slice A9 p c9, .slice none 0 0] 78) = w10 at *
            have hlt10 := hBo.lt
            refine (one_is _ _ _ _ _ hE9 hNE8 _ hvE8 false (decide_eq_false (by exact HE1.out))).mono ?_
            rintro e w' ⟨rfl, rfl⟩
            have hq8 := nz_len (show 0 < vl (bs .u32) _ by rw [hvE8.out]; exact hE0)
            rw [hE9.len] at hq8
            obtain ⟨ad10, rfl, _⟩ := hE9.cell hq8
            have hnews10 := Lib.hid (hE9.news hq8)
            have hl10 := Lib.hid hE9.len
            go_wp2_with (at_builtin; refine wpList_append_own _ rfl _ _ 76 rfl w10.heap.size 120 i0 (.int .u32 0) 1 4 Tryz.underlying76 hi hz0 hz1 hz2 rfl (by decide) _ _ _ rfl (World.ownsRow_nil _ _ _ _) ad10 _ _ (dcs .u32 _) rfl ?c6 hnews10.out (oneCell_dcs _ _) ?c7 ?c8 (Nat.le_refl _) ?_)
            case c6 => rw [dcs_len, hl10.out]; simp
            case c7 => unfold maxLen; omega
            case c8 => omega
            intro v11 w11 hown11 hg11 _
            have hb11 : Below w10.heap.size w10 w11 := bel_grown hg11
            obtain ⟨A11, c11, rfl, hD11⟩ := Dg.of_own hown11 hE9.ok
            have hf11 := Lib.hid (own_fresh hown11)
            have hB11 := hB9.below hb11
            have hBo11 := hBo.below hb11
            have hD9 := hD9.below hb11
            have hw11 := hw9.trans (hb11.mono hw9.size)
            clear hown11 hg11 hnews10
            have c0 := hB11.cell 0
            have c1 := hB11.cell 1
            have c2 := hB11.cell 2
            have f0 := hB11.frozen 0
            have f1 := hB11.frozen 1
            have f2 := hB11.frozen 2
            have o0 : w11.cell? ⟨w9.heap.size, 0, none⟩ = some (.bool neg) := hBo11.cell 0
            have o1 : w11.cell? ⟨w9.heap.size, 1, none⟩ = some (.slice A9 p c9) := hBo11.cell 1
            have o2 : w11.cell? ⟨w9.heap.size, 2, none⟩ = some (.slice none 0 0) := hBo11.cell 2
            have fo2 := hBo11.frozen 2
            have hne9 : w.heap.size ≠ w9.heap.size := by omega
            have Hff := Lib.hid (show ∀ ad, A9 = some ad → w.heap.size < ad.block from fun ad he => Nat.lt_of_lt_of_le hlt8 (hf9.out ad he))
            have Hf11 := Lib.hid (show ∀ ad, A11 = some ad → w9.heap.size < ad.block ∧ w.heap.size < ad.block from fun ad he => by have := hf11.out ad he; omega)
            go_wp2
            exact ret_frac rfl rfl ((((hB11.far (p := ⟨w9.heap.size, 2, none⟩) hne9 _).set_ 0 (.bool neg)).set_ 1 (.slice A9 p c9)).set_ 2 _) rfl
              ⟨_, rfl, ⟨_, _, by rw [cneg_pos _ hN0], nv_far3 (hD9.farn (fun ad he => by have := hn9.out ad he; omega) 2 _) hN8 (by show _ = _; unfold cnum; rw [HG1.out, Nat.div_one]; exact hv8.out) (by omega) Hff.out _ _ _, nv_far3 (hD11.far (fun ad he => (Hf11.out ad he).1) 2 _) hNE8 (by show _ = _; rw [cden_not hN0 (by rw [HG1.out, Nat.div_one]; exact HE1.out), HG1.out, Nat.div_one]; exact hvE8.out) (by omega) (fun ad he => (Hf11.out ad he).2) _ _ _⟩, bel_set3 (hw11.setCell (p := ⟨w9.heap.size, 2, none⟩) (by show _ ≤ w9.heap.size; omega) _) (Nat.le_refl _) _ _ _⟩
          · have HG1 := Lib.hid hG1
            clear hG1
            go_wp2_with fail
            refine (one_is _ _ _ _ _ hD3 hN3 _ hv3 false (decide_eq_false HG1.out)).mono ?_
            rintro e w' ⟨rfl, rfl⟩
            go_wp2_with fail
            refine (divide_any _ _ _ _ _ _ _ _ _ (hD1.below hb3) hD3 (by omega) (by omega) (by rw [hv3.out]; exact Nat.gcd_pos_of_pos_left _ hN0)).mono ?_
            rintro e w4 ⟨_, _, rfl, ⟨A4, m4, c4, us4, rfl, hD4, hN4, hv4, hm4⟩, ⟨A4', m4', c4', us4', rfl, hD4', hN4', hv4', hm4'⟩, hb4⟩
            rw [HVx.out, hv3.out] at hv4
            clear hD4' hN4' hv4'
            go_wp2_with fail
            refine (divide_any _ _ _ _ _ _ _ _ _ ((k2.below hb3).below hb4) (hD3.below hb4) (by omega) (by omega) (by rw [hv3.out]; exact Nat.gcd_pos_of_pos_left _ hN0)).mono ?_
            rintro e w5 ⟨_, _, rfl, ⟨A5, m5, c5, us5, rfl, hD5, hN5, hv5, hm5⟩, ⟨A5', m5', c5', us5', rfl, hD5', hN5', hv5', hm5'⟩, hb5⟩
            rw [hvd.out, hv3.out] at hv5
            clear hD5' hN5' hv5'
            have hB5 := ((hB1.below hb3).below hb4).below hb5
            have hw4 := (hw1.trans (hb3.mono hw1.size)).trans (hb4.mono (Nat.le_trans hw1.size hb3.size))
            have hw5 := hw4.trans (hb5.mono hw4.size)
            have hlen8 := nz_len (show 0 < vl (bs .u32) us4 by rw [hv4.out]; exact gcd_div_pos' hN0)
            rw [hD4.len] at hlen8
            go_upto_region 12 with fail
            have hD8 := hD4.below hb5
            have hN8 := hN4
            have hv8 := (show Hid (vl (bs .u32) us4 = cnum N E) from hv4)
            have hE8 := hD5
            have hNE8 := hN5
            have hvE8 := hv5
            have hB8 := hB5
            have hw8 := hw5
            obtain ⟨ad8, rfl, _⟩ := hD8.cell hlen8
            have hnews8 := Lib.hid (hD8.news hlen8)
            have hl8 := Lib.hid hD8.len
            have hlt8 := hB8.lt
            go_wp2_with (at_builtin; refine wpList_append_own _ rfl _ _ 76 rfl (w5).heap.size 120 i0 (.int .u32 0) 1 4 Tryz.underlying76 hi hz0 hz1 hz2 rfl (by decide) _ _ _ rfl (World.ownsRow_nil _ _ _ _) ad8 _ _ (dcs .u32 _) rfl ?c1 hnews8.out (oneCell_dcs _ _) ?c3 ?c4 (Nat.le_refl _) ?_)
            case c1 => rw [dcs_len, hl8.out]; simp
            case c3 => unfold maxLen; omega
            case c4 => omega
            intro v9 w9 hown9 hg9 _
            have hb9 : Below (w5).heap.size (w5) w9 := bel_grown hg9
            obtain ⟨A9, c9, rfl, hD9⟩ := Dg.of_own hown9 hD8.ok
            have hf9 := Lib.hid (own_fresh hown9)
            have hB9 := hB8.below hb9
            have hE9 := hE8.below hb9
            have hw9 := hw8.trans (hb9.mono hw8.size)
            have hb9s := Lib.hid hb9.size
            clear hown9 hg9 hb9 hnews8
            by_cases hK : E / N.gcd E = 1
            · have HK := Lib.hid hK
              clear hK
              have hBo := Blk.new w9 78 #[.bool neg, .slice A9 m4 c9, .slice none 0 0]
              have hB9 := hB9.alloc (.cells #[.bool neg, .slice A9 m4 c9, .slice none 0 0] 78)
              have hD9 := hD9.alloc (.cells #[.bool neg, .slice A9 m4 c9, .slice none 0 0] 78)
              have hE9 := hE9.alloc (.cells #[.bool neg, .slice A9 m4 c9, .slice none 0 0] 78)
              have hw9 := hw9.alloc hw9.size (.cells #[.bool neg, .slice A9 m4 c9, .slice none 0 0] 78)
              go_wp2_with fail
              generalize w9.alloc (.cells #[.bool neg, .slice A9 m4 c9, .slice none 0 0] 78) = w10 at *
              refine (one_is _ _ _ _ _ hE9 hNE8 _ hvE8 true (decide_eq_true (by exact HK.out))).mono ?_
              rintro e w' ⟨rfl, rfl⟩
              have c0 := hB9.cell 0
              have c1 := hB9.cell 1
              have c2 := hB9.cell 2
              have f0 := hB9.frozen 0
              have f1 := hB9.frozen 1
              have f2 := hB9.frozen 2
              have o0 : w10.cell? ⟨w9.heap.size, 0, none⟩ = some (.bool neg) := hBo.cell 0
              have o1 : w10.cell? ⟨w9.heap.size, 1, none⟩ = some (.slice A9 m4 c9) := hBo.cell 1
              have o2 : w10.cell? ⟨w9.heap.size, 2, none⟩ = some (.slice none 0 0) := hBo.cell 2
              have hff : ∀ ad, A9 = some ad → w.heap.size < ad.block := fun ad he => Nat.lt_of_lt_of_le hlt8 (hf9.out ad he)
              have Hff := Lib.hid hff
              clear hff
              go_wp2
              exact ret_frac rfl rfl (((hB9.set_ 0 (.bool neg)).set_ 1 (.slice A9 m4 c9)).set_ 2 (.slice none 0 0)) rfl
                ⟨_, rfl, ⟨_, _, by rw [cneg_pos _ hN0], nv_far3 hD9 hN8 (by exact hv8) (by omega) Hff.out _ _ _, by rw [cden_one hN0 HK.out]; exact NV.mk (Dg.nil _ _) Nrm.nil rfl (Nat.zero_le _)⟩, bel_set3 hw9 (Nat.le_refl _) _ _ _⟩
            · have HK := Lib.hid hK
              clear hK
              have hBo := Blk.new w9 78 #[.bool neg, .slice A9 m4 c9, .slice none 0 0]
              have hB9 := hB9.alloc (.cells #[.bool neg, .slice A9 m4 c9, .slice none 0 0] 78)
              have hn9 := Lib.hid (hD9.blt hlen8)
              have hD9 := hD9.alloc (.cells #[.bool neg, .slice A9 m4 c9, .slice none 0 0] 78)
              have hE9 := hE9.alloc (.cells #[.bool neg, .slice A9 m4 c9, .slice none 0 0] 78)
              have hlt9 : w.heap.size < w9.heap.size := Nat.lt_of_lt_of_le hlt8 (hb9s.out)
              have hw9 := hw9.alloc hw9.size (.cells #[.bool neg, .slice A9 m4 c9, .slice none 0 0] 78)
              go_wp2_with fail
              generalize w9.alloc (.cells #[.bool neg, .slice A9 m4 c9, .slice none 0 0] 78) = w10 at *
              have hlt10 := hBo.lt
              refine (one_is _ _ _ _ _ hE9 hNE8 _ hvE8 false (decide_eq_false (by exact HK.out))).mono ?_
              rintro e w' ⟨rfl, rfl⟩
              have hq8 := nz_len (show 0 < vl (bs .u32) _ by rw [hvE8.out]; exact gcd_div_pos hE0)
              rw [hE9.len] at hq8
              obtain ⟨ad10, rfl, _⟩ := hE9.cell hq8
              have hnews10 := Lib.hid (hE9.news hq8)
              have hl10 := Lib.hid hE9.len
              go_wp2_with (at_builtin; refine wpList_append_own _ rfl _ _ 76 rfl w10.heap.size 120 i0 (.int .u32 0) 1 4 Tryz.underlying76 hi hz0 hz1 hz2 rfl (by decide) _ _ _ rfl (World.ownsRow_nil _ _ _ _) ad10 _ _ (dcs .u32 _) rfl ?c6 hnews10.out (oneCell_dcs _ _) ?c7 ?c8 (Nat.le_refl _) ?_)
              case c6 => rw [dcs_len, hl10.out]; simp
              case c7 => unfold maxLen; omega
              case c8 => omega
              intro v11 w11 hown11 hg11 _
              have hb11 : Below w10.heap.size w10 w11 := bel_grown hg11
              obtain ⟨A11, c11, rfl, hD11⟩ := Dg.of_own hown11 hE9.ok
              have hf11 := Lib.hid (own_fresh hown11)
              have hB11 := hB9.below hb11
              have hBo11 := hBo.below hb11
              have hD9 := hD9.below hb11
              have hw11 := hw9.trans (hb11.mono hw9.size)
              clear hown11 hg11 hnews10
              have c0 := hB11.cell 0
              have c1 := hB11.cell 1
              have c2 := hB11.cell 2
              have f0 := hB11.frozen 0
              have f1 := hB11.frozen 1
              have f2 := hB11.frozen 2
              have o0 : w11.cell? ⟨w9.heap.size, 0, none⟩ = some (.bool neg) := hBo11.cell 0
              have o1 : w11.cell? ⟨w9.heap.size, 1, none⟩ = some (.slice A9 m4 c9) := hBo11.cell 1
              have o2 : w11.cell? ⟨w9.heap.size, 2, none⟩ = some (.slice none 0 0) := hBo11.cell 2
              have fo2 := hBo11.frozen 2
              have hne9 : w.heap.size ≠ w9.heap.size := by omega
              have Hff := Lib.hid (show ∀ ad, A9 = some ad → w.heap.size < ad.block from fun ad he => Nat.lt_of_lt_of_le hlt8 (hf9.out ad he))
              have Hf11 := Lib.hid (show ∀ ad, A11 = some ad → w9.heap.size < ad.block ∧ w.heap.size < ad.block from fun ad he => by have := hf11.out ad he; omega)
              go_wp2
              exact ret_frac rfl rfl ((((hB11.far (p := ⟨w9.heap.size, 2, none⟩) hne9 _).set_ 0 (.bool neg)).set_ 1 (.slice A9 m4 c9)).set_ 2 _) rfl
                ⟨_, rfl, ⟨_, _, by rw [cneg_pos _ hN0], nv_far3 (hD9.farn (fun ad he => by have := hn9.out ad he; omega) 2 _) hN8 (by exact hv8) (by omega) Hff.out _ _ _, nv_far3 (hD11.far (fun ad he => (Hf11.out ad he).1) 2 _) hNE8 (by show _ = _; rw [cden_not hN0 HK.out]; exact hvE8.out) (by omega) (fun ad he => (Hf11.out ad he).2) _ _ _⟩, bel_set3 (hw11.setCell (p := ⟨w9.heap.size, 2, none⟩) (by show _ ≤ w9.heap.size; omega) _) (Nat.le_refl _) _ _ _⟩
end Go.Proofs.YtoljffghaklpdaaGreatDoor.Fr


namespace Go.Proofs.YtoljffghaklpdaaGreatDoor.Fr
open Go.RowKit Num

theorem Dg.nob32 {k : IntKind} {w : World} {A : Option Addr} {n c : Nat} {xs : List Nat} (h : Dg k w A n c xs) {g : Nat} {t : TypeId} {a : Bool} {p1 q1 : Option Addr} {p2 p3 q2 q3 : Nat}
    (hB : Blk w g t #[.bool a, .slice p1 p2 p3, .slice q1 q2 q3]) : 0 < n → ∀ ad, A = some ad → ad.block ≠ g := by
  intro hp ad he hg
  obtain ⟨ad', x, e2, hc, _⟩ := h.at_ hp
  rw [he] at e2
  injection e2 with e2
  subst e2
  unfold Blk at hB
  rw [← hg] at hB
  rw [show ad.add 0 = ad from rfl] at hc
  simp only [World.cell?, hB] at hc
  have h3 : ∀ i : Nat, ∀ v, (#[Value.bool a, .slice p1 p2 p3, .slice q1 q2 q3] : Array Value)[i]? = some v → (∃ b, v = .bool b) ∨ ∃ x y z, v = .slice x y z := by
    intro i v hv
    match i, hv with
    | 0, hv => simp at hv; exact .inl ⟨_, hv.symm⟩
    | 1, hv => simp at hv; exact .inr ⟨_, _, _, hv.symm⟩
    | 2, hv => simp at hv; exact .inr ⟨_, _, _, hv.symm⟩
    | (i + 3), hv => simp at hv
  split at hc
  · cases hc
  · rcases h3 _ _ hc with ⟨b, hv⟩ | ⟨x1, y1, z1, hv⟩ <;> cases hv
theorem nv_le {k : IntKind} {w : World} {v : Value} {x L L' : Nat} (h : NV k w v x L) (hl : L ≤ L') : NV k w v x L' := by
  obtain ⟨A, m, c, us, e, hD, h1, h2, h3⟩ := h
  exact ⟨A, m, c, us, e, hD, h1, h2, Nat.le_trans h3 hl⟩
theorem nv_set3_32 {k : IntKind} {w : World} {v : Value} {x L : Nat} (h : NV k w v x L) {g : Nat} {t : TypeId} {a : Bool} {p1 q1 : Option Addr} {p2 p3 q2 q3 : Nat} (hB : Blk w g t #[.bool a, .slice p1 p2 p3, .slice q1 q2 q3]) (x1 x2 x3 : Value) :
    NV k (((w.setCell ⟨g, 0, none⟩ x1).setCell ⟨g, 1, none⟩ x2).setCell ⟨g, 2, none⟩ x3) v x L := by
  obtain ⟨A, m, c, us, e, hD, h1, h2, h3⟩ := h
  have hn := hD.nob32 hB
  have st : ∀ {w' : World} (i : Nat) (u : Value), Dg k w' A m c us → Dg k (w'.setCell ⟨g, i, none⟩ u) A m c us := fun i u hd =>
    ⟨hd.len, hd.cap, hd.top, hd.ok, fun hp => by
      obtain ⟨ad, e, hc⟩ := hd.cell hp
      refine ⟨ad, e, fun j x hx => ?_⟩
      rw [World.cell?_setCell_other _ _ _ u (fun e2 => by have h2 := congrArg Addr.block e2; rw [block_of_add] at h2; exact hn hp ad e h2.symm)]
      exact hc j x hx⟩
  exact ⟨A, m, c, us, e, st 2 _ (st 1 _ (st 0 _ hD)), h1, h2, h3⟩

end Go.Proofs.YtoljffghaklpdaaGreatDoor.Fr


/- The document's numbers: whole numbers alone. -/
namespace Go.Proofs.YtoljffghaklpdaaGreatDoor.Fr
open Go.RowKit Num

theorem cnum_one (X : Nat) : cnum X 1 = X := by unfold cnum; rw [Nat.gcd_one_right, Nat.div_one]
theorem cden_whole (X : Nat) : cden X 1 = 0 := by
  unfold cden
  rw [Nat.gcd_one_right]
  split
  · rfl
  · rfl
/-- a value that is a whole number with a sign -/
def IV (w : World) (v : Value) (neg : Bool) (X L : Nat) : Prop := FV w v neg X 0 L
/-- the call returned a whole number -/
def RetI (w : World) (neg : Bool) (X L : Nat) (e : Ending) (w' : World) : Prop := ∃ v, e = .returned v ∧ IV w' v neg X L ∧ Below w.heap.size w w'
theorem RetQ.whole {w w' : World} {neg : Bool} {X L : Nat} {e : Ending} (h : RetQ w neg X 1 L e w') : RetI w (cneg neg X) X L e w' := by
  obtain ⟨v, he, hF, hb⟩ := h
  rw [cnum_one, cden_whole] at hF
  exact ⟨v, he, hF, hb⟩
/-- what a whole number consists of -/
theorem IV.open_ {w : World} {v : Value} {neg : Bool} {X L : Nat} (h : IV w v neg X L) : ∃ A m c us A' c', v = .agg #[.bool neg, .slice A m c, .slice A' 0 c'] ∧ Dg .u32 w A m c us ∧ Nrm us ∧ Hid (vl (bs .u32) us = X) ∧ m ≤ L ∧ Dg .u32 w A' 0 c' [] := by
  obtain ⟨_, _, rfl, ⟨A, m, c, us, rfl, hD, hN, hv, hm⟩, ⟨A', m', c', us', rfl, hD', hN', hv', hm'⟩⟩ := h
  have h0 : us' = [] := by
    rcases Nat.eq_zero_or_pos us'.length with e | e
    · exact List.eq_nil_of_length_eq_zero e
    · have := hN'.pos (b := bs .u32) (by decide) e
      rw [hv'.out] at this
      omega
  subst h0
  have hm0 : m' = 0 := hD'.len.symm
  subst hm0
  exact ⟨A, m, c, us, A', c', rfl, hD, hN, hv, hm, hD'⟩
theorem trim_nrm (A : Option Addr) (n c : Nat) (xs : List Nat) (w : World) (h : Dg .u32 w A n c xs) (hN : Nrm xs) :
    Calls Tryz.prog 116 #[.slice A n c] w fun e w' => e = .returned (.slice A n c) ∧ w = w' :=
  (trim_any A n c xs w h).mono fun e w' ⟨he, hw⟩ => by
    have h1 : tl xs = n := by
      have h2 := h.tr.len
      rw [tr_nrm hN, h.len] at h2
      exact h2.symm
    rw [h1] at he
    exact ⟨he, hw⟩

set_option maxHeartbeats 800000 in
theorem low_one (neg : Bool) (A : Option Addr) (m c : Nat) (A' : Option Addr) (c' : Nat) (w : World) (h' : Dg .u32 w A' 0 c' []) :
    Calls Tryz.prog 117 #[.agg #[.bool neg, .slice A m c, .slice A' 0 c']] w (RetN .u32 w 1 1) := by
  have B := Blk.new w 78 #[.bool neg, .slice A m c, .slice A' 0 c']
  have hw0 := (Below.refl w.heap.size w).alloc (Nat.le_refl _) (.cells #[.bool neg, .slice A m c, .slice A' 0 c'] 78)
  have h1 := h'.below hw0
  go_enter Tryz.func117, Tryz.ntmps117
  go_upto_region 1 with fail
  generalize w.alloc (.cells #[.bool neg, .slice A m c, .slice A' 0 c'] 78) = w1 at *
  have k2 : w1.cell? ⟨w.heap.size, 2, none⟩ = some (.slice A' 0 c') := B.cell 2
  have hD := Dg.lit_one w1 120
  have hb := hw0.alloc hw0.size (.cells #[.int .u32 1] 120)
  go_wp2_with fail
  refine (trim_nrm _ _ _ _ _ h1 Nrm.nil).mono ?_
  rintro e w' ⟨rfl, rfl⟩
  go_wp2
  go_ret
  exact ⟨_, _, _, _, rfl, hD, nrm_lit1, vl_lit1 _, Nat.le_refl _, hb⟩

set_option maxHeartbeats 800000 in
theorem refOf_int (n : Nat) (w : World) (hn : n ≤ 9223372036854775807) :
    Calls Tryz.prog 46 #[.int .i64 (n : Int)] w (RetI w false n 3) := by
  have B0 := Blk.new w 78 #[.bool false, .slice none 0 0, .slice none 0 0]
  have hw0 := (Below.refl w.heap.size w).alloc (Nat.le_refl _) (.cells #[.bool false, .slice none 0 0, .slice none 0 0] 78)
  have hd : decide ((n : Int) < 0) = false := decide_eq_false (by omega)
  go_enter Tryz.func46, Tryz.ntmps46
  go_wp2_with fail
  generalize w.alloc (.cells #[.bool false, .slice none 0 0, .slice none 0 0] 78) = w1 at *
  refine (size_any (n : Int) _ (by omega)).mono ?_
  rintro e w' ⟨rfl, rfl⟩
  rw [Int.natAbs_natCast]
  go_wp2_with fail
  refine (natural_any n _ (by omega)).mono ?_
  rintro e w2 ⟨A2, m2, c2, us2, rfl, hD2, hN2, hv2, hm2, hb2⟩
  have hw2 := hw0.trans (hb2.mono hw0.size)
  go_wp2_with fail
  refine (make1_any _ _ _ _ _ _ _ _ _ _ hD2 (Dg.nil .u32 w2) (by omega) (by omega)).mono ?_
  intro e w4 hq
  rw [hv2.out] at hq
  have hq : RetQ w2 false n 1 (m2 + 0 + 1) e w4 := hq
  obtain ⟨v4, rfl, ⟨_, _, rfl, n5, n6⟩, hb4⟩ := hq.whole
  have C4 := (B0.below hb2).below hb4
  have hw4 := hw2.trans (hb4.mono hw2.size)
  have r0 := C4.cell 0
  have r1 := C4.cell 1
  have r2 := C4.cell 2
  have f0 := C4.frozen 0
  have f1 := C4.frozen 1
  have f2 := C4.frozen 2
  have n5' := nv_le n5 (show m2 + 0 + 1 ≤ 3 by omega)
  have n6' := nv_le n6 (show m2 + 0 + 1 ≤ 3 by omega)
  have hcn : cneg false n = false := rfl
  rw [hcn]
  obtain ⟨A5, m5, c5, us5, rfl, g5⟩ := n5
  obtain ⟨A6, m6, c6, us6, rfl, g6⟩ := n6
  go_wp2
  exact ret_frac rfl rfl (((C4.set_ 0 _).set_ 1 _).set_ 2 _) rfl ⟨_, rfl, ⟨_, _, rfl, nv_set3_32 n5' C4 _ _ _, nv_set3_32 n6' C4 _ _ _⟩, bel_set3 hw4 (Nat.le_refl _) _ _ _⟩

set_option maxHeartbeats 800000 in
/-- the negative of a number that is not negative -/
theorem refNeg_int (X L : Nat) (v : Value) (w : World) (h : IV w v false X L) (hL : L ≤ 100000) :
    Calls Tryz.prog 165 #[v] w (RetI w (cneg true X) X (L + 1)) := by
  obtain ⟨A, m, c, us, A', c', rfl, hD, hN, hv, hm, hD'⟩ := h.open_
  have B1 := (Blk.new w 78 #[.bool false, .slice A m c, .slice A' 0 c']).alloc (.cells #[.bool false, .slice none 0 0, .slice none 0 0] 78)
  have B2 := Blk.new (w.alloc (.cells #[.bool false, .slice A m c, .slice A' 0 c'] 78)) 78 #[.bool false, .slice none 0 0, .slice none 0 0]
  have e0 : (w.alloc (.cells #[.bool false, .slice A m c, .slice A' 0 c'] 78)).heap.size = w.heap.size + 1 := by simp
  have hw0 := ((Below.refl w.heap.size w).alloc (Nat.le_refl _) (.cells #[.bool false, .slice A m c, .slice A' 0 c'] 78)).alloc (by rw [e0]; omega) (.cells #[.bool false, .slice none 0 0, .slice none 0 0] 78)
  rw [e0] at B2
  clear e0
  have h1 := hD.below hw0
  have h2 := hD'.below hw0
  go_enter Tryz.func165, Tryz.ntmps165
  go_upto_region 1 with fail
  generalize (w.alloc (.cells #[.bool false, .slice A m c, .slice A' 0 c'] 78)).alloc (.cells #[.bool false, .slice none 0 0, .slice none 0 0] 78) = w1 at *
  have k0 : w1.cell? ⟨w.heap.size, 0, none⟩ = some (.bool false) := B1.cell 0
  have k1 : w1.cell? ⟨w.heap.size, 1, none⟩ = some (.slice A m c) := B1.cell 1
  have k2 : w1.cell? ⟨w.heap.size, 2, none⟩ = some (.slice A' 0 c') := B1.cell 2
  go_wp2_with fail
  refine (make1_any _ _ _ _ _ _ _ _ _ _ h1 h2 (by omega) (by omega)).mono ?_
  intro e w4 hq
  rw [hv.out] at hq
  have hq : RetQ w1 true X 1 (m + 0 + 1) e w4 := hq
  obtain ⟨v4, rfl, ⟨_, _, rfl, n5, n6⟩, hb4⟩ := hq.whole
  have C4 := B2.below hb4
  have hw4 := hw0.trans (hb4.mono hw0.size)
  have r0 := C4.cell 0
  have r1 := C4.cell 1
  have r2 := C4.cell 2
  have f0 := C4.frozen 0
  have f1 := C4.frozen 1
  have f2 := C4.frozen 2
  have n5' := nv_le n5 (show m + 0 + 1 ≤ L + 1 by omega)
  have n6' := nv_le n6 (show m + 0 + 1 ≤ L + 1 by omega)
  obtain ⟨A5, m5, c5, us5, rfl, g5⟩ := n5
  obtain ⟨A6, m6, c6, us6, rfl, g6⟩ := n6
  go_wp2
  exact ret_frac rfl rfl (((C4.set_ 0 _).set_ 1 _).set_ 2 _) rfl ⟨_, rfl, ⟨_, _, rfl, nv_set3_32 n5' C4 _ _ _, nv_set3_32 n6' C4 _ _ _⟩, bel_set3 hw4 (by omega) _ _ _⟩

set_option maxHeartbeats 800000 in
theorem refSign_int (neg : Bool) (X L : Nat) (v : Value) (w : World) (h : IV w v neg X L) :
    Calls Tryz.prog 118 #[v] w fun e w' => e = .returned (.int .i64 (if X = 0 then 0 else if neg = true then -1 else 1)) ∧ Below w.heap.size w w' := by
  obtain ⟨A, m, c, us, A', c', rfl, hD, hN, hv, hm, hD'⟩ := h.open_
  have B := Blk.new w 78 #[.bool neg, .slice A m c, .slice A' 0 c']
  have hw0 := (Below.refl w.heap.size w).alloc (Nat.le_refl _) (.cells #[.bool neg, .slice A m c, .slice A' 0 c'] 78)
  have h1 := hD.below hw0
  go_enter Tryz.func118, Tryz.ntmps118
  go_upto_region 1 with fail
  generalize w.alloc (.cells #[.bool neg, .slice A m c, .slice A' 0 c'] 78) = w1 at *
  have k0 : w1.cell? ⟨w.heap.size, 0, none⟩ = some (.bool neg) := B.cell 0
  have k1 : w1.cell? ⟨w.heap.size, 1, none⟩ = some (.slice A m c) := B.cell 1
  rcases Nat.eq_zero_or_pos m with h0 | h0
  · have hX : X = 0 := by
      have e := hv.out
      have e2 : us = [] := List.eq_nil_of_length_eq_zero (hD.len.trans h0)
      rw [e2] at e
      exact e.symm
    subst h0
    subst hX
    go_wp2_with fail
    refine (trim_nrm _ _ _ _ _ h1 hN).mono ?_
    rintro e w' ⟨rfl, rfl⟩
    go_wp2
    go_ret
    exact ⟨rfl, hw0⟩
  · have hX : X ≠ 0 := by
      have := hN.pos (b := bs .u32) (by decide) (by rw [hD.len]; exact h0)
      rw [hv.out] at this
      omega
    have hm0 : ((m : Int) == 0) = false := by rw [beq_eq_false_iff_ne]; omega
    have hm1 : ¬ m = 0 := by omega
    have hX := Lib.hid hX
    cases neg
    · go_wp2_with fail
      refine (trim_nrm _ _ _ _ _ h1 hN).mono ?_
      rintro e w' ⟨rfl, rfl⟩
      go_wp2
      go_ret
      exact ⟨rfl, hw0⟩
    · go_wp2_with fail
      refine (trim_nrm _ _ _ _ _ h1 hN).mono ?_
      rintro e w' ⟨rfl, rfl⟩
      go_wp2
      go_ret
      exact ⟨rfl, hw0⟩
end Go.Proofs.YtoljffghaklpdaaGreatDoor.Fr


/- The document's numbers: products of whole numbers. -/
namespace Go.Proofs.YtoljffghaklpdaaGreatDoor.Fr
open Go.RowKit Num

theorem cell_set3o (w : World) (g : Nat) (a b d : Value) (p : Addr) (h : p.block ≠ g) : (((w.setCell ⟨g, 0, none⟩ a).setCell ⟨g, 1, none⟩ b).setCell ⟨g, 2, none⟩ d).cell? p = w.cell? p := by
  rw [World.cell?_setCell_other _ _ _ _ (fun e => h (by rw [← e])), World.cell?_setCell_other _ _ _ _ (fun e => h (by rw [← e])), World.cell?_setCell_other _ _ _ _ (fun e => h (by rw [← e]))]
theorem keep3 {w1 wx : World} {g : Nat} {a b c : Value} (hB : Blk w1 g 78 #[a, b, c]) (hb : Below w1.heap.size w1 wx) : wx.cell? ⟨g, 0, none⟩ = some a ∧ wx.cell? ⟨g, 1, none⟩ = some b ∧ wx.cell? ⟨g, 2, none⟩ = some c :=
  ⟨(hB.below hb).cell 0, (hB.below hb).cell 1, (hB.below hb).cell 2⟩
set_option maxHeartbeats 3200000 in
set_option maxRecDepth 100000 in
theorem refMul_int (X Y L M : Nat) (v v' : Value) (w : World) (h : IV w v false X L) (h' : IV w v' false Y M) (hL : L ≤ 100000) (hM : M ≤ 100000) :
    Calls Tryz.prog 47 #[v, v'] w (RetI w false (X * Y) (L + M + 3)) := by
  obtain ⟨A, m, c, us, A', c', rfl, hD, hN, hv, hm, hD'⟩ := h.open_
  obtain ⟨P, p, q, ys, P', q', rfl, hE, hO, hu, hp, hE'⟩ := h'.open_
  have B1 := ((Blk.new w 78 #[.bool false, .slice A m c, .slice A' 0 c']).alloc (.cells #[.bool false, .slice P p q, .slice P' 0 q'] 78)).alloc (.cells #[.bool false, .slice none 0 0, .slice none 0 0] 78)
  have B2 := (Blk.new (w.alloc (.cells #[.bool false, .slice A m c, .slice A' 0 c'] 78)) 78 #[.bool false, .slice P p q, .slice P' 0 q']).alloc (.cells #[.bool false, .slice none 0 0, .slice none 0 0] 78)
  have B3 := Blk.new ((w.alloc (.cells #[.bool false, .slice A m c, .slice A' 0 c'] 78)).alloc (.cells #[.bool false, .slice P p q, .slice P' 0 q'] 78)) 78 #[.bool false, .slice none 0 0, .slice none 0 0]
  have e0 : (w.alloc (.cells #[.bool false, .slice A m c, .slice A' 0 c'] 78)).heap.size = w.heap.size + 1 := by simp
  have e1 : ((w.alloc (.cells #[.bool false, .slice A m c, .slice A' 0 c'] 78)).alloc (.cells #[.bool false, .slice P p q, .slice P' 0 q'] 78)).heap.size = w.heap.size + 1 + 1 := by simp
  have hw0 := (((Below.refl w.heap.size w).alloc (Nat.le_refl _) (.cells #[.bool false, .slice A m c, .slice A' 0 c'] 78)).alloc (by rw [e0]; omega) (.cells #[.bool false, .slice P p q, .slice P' 0 q'] 78)).alloc (by rw [e1]; omega) (.cells #[.bool false, .slice none 0 0, .slice none 0 0] 78)
  rw [e0] at B2
  rw [e1] at B3
  clear e0 e1
  have h1 := hD.below hw0
  have h1' := hD'.below hw0
  have h2 := hE.below hw0
  have h2' := hE'.below hw0
  go_enter Tryz.func47, Tryz.ntmps47
  go_upto_region 1 with fail
  generalize ((w.alloc (.cells #[.bool false, .slice A m c, .slice A' 0 c'] 78)).alloc (.cells #[.bool false, .slice P p q, .slice P' 0 q'] 78)).alloc (.cells #[.bool false, .slice none 0 0, .slice none 0 0] 78) = w1 at *
  have hKeep := Lib.hid (fun (wx : World) (hb : Below w1.heap.size w1 wx) => show (wx.cell? ⟨w.heap.size, 0, none⟩ = some (.bool false) ∧ wx.cell? ⟨w.heap.size, 1, none⟩ = some (.slice A m c) ∧ wx.cell? ⟨w.heap.size, 2, none⟩ = some (.slice A' 0 c')) ∧ (wx.cell? ⟨w.heap.size + 1, 0, none⟩ = some (.bool false) ∧ wx.cell? ⟨w.heap.size + 1, 1, none⟩ = some (.slice P p q) ∧ wx.cell? ⟨w.heap.size + 1, 2, none⟩ = some (.slice P' 0 q')) from ⟨keep3 B1 hb, keep3 B2 hb⟩)
  have b0 := Below.refl w1.heap.size w1
  have b1 : Below w1.heap.size w1 w1.drew := bel_drewN b0 1
  have hlt3 := B3.lt
  go_region_held3 (fun wx => (wx.cell? ⟨w.heap.size, 0, none⟩ = some (.bool false) ∧ wx.cell? ⟨w.heap.size, 1, none⟩ = some (.slice A m c) ∧ wx.cell? ⟨w.heap.size, 2, none⟩ = some (.slice A' 0 c')) ∧ (wx.cell? ⟨w.heap.size + 1, 0, none⟩ = some (.bool false) ∧ wx.cell? ⟨w.heap.size + 1, 1, none⟩ = some (.slice P p q) ∧ wx.cell? ⟨w.heap.size + 1, 2, none⟩ = some (.slice P' 0 q')))
    (first | exact hKeep.out _ b0 | exact hKeep.out _ b1 | exact hKeep.out _ b2 | exact hKeep.out _ b3 | exact hKeep.out _ b4 | exact hKeep.out _ b5 | exact hKeep.out _ b6 | exact K8.out _ _ _ | go_keep)
    (first
      | (have _t := tk1; go_at_call 116; refine (trim_nrm _ _ _ _ _ h2.drew hO).mono ?_; rintro e w' ⟨rfl, rfl⟩)
      | (go_at_call 116; refine (trim_nrm _ _ _ _ _ h1.drew hN).mono ?_; rintro e w' ⟨rfl, rfl⟩; have tk1 : True := trivial)
      | (have _t := tk2; go_at_call 115; refine (times_any _ _ _ _ _ _ _ _ _ (hD6.below hb7) hD7 (by omega) (by omega)).mono ?_; rintro e w5 ⟨A8, m8, c8, us8, rfl, hD8, hN8, hv8, hm8, hb8⟩; have b5 := b4.trans (hb8.mono b4.size); have hD58 := (hD5.below (hb6.trans (hb7.mono hb6.size))).below hb8)
      | (go_at_call 115; refine (times_any _ _ _ _ _ _ _ _ _ h1.drew h2.drew (by omega) (by omega)).mono ?_; rintro e w2 ⟨A5, m5, c5, us5, rfl, hD5, hN5, hv5, hm5, hb5⟩; have b2 : Below w1.heap.size w1 w2 := b1.trans (hb5.mono b1.size); have tk2 : True := trivial)
      | (have _t := tk3; go_at_call 117; refine (low_one _ _ _ _ _ _ w3 (h2'.below b3)).mono ?_; rintro e w4 ⟨A7, m7, c7, us7, rfl, hD7, hN7, hv7, hm7, hb7⟩; have b4 := b3.trans (hb7.mono b3.size))
      | (go_at_call 117; refine (low_one _ _ _ _ _ _ w2 (h1'.below b2)).mono ?_; rintro e w3 ⟨A6, m6, c6, us6, rfl, hD6, hN6, hv6, hm6, hb6⟩; have b3 := b2.trans (hb6.mono b2.size); have tk3 : True := trivial)
      | (go_at_call 112; refine (make1_any _ _ _ _ _ _ _ _ _ _ hD58 hD8 (by omega) (by omega)).mono ?_; intro e w6 hq; rw [hv5.out, hv8.out, hv6.out, hv7.out, hv.out, hu.out] at hq; have hq : RetQ w5 false (X * Y) 1 (m5 + m8 + 1) e w6 := hq; obtain ⟨v4, rfl, ⟨_, _, rfl, n5, n6⟩, hb9⟩ := hq.whole; have b6 := b5.trans (hb9.mono b5.size); have C4 := B3.below b6; have hw4 := hw0.trans (b6.mono hw0.size); have r0 := C4.cell 0; have r1 := C4.cell 1; have r2 := C4.cell 2; have f0 := C4.frozen 0; have f1 := C4.frozen 1; have f2 := C4.frozen 2; have n5' := nv_le n5 (show m5 + m8 + 1 ≤ L + M + 3 by omega); have n6' := nv_le n6 (show m5 + m8 + 1 ≤ L + M + 3 by omega); obtain ⟨A9, m9, c9, us9, rfl, g9⟩ := n5; obtain ⟨A0, m0, c0, us0, rfl, g0⟩ := n6; have K6 := hKeep.out _ b6; have K8 := Lib.hid (show ∀ a b d, (((((w6.setCell ⟨w.heap.size + 1 + 1, 0, none⟩ a).setCell ⟨w.heap.size + 1 + 1, 1, none⟩ b).setCell ⟨w.heap.size + 1 + 1, 2, none⟩ d).cell? ⟨w.heap.size, 0, none⟩ = some (.bool false) ∧ (((w6.setCell ⟨w.heap.size + 1 + 1, 0, none⟩ a).setCell ⟨w.heap.size + 1 + 1, 1, none⟩ b).setCell ⟨w.heap.size + 1 + 1, 2, none⟩ d).cell? ⟨w.heap.size, 1, none⟩ = some (.slice A m c) ∧ (((w6.setCell ⟨w.heap.size + 1 + 1, 0, none⟩ a).setCell ⟨w.heap.size + 1 + 1, 1, none⟩ b).setCell ⟨w.heap.size + 1 + 1, 2, none⟩ d).cell? ⟨w.heap.size, 2, none⟩ = some (.slice A' 0 c')) ∧ ((((w6.setCell ⟨w.heap.size + 1 + 1, 0, none⟩ a).setCell ⟨w.heap.size + 1 + 1, 1, none⟩ b).setCell ⟨w.heap.size + 1 + 1, 2, none⟩ d).cell? ⟨w.heap.size + 1, 0, none⟩ = some (.bool false) ∧ (((w6.setCell ⟨w.heap.size + 1 + 1, 0, none⟩ a).setCell ⟨w.heap.size + 1 + 1, 1, none⟩ b).setCell ⟨w.heap.size + 1 + 1, 2, none⟩ d).cell? ⟨w.heap.size + 1, 1, none⟩ = some (.slice P p q) ∧ (((w6.setCell ⟨w.heap.size + 1 + 1, 0, none⟩ a).setCell ⟨w.heap.size + 1 + 1, 1, none⟩ b).setCell ⟨w.heap.size + 1 + 1, 2, none⟩ d).cell? ⟨w.heap.size + 1, 2, none⟩ = some (.slice P' 0 q'))) from fun a b d => ⟨⟨(cell_set3o _ _ _ _ _ _ (by show w.heap.size ≠ _; omega)).trans K6.1.1, (cell_set3o _ _ _ _ _ _ (by show w.heap.size ≠ _; omega)).trans K6.1.2.1, (cell_set3o _ _ _ _ _ _ (by show w.heap.size ≠ _; omega)).trans K6.1.2.2⟩, (cell_set3o _ _ _ _ _ _ (by show w.heap.size + 1 ≠ _; omega)).trans K6.2.1, (cell_set3o _ _ _ _ _ _ (by show w.heap.size + 1 ≠ _; omega)).trans K6.2.2.1, (cell_set3o _ _ _ _ _ _ (by show w.heap.size + 1 ≠ _; omega)).trans K6.2.2.2⟩)))
  go_wp2
  exact ret_frac rfl rfl (((C4.set_ 0 _).set_ 1 _).set_ 2 _) rfl ⟨_, rfl, ⟨_, _, rfl, nv_set3_32 n5' C4 _ _ _, nv_set3_32 n6' C4 _ _ _⟩, bel_set3 hw4 (by omega) _ _ _⟩
end Go.Proofs.YtoljffghaklpdaaGreatDoor.Fr
