import Derived.Test.YtbgihlfblmilmaaGreatDoorA0
import Derived.Test.YtbgihlfblmilmaaGreatDoorA6
import Derived.Test.YtbgihlfblmilmaaGreatDoorNum
namespace Go.Proofs.YtbgihlfblmilmaaGreatDoor.Fr
open Go.RowKit Num

set_option maxHeartbeats 800000 in
theorem bits_any (A : Option Addr) (n c : Nat) (xs : List Nat) (w : World) (h : Dg .u32 w A n c xs) (hn : n ≤ 1000000) :
    Calls Tryz.prog 80 #[.slice A n c] w fun e w' => e = .returned (.int .i64 (bl (vl (bs .u32) xs))) ∧ w = w' := by
  have k1 := h.tr
  have hc1 := k1.cap
  have ht1 := k1.top
  have hN := nrm_tr xs
  have HV := Lib.hid (vl_tr (bs .u32) xs)
  have hle := len_tl h.len
  go_enter Tryz.func80, Tryz.ntmps80
  go_wp2_with fail
  refine (trim_any A n c xs w h).mono ?_
  rintro e w' ⟨rfl, rfl⟩
  clear h
  generalize tr xs = us at *
  generalize tl xs = p at *
  cases p with
  | zero =>
    have hz : Hid (bl (vl (bs .u32) xs) = 0) := by rw [← HV.out, List.eq_nil_of_length_eq_zero k1.len]; rfl
    go_wp2
    go_ret
    exact ⟨ret_i64 (by rw [hz.out]; rfl), rfl⟩
  | succ p =>
    obtain ⟨ad, x, rfl, hcx, hx⟩ := k1.at_ (j := p) (by omega)
    have hxb : x ≤ 4294967295 := Nat.le_of_lt_succ hx.out.2
    have h0 := nrm_top hN k1.len hx.out.1
    have hb := bl_vl k1.len k1.ok hx.out.1 h0
    rw [HV.out] at hb
    have Hb := Lib.hid hb
    clear hb
    have hbx := bl_le (k := 32) (by omega : x < 2 ^ 32)
    have hne : (((p + 1 : Nat) : Int) == 0) = false := by rw [beq_eq_false_iff_ne]; omega
    go_wp2
    go_loop [3, 4] (fun m y => ∃ a b : Nat, m = .int .i64 a ∧ y = .int .u32 b ∧ b ≤ 4294967295 ∧ a ≤ 32000000 + bl x - bl b ∧ bl b ≤ bl x ∧ Hid (a + bl b = 32 * p + bl x)) (fun _ y => (intOf y).toNat)
    case atStart => exact ⟨32 * p, x, by congr 1, rfl, hxb, by omega, Nat.le_refl _, rfl⟩
    case round =>
      obtain ⟨a, b, rfl, rfl, hb1, ha, hbb, hab⟩ := hrel
      by_cases hbz : 0 < b
      · have hbh := Lib.hid (bl_half hbz)
        go_wp2
        go_round
        case rel =>
          have := hbh.out
          have := hab.out
          exact ⟨a + 1, b / 2, by go_num, by go_num, by omega, by omega, by omega, by show _ = _; omega⟩
        case measure => simp [intOf]; omega
      · obtain rfl : b = 0 := by omega
        go_wp2
        go_ret
        exact ⟨ret_i64 (by rw [Hb.out, ← hab.out]; rfl), rfl⟩
end Go.Proofs.YtbgihlfblmilmaaGreatDoor.Fr

namespace Go.Proofs.YtbgihlfblmilmaaGreatDoor.Fr
open Go.RowKit Num

/-- what 'divide' returns: the quotient and the rest -/
def RetDiv (w : World) (x y L L' : Nat) (e : Ending) (w' : World) : Prop :=
  ∃ v v', e = .returned (.tuple #[v, v']) ∧ NV .u32 w' v (x / y) L ∧ NV .u32 w' v' (x % y) L' ∧ Below w.heap.size w w'

/-- the loop of 'divide' by one digit: the digits from place k on are divided -/
structure Div1Rel (w : World) (n : Nat) (xs : List Nat) (y : Nat) (rv i : Value) (wr : World) (k r : Nat) (cur : List Nat) : Prop where
  i : i = .int .i64 ((k : Int) - 1)
  rv : rv = .int .u64 r
  kb : k ≤ n
  hr : Hid (r = vl (bs .u32) (xs.drop k) % y)
  rb : r < y
  len : Hid (cur.length = n)
  ok : Okd (bs .u32) cur
  own : Mk wr w.heap.size 63 .u32 cur
  val : Hid (vl (bs .u32) (cur.drop k) = vl (bs .u32) (xs.drop k) / y)
  bel : Below w.heap.size w wr

theorem div1Rel_next {w wr : World} {n j r x y : Nat} {xs cur : List Nat} {E C : Int} (hxl : xs.length = n) (hj : j + 1 ≤ n) (hx : xs.getD j 0 = x) (hxb : x ≤ 4294967295) (hy : 0 < y)
    (hr : r = vl (bs .u32) (xs.drop (j + 1)) % y) (hry : r < y) (hcl : cur.length = n) (hco : Okd (bs .u32) cur) (hown : Mk wr w.heap.size 63 .u32 cur)
    (hval : vl (bs .u32) (cur.drop (j + 1)) = vl (bs .u32) (xs.drop (j + 1)) / y) (hbel : Below w.heap.size w wr) (hE : E = (((r * 4294967296 + x) / y : Nat) : Int)) (hC : C = (((r * 4294967296 + x) % y : Nat) : Int)) :
    ∃ k r' cur', Div1Rel w n xs y (.int .u64 C) (.int .i64 ((j : Int) - 1)) (wr.setCell ⟨w.heap.size, j, none⟩ (.int .u32 E)) k r' cur' := by
  subst hE hC
  have hd := vl_drop_pred (b := bs .u32) (by omega : j < xs.length) hx
  have hs := div1_step (x := x) (V := vl (bs .u32) (xs.drop (j + 1))) hy hr
  refine ⟨j, (r * 4294967296 + x) % y, cur.set j ((r * 4294967296 + x) / y), rfl, rfl, by omega, ?_, Nat.mod_lt _ hy, by simpa [Hid] using hcl, hco.set j ?_, hown.set_ j _, ?_, hbel.setCell (Nat.le_refl _) _⟩
  · show _ = _
    rw [hd]
    exact hs.2.symm
  · exact div1_lt hry (by omega)
  · show _ = _
    rw [vl_drop_set (by omega), hval, hd]
    exact hs.1.symm

set_option maxHeartbeats 1600000 in
set_option maxRecDepth 100000 in
theorem divide_any (A A' : Option Addr) (n c n' c' : Nat) (xs ys : List Nat) (w : World) (h : Dg .u32 w A n c xs) (h' : Dg .u32 w A' n' c' ys) (hn : n ≤ 900000) (hn' : n' ≤ 900000) (hy0 : 0 < vl (bs .u32) ys) :
    Calls Tryz.prog 90 #[.slice A n c, .slice A' n' c'] w (RetDiv w (vl (bs .u32) xs) (vl (bs .u32) ys) n n') := by
  have k1 := h.tr
  have k2 := h'.tr
  have hNx := nrm_tr xs
  have hNy := nrm_tr ys
  have HVx := Lib.hid (vl_tr (bs .u32) xs)
  have HVy := Lib.hid (vl_tr (bs .u32) ys)
  have hle := len_tl h.len
  have hle' := len_tl h'.len
  have hmk := make_u32 (tl xs) (by omega)
  go_enter Tryz.func90, Tryz.ntmps90
  go_wp2_with fail
  refine (trim_any A n c xs w h).mono ?_
  rintro e w' ⟨rfl, rfl⟩
  go_wp2_with fail
  refine (trim_any A' n' c' ys w h').mono ?_
  rintro e w' ⟨rfl, rfl⟩
  clear h h'
  generalize vl (bs .u32) xs = X at *
  generalize vl (bs .u32) ys = Y at *
  generalize tr xs = us at *
  generalize tr ys = vs at *
  generalize tl xs = p at *
  generalize tl ys = q at *
  by_cases hq : q = 1
  · subst hq
    obtain ⟨ad', y, rfl, hcy, hy⟩ := k2.at_ (j := 0) (by omega)
    have hyv : Hid (y = Y) := by
      have := nrm_one hNy k2.ok k2.len hy.out.1
      show _ = _
      rw [← HVy.out]; exact this.symm
    have hy1 : 1 ≤ y := by have := hyv.out; omega
    have hyb : y ≤ 4294967295 := Nat.le_of_lt_succ hy.out.2
    have hcy : w.cell? ad' = some (.int .u32 y) := hcy
    have hbY := World.block_lt_of_cell? _ _ hcy
    have hxl := Lib.hid k1.len
    go_wp2
    go_loopw [7, 8] (fun rv i wr => ∃ k r cur, Div1Rel w p us y rv i wr k r cur) (fun _ i _ => (intOf i + 1).toNat)
    case atStart =>
      have e : us.drop p = [] := List.drop_eq_nil_of_le (by have := hxl.out; omega)
      exact ⟨p, 0, zs p, rfl, rfl, Nat.le_refl _, by show _ = _; rw [e]; simp [vl], by omega, zs_len p, zs_ok (by decide) p, Mk.new _ _ _ _, by show _ = _; rw [e, List.drop_eq_nil_of_le (by rw [zs_len]; omega)]; simp [vl], (Below.refl _ _).alloc (Nat.le_refl _) _⟩
    case round =>
      obtain ⟨k, r, cur, hi, rfl, hkb, hr, hry, hcl, hco, hown, hval, hbel⟩ := hrel
      have hsz := hbel.size
      rcases idx_cases hi with ⟨rfl, rfl⟩ | ⟨j, rfl, rfl⟩
      · clear hi
        have hD := hown.dg hcl.out (by omega) hco
        go_wp2_with fail
        refine (trim_any _ _ _ _ _ hD).mono ?_
        rintro e w' ⟨rfl, rfl⟩
        have hD2 := Dg.lit1 .u32 wr 63 r (show r < 4294967296 by omega)
        have hDt := hD.tr.alloc (.cells #[.int .u32 (r : Int)] 63)
        go_wp2_with fail
        refine (trim_any _ _ _ _ _ hD2).mono ?_
        rintro e w' ⟨rfl, rfl⟩
        go_wp2
        go_ret2
        refine ⟨_, _, rfl, NV.mk hDt (nrm_tr _) (show _ = _ by rw [vl_tr, ← hyv.out, ← HVx.out]; exact hval.out) (by have := tl_le cur; have := hcl.out; omega), NV.mk hD2.tr (nrm_tr _) (show _ = _ by rw [vl_tr, ← hyv.out, ← HVx.out]; have := hr.out; simpa [vl] using this) (Nat.le_trans (tl_le _) (by simp; omega)), hbel.alloc hsz _⟩
      · clear hi
        obtain ⟨ad, x, rfl, hcx, hcs, hx⟩ := k1.at2 hbel (j := j) (by omega)
        have hcs := hcs w.heap.size j
        simp only [Nat.le_refl, forall_const] at hcs
        have hxb : x ≤ 4294967295 := Nat.le_of_lt_succ hx.out.2
        have hcy1 : wr.cell? ad' = some (.int .u32 y) := (hbel.cell hbY).trans hcy
        have hcy2 : ∀ u, (wr.setCell ⟨w.heap.size, j, none⟩ u).cell? ad' = some (.int .u32 y) := fun u => by
          rw [World.cell?_setCell_other wr _ _ u (fun e => by have := congrArg Addr.block e; simp at this; omega)]
          exact hcy1
        have hcc := hown.cell (i := j) (by rw [hcl.out]; omega)
        have hcf := hown.frozen j
        generalize cur.getD j 0 = z at hcc
        have hj1 := u64_join r x (by omega) hxb
        have R := div1Rel_next hxl.out (by omega) hx.out.1 hxb hy1 hr.out hry hcl.out hco hown hval.out hbel (div1_cast r x y (div1_lt hry (by omega))) (div1_castm r x y)
        go_wp2
        go_roundw
        case rel => exact R
        case measure => simp [intOf]
  · have hne : ((q : Int) == 1) = false := by rw [beq_eq_false_iff_ne]; omega
    have hX0 : bl X ≤ 28800000 := by
      have := vl_lt k1.ok
      rw [bs32_pow] at this
      have := bl_le this
      have := k1.len
      rw [HVx.out] at *
      omega
    clear hq
    go_wp2_with fail
    refine (bits_any _ _ _ _ _ (k1.alloc (.cells (dcs .u32 (zs p)).toArray 63)) (by omega)).mono ?_
    rintro e w' ⟨rfl, rfl⟩
    rw [HVx.out]
    go_wp2
    have HLen := Lib.hid (show ∀ zs : List Nat, Nrm zs → vl (bs .u32) zs < Y → zs.length ≤ q from fun zs hz hlt => by rw [← k2.len]; exact len_le_of one_lt_bs32 k2.ok hz (by rw [HVy.out]; omega))
    go_loopg [9, 10] (bl X) (fun g rv i wr => ∃ (k : Nat) (cur : List Nat), i = .int .i64 ((k : Int) - 1) ∧ k ≤ bl X ∧ NV .u32 wr rv (X / 2 ^ k % Y) q ∧ Hid (cur.length = p) ∧ Okd (bs .u32) cur ∧ Mk wr w.heap.size 63 .u32 cur ∧ Hid (vl (bs .u32) cur = X / 2 ^ k / Y * 2 ^ k) ∧ Hid (g = k) ∧ Below w.heap.size w wr)
    case atStart =>
      have e : X / 2 ^ bl X = 0 := Nat.div_eq_of_lt (lt_bl X)
      exact ⟨bl X, zs p, rfl, Nat.le_refl _, NV.mk (Dg.nil _ _) Nrm.nil (show _ = _ by rw [e]; simp [vl]) (by omega), zs_len p, zs_ok (by decide) p, Mk.new _ _ _ _, show _ = _ by rw [e, zs_vl]; simp, rfl, (Below.refl _ _).alloc (Nat.le_refl _) _⟩
    case round =>
      obtain ⟨k, cur, hi, hkb, ⟨A3, m3, c3, us3, rfl, hD3, hN3, hv3, hm3⟩, hcl, hco, hown, hval, hg, hbel⟩ := hrel
      have hsz := hbel.size
      rcases idx_cases hi with ⟨rfl, rfl⟩ | ⟨j, rfl, rfl⟩
      · clear hi
        have hD := hown.dg hcl.out (by omega) hco
        go_wp2_with fail
        refine (trim_any _ _ _ _ _ hD).mono ?_
        rintro e w' ⟨rfl, rfl⟩
        go_wp2
        go_ret2
        refine ⟨_, _, rfl, NV.mk hD.tr (nrm_tr _) (show _ = _ by rw [vl_tr, hval.out]; simp) (by have := tl_le cur; have := hcl.out; omega), NV.mk hD3 hN3 (show _ = _ by rw [hv3.out]; simp) (by omega), hbel⟩
      · clear hi
        have hjp : j / 32 < p := by
          have := vl_lt k1.ok
          rw [bs32_pow, k1.len, HVx.out] at this
          have := bl_le this
          omega
        go_wp2_with fail
        refine (plus_any _ _ _ _ _ _ _ _ _ hD3 hD3 (by omega) (by omega)).mono ?_
        rintro e w4 ⟨A4, m4, c4, us4, rfl, hD4, hN4, hv4, hm4, hb4⟩
        have hbel4 := hbel.trans (hb4.mono hbel.size)
        have hown4 := hown.below hb4 hown.lt
        clear hown
        obtain ⟨ad, x, rfl, hcx, hcs, hx⟩ := k1.at2 hbel4 hjp
        clear hcs
        have hxb : x ≤ 4294967295 := Nat.le_of_lt_succ hx.out.2
        have hband := bit_and x (j % 32) hxb
        have hbx : Hid (x / 2 ^ (j % 32) % 2 = X / 2 ^ j % 2) := by
          have := bit_of_digit k1.ok j
          rw [HVx.out, hx.out.1] at this; exact this
        obtain ⟨R, hR⟩ : ∃ R, R = X / 2 ^ (j + 1) % Y := ⟨_, rfl⟩
        obtain ⟨Q, hQ⟩ : ∃ Q, Q = X / 2 ^ (j + 1) / Y := ⟨_, rfl⟩
        rw [← hR] at hv3
        rw [← hQ] at hval
        have hRY : R < Y := by rw [hR]; exact Nat.mod_lt _ hy0
        have HR := Lib.hid hR
        have HQ := Lib.hid hQ
        clear hR hQ
        have hv4 : Hid (vl (bs .u32) us4 = 2 * R) := by
          have := hv4.out
          rw [hv3.out] at this
          show _ = _; omega
        obtain ⟨bt, hbt0⟩ : ∃ bt, bt = X / 2 ^ j % 2 := ⟨_, rfl⟩
        have Hbt := Lib.hid hbt0
        rw [← hbt0] at hbx
        have hbt1 : bt ≤ 1 := by omega
        clear hbt0
        rcases (show bt = 1 ∨ bt = 0 by omega) with hbit | hbit
        all_goals
          have Hbit := Lib.hid hbit
          first
            | (have hbtt : (bits .and .u32 ((x : Int) / 2 ^ (j % 32)) 1 == 1) = true := by rw [hband, hbx.out, Hbit.out]; rfl
               clear hbit hband
               have hD5 := Dg.lit1 .u32 w4 63 1 (show 1 < 4294967296 by omega)
               go_wp2_with fail
               refine (plus_any _ _ _ _ _ _ _ _ _ (hD4.alloc _) hD5 (by omega) (by omega)).mono ?_
               rintro e w6 ⟨A6, m6, c6, us6, rfl, hD6, hN6, hv6, hm6, hb6⟩
               have hv6 : Hid (vl (bs .u32) us6 = 2 * R + bt) := by
                 have := hv6.out
                 rw [hv4.out] at this
                 have h1 : vl (bs .u32) [1] = 1 := by simp [vl]
                 rw [h1] at this
                 have := Hbit.out
                 show _ = _; omega
               have hown6 := (hown4.alloc (.cells #[.int .u32 ((1 : Nat) : Int)] 63)).below hb6 (hown4.alloc _).lt
               have hbel6 := (hbel4.alloc hbel4.size (.cells #[.int .u32 ((1 : Nat) : Int)] 63)).trans (hb6.mono (by have := hbel4.size; simp; omega)))
            | (have hbtt : (bits .and .u32 ((x : Int) / 2 ^ (j % 32)) 1 == 1) = false := by rw [hband, hbx.out, Hbit.out]; rfl
               clear hbit hband
               have hD6 := hD4
               have hm6 := hm4
               have hv6 : Hid (vl (bs .u32) us4 = 2 * R + bt) := by
                 have := hv4.out
                 have := Hbit.out
                 show _ = _; omega
               have hown6 := hown4
               have hbel6 := hbel4
               obtain ⟨w6, rfl⟩ : ∃ w6 : World, w6 = w4 := ⟨_, rfl⟩)
        all_goals
          go_wp2_with fail
          refine (order_is _ _ _ _ _ _ _ _ _ hD6 (k2.below hbel6) (2 * R + bt) Y hv6 HVy).mono ?_
          rintro e w' ⟨nd, rfl, rfl⟩
          by_cases hle : Y ≤ 2 * R + bt
          · have ho : (0 : Int) ≤ ord (2 * R + bt) Y := ord_nonneg.2 hle
            have hle' := Lib.hid hle
            clear hle
            go_wp2_with fail
            refine (minus_fr _ _ _ _ _ _ _ _ _ (hD6.drewN nd) ((k2.below hbel6).drewN nd) (by omega) (by rw [hv6.out, HVy.out]; exact hle'.out)).mono ?_
            rintro e w7 ⟨A7, m7, c7, us7, rfl, hD7, hN7, hv7, hm7, hb7, hf7⟩
            have hbel7 := (bel_drewN hbel6 nd).trans (hb7.mono hbel6.size)
            have hown7 := (hown6.drewN nd).below hb7 (hown6.drewN nd).lt
            have hcc := hown7.cell (i := j / 32) (by rw [hcl.out]; exact hjp)
            have hcf := hown7.frozen (j / 32)
            obtain ⟨d, hd⟩ : ∃ d, cur.getD (j / 32) 0 = d := ⟨_, rfl⟩
            rw [hd] at hcc
            have hset := setbit hcl.out hjp hco hd hval.out
            have Hset := Lib.hid hset
            have Hd := Lib.hid hd
            clear hset hd
            have hor := Hset.out.2.1
            have hstep : Hid (X / 2 ^ j / Y = 2 * Q + 1 ∧ X / 2 ^ j % Y = 2 * R + bt - Y) := by
              show _ ∧ _
              rw [bit_step Hbt.out]
              exact (bit_div hy0 hbt1 HR.out HQ.out).1 hle'.out
            have hv8 : Hid (vl (bs .u32) us7 = X / 2 ^ j % Y) := by
              have := hv7.out
              rw [hv6.out, HVy.out] at this
              rw [hstep.out.2]; exact this
            have hm8 : m7 ≤ q := by
              have := HLen.out us7 hN7 (by rw [hv8.out]; exact Nat.mod_lt _ hy0)
              rw [hD7.len] at this; exact this
            go_wp2_with fail
            go_region
            go_wp2
            go_roundg j
            case measure => have := hg.out; omega
            case rel =>
              have hlt6 := hown6.lt
              have hf8 : ∀ ad, A7 = some ad → w.heap.size < ad.block := fun ad he => by have h1 := hf7.out ad he; rw [show (w6.drewN nd).heap.size = w6.heap.size from rfl] at h1; omega
              rw [show (d : Int) + 2 ^ (j % 32) = ((d + 2 ^ (j % 32) : Nat) : Int) by rw [Int.natCast_add, Int.natCast_pow]; rfl]
              exact ⟨j, cur.set (j / 32) (d + 2 ^ (j % 32)), rfl, by omega, NV.mk ((hD7.far hf8 _ _).drew) hN7 hv8 hm8, show _ = _ by rw [List.length_set]; exact hcl.out, hco.set _ Hset.out.1, (hown7.set_ _ _).drew, show _ = _ by rw [hstep.out.1]; exact Hset.out.2.2, rfl, (hbel7.setCell (Nat.le_refl _) _).drew⟩
          · have ho : ¬ (0 : Int) ≤ ord (2 * R + bt) Y := fun h => hle (ord_nonneg.1 h)
            have hle' := Lib.hid (show 2 * R + bt < Y by omega)
            clear hle
            have hstep : Hid (X / 2 ^ j / Y = 2 * Q ∧ X / 2 ^ j % Y = 2 * R + bt) := by
              show _ ∧ _
              rw [bit_step Hbt.out]
              exact (bit_div hy0 hbt1 HR.out HQ.out).2 hle'.out
            have hv8 := Lib.hid (hv6.out.trans hstep.out.2.symm)
            have hm8 := HLen.out _ (by first | exact hN6 | exact hN4) (by rw [hv8.out]; exact Nat.mod_lt _ hy0)
            rw [hD6.len] at hm8
            go_wp2
            go_roundg j
            case measure => have := hg.out; omega
            case rel =>
              exact ⟨j, cur, rfl, by omega, NV.mk (hD6.drewN nd) (by first | exact hN6 | exact hN4) hv8 hm8, hcl, hco, hown6.drewN nd, show _ = _ by rw [hstep.out.1]; exact nobit hval.out, rfl, bel_drewN hbel6 nd⟩

end Go.Proofs.YtbgihlfblmilmaaGreatDoor.Fr

namespace Go.Proofs.YtbgihlfblmilmaaGreatDoor.Fr
open Go.RowKit Num

set_option maxHeartbeats 800000 in
theorem sameDigits_any (A A' : Option Addr) (n c n' c' : Nat) (xs ys : List Nat) (w : World) (h : Dg .u32 w A n c xs) (h' : Dg .u32 w A' n' c' ys) :
    Calls Tryz.prog 76 #[.slice A n c, .slice A' n' c'] w fun e w' => ∃ m, e = .returned (.bool (decide (xs = ys))) ∧ w' = w.drewN m := by
  have hc1 := h.cap
  have hc2 := h'.cap
  have ht1 := h.top
  have ht2 := h'.top
  by_cases hnn : n = n'
  · subst hnn
    have hxl := Lib.hid h.len
    have hyl := Lib.hid h'.len
    go_enter Tryz.func76, Tryz.ntmps76
    go_wp2
    go_loopw [5] (fun i wr => ∃ k m : Nat, i = .int .i64 k ∧ k ≤ n ∧ Hid (xs.take k = ys.take k) ∧ wr = w.drewN m) (fun i _ => n - (intOf i).toNat)
    case atStart => exact ⟨0, 0, rfl, Nat.zero_le _, rfl, rfl⟩
    case round =>
      obtain ⟨k, m, rfl, hk, hpre, rfl⟩ := hrel
      by_cases hkn : k < n
      · obtain ⟨ad, x, rfl, hcx, hx⟩ := h.at_ hkn
        obtain ⟨ad', y, rfl, hcy, hy⟩ := h'.at_ hkn
        have hcx' : (w.drewN m).cell? (ad.add k) = some (.int .u32 x) := hcx
        have hcy' : (w.drewN m).cell? (ad'.add k) = some (.int .u32 y) := hcy
        have ex : Hid (xs.take (k + 1) = xs.take k ++ [x] ∧ ys.take (k + 1) = ys.take k ++ [y]) := by
          have h1 := hx.out.1
          have h2 := hy.out.1
          rw [getD_in (by rw [hxl.out]; exact hkn)] at h1
          rw [getD_in (by rw [hyl.out]; exact hkn)] at h2
          exact ⟨by rw [List.take_succ_eq_append_getElem (by rw [hxl.out]; exact hkn), h1], by rw [List.take_succ_eq_append_getElem (by rw [hyl.out]; exact hkn), h2]⟩
        by_cases hxy : x = y
        · subst hxy
          go_wp2
          go_quiet (fail)
          go_wp2
          go_roundw
          case rel => exact ⟨k + 1, _, by go_num, hkn, show _ = _ by rw [ex.out.1, ex.out.2, hpre.out], rfl⟩
          case measure => simp [intOf]; omega
        · have hne : ((x : Int) != (y : Int)) = true := by rw [bne_iff_ne]; omega
          have hf := Lib.hid (show decide (xs = ys) = false by
            rw [decide_eq_false_iff_not]
            intro e
            have h1 := ex.out.1
            have h2 := ex.out.2
            rw [e] at h1
            rw [h1] at h2
            have h3 := List.append_cancel_left h2
            injection h3 with h4
            exact hxy h4)
          clear hxy
          go_wp2
          go_quiet (fail)
          go_wp2
          go_ret
          exact ⟨_, ret_bool hf.out.symm, by rw [World.drewN_drewN]⟩
      · obtain rfl : k = n := by omega
        have hf := Lib.hid (show decide (xs = ys) = true by
          have := hpre.out
          rw [List.take_of_length_le (by rw [hxl.out]; omega), List.take_of_length_le (by rw [hyl.out]; omega)] at this
          exact decide_eq_true this)
        go_wp2
        go_ret
        exact ⟨_, ret_bool hf.out.symm, rfl⟩
  · have hne : ((n : Int) != (n' : Int)) = true := by rw [bne_iff_ne]; omega
    have hf := Lib.hid (show decide (xs = ys) = false by
      rw [decide_eq_false_iff_not]
      intro e
      apply hnn
      rw [← h.len, ← h'.len, e])
    clear hnn
    go_enter Tryz.func76, Tryz.ntmps76
    go_wp2
    go_ret
    exact ⟨0, ret_bool hf.out.symm, rfl⟩

theorem ret_u64 {a b : Int} (h : a = b) : Ending.returned (.int .u64 a) = .returned (.int .u64 b) := by rw [h]
/-- the natural number of an int's size -/
theorem size_any (n : Int) (w : World) (h : -9223372036854775808 ≤ n ∧ n ≤ 9223372036854775807) :
    Calls Tryz.prog 87 #[.int .i64 n] w fun e w' => e = .returned (.int .u64 (n.natAbs : Int)) ∧ w = w' := by
  by_cases h0 : n < 0
  · have hf := Lib.hid (u64_negneg n ⟨h.1, h0⟩)
    go_enter Tryz.func87, Tryz.ntmps87
    go_wp2
    go_ret
    exact ⟨ret_u64 hf.out, rfl⟩
  · have hf := Lib.hid (show n = (n.natAbs : Int) by omega)
    go_enter Tryz.func87, Tryz.ntmps87
    go_wp2
    go_ret
    exact ⟨ret_u64 hf.out, rfl⟩

theorem natural_any (x : Nat) (w : World) (hx : x ≤ 18446744073709551615) :
    Calls Tryz.prog 86 #[.int .u64 (x : Int)] w (RetN .u32 w x 2) := by
  have hD := Dg.lit2 .u32 w 63 (x % 4294967296) (x / 4294967296) (Nat.mod_lt _ (by decide)) (by show _ < 4294967296; omega)
  go_enter Tryz.func86, Tryz.ntmps86
  go_wp2_with fail
  refine (trim_any _ _ _ _ _ hD).mono ?_
  rintro e w' ⟨rfl, rfl⟩
  go_wp2
  go_ret
  exact RetN.tr hD (by simp [vl]; show _ + 4294967296 * _ = _; omega) (Nat.le_refl _) ((Below.refl _ _).alloc (Nat.le_refl _) _)

end Go.Proofs.YtbgihlfblmilmaaGreatDoor.Fr
