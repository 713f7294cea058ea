/- The reference's functions on natural numbers (digits of 32 bits): each returns what its Lean counterpart says. -/
import Derived.WalkKit
import Derived.Outline
import Derived.WalkLawsBesides
import Derived.WalkSpells
import Derived.Handy
import Derived.Deep.QuietTactic
import Derived.BigQuiet
import Derived.Test.YtoljffghaklpdaaGreatDoorProg
import Derived.Test.YtoljffghaklpdaaGreatDoorNum
import Derived.Maps.AppendAt
import Derived.Deep.LoopGhost
namespace Go.Proofs.YtoljffghaklpdaaGreatDoor.Fr
open Go.RowKit Num

set_option maxHeartbeats 400000 in
theorem trim_any (A : Option Addr) (n c : Nat) (xs : List Nat) (w : World) (h : Dg .u32 w A n c xs) :
    Calls Tryz.prog 116 #[.slice A n c] w fun e w' => e = .returned (.slice A (tl xs) c) ∧ w = w' := by
  have hn := h.cap
  have hc := h.top
  have HT : Hid (tln xs n = tl xs) := by rw [tl, h.len]; rfl
  go_enter Tryz.func116, Tryz.ntmps116
  go_wp2
  go_loop [3] (fun i => ∃ k : Nat, k ≤ n ∧ i = .int .i64 k ∧ Hid (tln xs k = tl xs)) (fun i => (intOf i).toNat)
  case atStart => exact ⟨n, Nat.le_refl _, rfl, HT⟩
  case round =>
    obtain ⟨k, hk, rfl, hr⟩ := hrel
    cases k with
    | zero =>
      go_wp2
      go_ret
      exact ⟨ret_sl hr.out, rfl⟩
    | succ k =>
      obtain ⟨ad, x, rfl, hcell, hx⟩ := h.at_ (j := k) (by omega)
      by_cases h0 : x = 0
      · have HS : Hid (tln xs (k + 1) = tln xs k) := tln_zero (hx.out.1.trans h0)
        have hb : ((x : Int) == 0) = true := by rw [h0]; rfl
        clear h0
        go_wp2
        go_round
        case rel => exact ⟨k, by omega, rfl, HS.out.symm.trans hr.out⟩
        case measure => simp [intOf]
      · have HS : Hid (tln xs (k + 1) = k + 1) := tln_not (by rw [hx.out.1]; exact h0)
        have hb : ((x : Int) == 0) = false := by rw [beq_eq_false_iff_ne]; omega
        clear h0
        go_wp2
        go_ret
        exact ⟨ret_sl (HS.out.symm.trans hr.out), rfl⟩

end Go.Proofs.YtoljffghaklpdaaGreatDoor.Fr


namespace Go.Proofs.YtoljffghaklpdaaGreatDoor.Fr
open Go.RowKit Num

set_option maxHeartbeats 800000 in
theorem order_any (A A' : Option Addr) (n c n' c' : Nat) (xs ys : List Nat) (w : World) (h : Dg .u32 w A n c xs) (h' : Dg .u32 w A' n' c' ys) :
    Calls Tryz.prog 198 #[.slice A n c, .slice A' n' c'] w fun e w' => ∃ m, e = .returned (.int .i64 (ord (vl (bs .u32) xs) (vl (bs .u32) ys))) ∧ w' = w.drewN m := by
  have k1 := h.tr
  have k2 := h'.tr
  have lt1 := fun hl => Lib.hid (tr_lt one_lt_bs32 (ys := ys) h.ok hl)
  have lt2 := fun hl => Lib.hid (tr_lt one_lt_bs32 (ys := xs) h'.ok hl)
  have hc1 := k1.cap
  have hc2 := k2.cap
  have ht1 := k1.top
  have ht2 := k2.top
  have HV : Hid (vl (bs .u32) (tr xs) = vl (bs .u32) xs ∧ vl (bs .u32) (tr ys) = vl (bs .u32) ys) := ⟨vl_tr _ _, vl_tr _ _⟩
  have HL : Hid ((tr xs).length = tl xs ∧ (tr ys).length = tl ys) := ⟨len_tr _, len_tr _⟩
  go_enter Tryz.func198, Tryz.ntmps198
  go_wp2_with fail
  refine (trim_any A n c xs w h).mono ?_
  rintro e w' ⟨rfl, rfl⟩
  go_wp2_with fail
  refine (trim_any A' n' c' ys w h').mono ?_
  rintro e w' ⟨rfl, rfl⟩
  clear h h'
  generalize tr xs = us at *
  generalize tr ys = vs at *
  generalize tl xs = p at *
  generalize tl ys = q at *
  rcases Nat.lt_trichotomy p q with hpq | rfl | hpq
  · have hne : ((p : Int) != (q : Int)) = true := by rw [bne_iff_ne]; omega
    go_wp2
    go_ret
    exact ⟨0, ret_i64 (ord_lt ((lt1 hpq).out)).symm, rfl⟩
  · clear lt1 lt2
    go_wp2
    go_loopw [5] (fun i wr => OrdRel us vs i ∧ ∃ m, wr = w.drewN m) (fun i _ => (intOf i + 1).toNat)
    case atStart => exact ⟨ordRel_start p k1.len k2.len, 0, rfl⟩
    case round =>
      obtain ⟨hor, m, rfl⟩ := hrel
      rcases hor with ⟨k, rfl, hk, hd⟩ | ⟨rfl, he⟩
      · have hkp : k < p := by have := k1.len; omega
        have Hd := Lib.hid hd
        clear hd hk
        obtain ⟨ad, x, rfl, hcx, hx⟩ := k1.at_ (j := k) hkp
        obtain ⟨ad', y, rfl, hcy, hy⟩ := k2.at_ (j := k) hkp
        have hcx' : (w.drewN m).cell? (ad.add k) = some (.int .u32 x) := hcx
        have hcy' : (w.drewN m).cell? (ad'.add k) = some (.int .u32 y) := hcy
        rcases Nat.lt_trichotomy x y with hxy | rfl | hxy
        · have hne : ((x : Int) != (y : Int)) = true := by rw [bne_iff_ne]; omega
          have HF := Lib.hid (dig_lt k1.ok (k1.len.trans k2.len.symm) Hd.out (by rw [k1.len]; exact hkp) hx.out.1 hy.out.1 hxy)
          go_wp2
          go_quiet (fail)
          go_wp2
          go_quiet (fail)
          go_wp2
          go_ret
          exact ⟨_, ret_i64 (ord_lt (by rw [← HV.out.1, ← HV.out.2]; exact HF.out)).symm, by rw [World.drewN_drewN, World.drewN_drewN]⟩
        · have HF := Lib.hid (drop_down (k1.len.trans k2.len.symm) Hd.out (by rw [k1.len]; exact hkp) hx.out.1 hy.out.1)
          have hkl := Lib.hid (show k < us.length by rw [k1.len]; exact hkp)
          go_wp2
          go_quiet (fail)
          go_wp2
          go_roundw
          case rel => exact ⟨ordRel_next HF.out hkl.out, _, rfl⟩
          case measure => simp [intOf]
        · have hne : ((x : Int) != (y : Int)) = true := by rw [bne_iff_ne]; omega
          have HF := Lib.hid (dig_lt k2.ok (k2.len.trans k1.len.symm) Hd.out.symm (by rw [k2.len]; exact hkp) hy.out.1 hx.out.1 hxy)
          have hnl : ¬ (x : Int) < (y : Int) := by omega
          go_wp2
          go_quiet (fail)
          go_wp2
          go_quiet (fail)
          go_wp2
          go_ret
          exact ⟨_, ret_i64 (ord_gt (by rw [← HV.out.1, ← HV.out.2]; exact HF.out)).symm, by rw [World.drewN_drewN, World.drewN_drewN]⟩
      · have he' := Lib.hid he
        clear he
        go_wp2
        go_ret
        exact ⟨m, ret_i64 (ord_eq (by rw [← HV.out.1, ← HV.out.2, he'.out])).symm, rfl⟩
  · have hne : ((p : Int) != (q : Int)) = true := by rw [bne_iff_ne]; omega
    go_wp2
    go_ret
    exact ⟨0, ret_i64 (ord_gt ((lt2 hpq).out)).symm, rfl⟩

end Go.Proofs.YtoljffghaklpdaaGreatDoor.Fr


namespace Go.Proofs.YtoljffghaklpdaaGreatDoor.Fr
open Go.RowKit Num


/-- the loop of 'plus': i digits are added -/
structure PlusRel (w : World) (n n' : Nat) (xs ys : List Nat) (out cr i : Value) (wr : World) (k c : Nat) (zs : List Nat) : Prop where
  i : i = .int .i64 k
  cr : cr = .int .u64 c
  c1 : c ≤ 1
  kb : k ≤ max n n' + 1
  ke : max n n' < k → c = 0
  zl : zs.length = k
  zo : Okd (bs .u32) zs
  own : wr.ownsRow w.heap.size 120 1 out k (dcs .u32 zs)
  val : vl (bs .u32) zs + bs .u32 ^ k * c = vl (bs .u32) (xs.take k) + vl (bs .u32) (ys.take k)
  bel : Below w.heap.size w wr

theorem grown_below {B : Nat} {w wr w1 : World} {o : Obj} {v : Value} {base e n : Nat} {xs : List Value} (hb : Below B w wr) (hB : B ≤ wr.heap.size) (hown : (wr.alloc o).ownsRow base e 1 v n xs) (hbase : B ≤ base)
    (hg : (wr.alloc o).grownBy w1 v.ownBlock) : Below B w w1 :=
  (hb.alloc hB o).grown hg (by simp; omega) (fun k hk => Nat.le_trans hbase (hown.lt k hk).1)

/-- one round of 'plus': the digits x, y (0 behind the end) and what is carried have the sum t -/
theorem plusRel_next {w wr w1 : World} {n n' k cr t x y : Nat} {xs ys zs : List Nat} {out v' : Value} {E C : Int} {o : Obj}
    (hx : xs.getD k 0 = x) (hy : ys.getD k 0 = y) (hend : max n n' ≤ k → x = 0 ∧ y = 0) (c1 : cr ≤ 1) (hx1 : x ≤ 4294967295) (hy1 : y ≤ 4294967295)
    (hzl : zs.length = k) (hzo : Okd (bs .u32) zs) (hval : vl (bs .u32) zs + bs .u32 ^ k * cr = vl (bs .u32) (xs.take k) + vl (bs .u32) (ys.take k)) (hbel : Below w.heap.size w wr)
    (hown : wr.ownsRow w.heap.size 120 1 out k (dcs .u32 zs)) (hg : (wr.alloc o).grownBy w1 out.ownBlock) (hkk : k ≤ max n n')
    (hown' : w1.ownsRow w.heap.size 120 1 v' (k + 1) (dcs .u32 zs ++ [.int .u32 E])) (ht : t = cr + x + y) (hE : E = ((t % 4294967296 : Nat) : Int)) (hC : C = ((t / 4294967296 : Nat) : Int)) :
    ∃ k' c' zs', PlusRel w n n' xs ys v' (.int .u64 C) (.int .i64 ((k : Int) + 1)) w1 k' c' zs' := by
  subst ht hE hC
  refine ⟨k + 1, (cr + x + y) / 4294967296, zs ++ [(cr + x + y) % 4294967296], rfl, rfl, by omega, by omega, fun h => ?_, by simp [hzl], hzo.append ?_, ?_, plus_step hzl hval hx hy, grown_below hbel hbel.size (hown.alloc o) (Nat.le_refl _) hg⟩
  · have := hend (by omega); omega
  · intro q hq
    simp at hq
    subst hq
    exact Nat.mod_lt _ (by decide)
  · rw [dcs_snoc]; exact hown'

set_option maxHeartbeats 800000 in
theorem plus_any (A A' : Option Addr) (n c n' c' : Nat) (xs ys : List Nat) (w : World) (h : Dg .u32 w A n c xs) (h' : Dg .u32 w A' n' c' ys) (hn : n ≤ 1000000) (hn' : n' ≤ 1000000) :
    Calls Tryz.prog 200 #[.slice A n c, .slice A' n' c'] w (RetN .u32 w (vl (bs .u32) xs + vl (bs .u32) ys) (max n n' + 1)) := by
  obtain ⟨i0, hi, hz0, hz1, hz2⟩ := info_parts info_u32
  go_enter Tryz.func200, Tryz.ntmps200
  go_wp2
  go_loopw [5, 6, 7] (fun out cr i wr => ∃ k c zs, PlusRel w n n' xs ys out cr i wr k c zs) (fun _ _ i _ => max n n' + 1 - (intOf i).toNat)
  case atStart => exact ⟨0, 0, [], rfl, rfl, by omega, by omega, by omega, rfl, Okd.nil _, World.ownsRow_nil _ _ _ _, rfl, Below.refl _ _⟩
  case round =>
    obtain ⟨k, cr, zs, rfl, rfl, hc1, hkb, hke, hzl, hzo, hown, hval, hbel⟩ := hrel
    obtain ⟨A0, c0, rfl, hD⟩ := Dg.of_own hown hzo
    have hke := Lib.hid hke
    have hzl := Lib.hid hzl
    have hval := Lib.hid hval
    have hr := h.below hbel
    have hr' := h'.below hbel
    have hsz := hbel.size
    by_cases h1 : k < n
    · obtain ⟨ad, x, rfl, hcx, hx⟩ := hr.at_ h1
      have hxb : x ≤ 4294967295 := Nat.le_of_lt_succ hx.out.2
      by_cases h2 : k < n'
      · obtain ⟨ad', y, rfl, hcy, hy⟩ := hr'.at_ h2
        have hyb : y ≤ 4294967295 := Nat.le_of_lt_succ hy.out.2
        go_wp2_with (at_builtin; refine wpList_append_own _ rfl _ _ 76 rfl w.heap.size 120 i0 (.int .u32 0) 1 4 Tryz.underlying76 hi hz0 hz1 hz2 rfl (by decide) _ _ _ rfl (hown.alloc _) ⟨wr.heap.size, 0, none⟩ 1 1 [_] rfl rfl (cell_one_new _ _ _) ?c2 ?c3 ?c4 ?c5 ?_)
        case c2 => intro u hu; simp at hu; subst hu; rfl
        case c3 => unfold maxLen; omega
        case c4 => omega
        case c5 => simp; omega
        intro v' w1 hown' hgrow _
        have R := plusRel_next (n := n) (n' := n') (t := cr + x + y) (x := x) (y := y) hx.out.1 hy.out.1 (by omega) hc1 (by omega) (by omega) hzl.out hzo hval.out hbel hown hgrow (by omega) hown' (by omega) (by omega) rfl
        clear hown' hgrow hown
        go_wp2
        go_roundw
        case rel => first | exact R | (obtain ⟨k', c', zs', R⟩ := R; exact ⟨k', c', zs', by simpa using R⟩)
        case measure => simp [intOf]; omega
      · have hy := Lib.hid (getD_out (i := k) (by rw [h'.len]; omega : ys.length ≤ k))
        go_wp2_with (at_builtin; refine wpList_append_own _ rfl _ _ 76 rfl w.heap.size 120 i0 (.int .u32 0) 1 4 Tryz.underlying76 hi hz0 hz1 hz2 rfl (by decide) _ _ _ rfl (hown.alloc _) ⟨wr.heap.size, 0, none⟩ 1 1 [_] rfl rfl (cell_one_new _ _ _) ?c2 ?c3 ?c4 ?c5 ?_)
        case c2 => intro u hu; simp at hu; subst hu; rfl
        case c3 => unfold maxLen; omega
        case c4 => omega
        case c5 => simp; omega
        intro v' w1 hown' hgrow _
        have R := plusRel_next (n := n) (n' := n') (t := cr + x) (x := x) (y := 0) hx.out.1 hy.out (by omega) hc1 (by omega) (by omega) hzl.out hzo hval.out hbel hown hgrow (by omega) hown' (by omega) (by omega) rfl
        clear hown' hgrow hown
        go_wp2
        go_roundw
        case rel => first | exact R | (obtain ⟨k', c', zs', R⟩ := R; exact ⟨k', c', zs', by simpa using R⟩)
        case measure => simp [intOf]; omega
    · have hx := Lib.hid (getD_out (i := k) (by rw [h.len]; omega : xs.length ≤ k))
      by_cases h2 : k < n'
      · obtain ⟨ad', y, rfl, hcy, hy⟩ := hr'.at_ h2
        have hyb : y ≤ 4294967295 := Nat.le_of_lt_succ hy.out.2
        go_wp2_with (at_builtin; refine wpList_append_own _ rfl _ _ 76 rfl w.heap.size 120 i0 (.int .u32 0) 1 4 Tryz.underlying76 hi hz0 hz1 hz2 rfl (by decide) _ _ _ rfl (hown.alloc _) ⟨wr.heap.size, 0, none⟩ 1 1 [_] rfl rfl (cell_one_new _ _ _) ?c2 ?c3 ?c4 ?c5 ?_)
        case c2 => intro u hu; simp at hu; subst hu; rfl
        case c3 => unfold maxLen; omega
        case c4 => omega
        case c5 => simp; omega
        intro v' w1 hown' hgrow _
        have R := plusRel_next (n := n) (n' := n') (t := cr + y) (x := 0) (y := y) hx.out hy.out.1 (by omega) hc1 (by omega) (by omega) hzl.out hzo hval.out hbel hown hgrow (by omega) hown' (by omega) (by omega) rfl
        clear hown' hgrow hown
        go_wp2
        go_roundw
        case rel => first | exact R | (obtain ⟨k', c', zs', R⟩ := R; exact ⟨k', c', zs', by simpa using R⟩)
        case measure => simp [intOf]; omega
      · have hy := Lib.hid (getD_out (i := k) (by rw [h'.len]; omega : ys.length ≤ k))
        by_cases h3 : 0 < cr
        · have hk1 : k ≤ max n n' := by
            have := hke.out
            omega
          go_wp2_with (at_builtin; refine wpList_append_own _ rfl _ _ 76 rfl w.heap.size 120 i0 (.int .u32 0) 1 4 Tryz.underlying76 hi hz0 hz1 hz2 rfl (by decide) _ _ _ rfl (hown.alloc _) ⟨wr.heap.size, 0, none⟩ 1 1 [_] rfl rfl (cell_one_new _ _ _) ?c2 ?c3 ?c4 ?c5 ?_)
          case c2 => intro u hu; simp at hu; subst hu; rfl
          case c3 => unfold maxLen; omega
          case c4 => omega
          case c5 => simp; omega
          intro v' w1 hown' hgrow _
          have R := plusRel_next (n := n) (n' := n') (t := cr) (x := 0) (y := 0) hx.out hy.out (by omega) hc1 (by omega) (by omega) hzl.out hzo hval.out hbel hown hgrow (by omega) hown' (by omega) (by omega) rfl
          clear hown' hgrow hown
          go_wp2
          go_roundw
          case rel => first | exact R | (obtain ⟨k', c', zs', R⟩ := R; exact ⟨k', c', zs', by simpa using R⟩)
          case measure => simp [intOf]; omega
        · obtain rfl : cr = 0 := by omega
          have hfin : Hid (vl (bs .u32) zs = vl (bs .u32) xs + vl (bs .u32) ys) := by
            have := hval.out
            rw [List.take_of_length_le (by rw [h.len]; omega), List.take_of_length_le (by rw [h'.len]; omega), Nat.mul_zero, Nat.add_zero] at this
            exact this
          go_wp2_with fail
          refine (trim_any _ _ _ _ _ hD).mono ?_
          rintro e w' ⟨rfl, rfl⟩
          go_wp2
          go_ret
          exact RetN.tr hD hfin.out (by omega) hbel

end Go.Proofs.YtoljffghaklpdaaGreatDoor.Fr


namespace Go.Proofs.YtoljffghaklpdaaGreatDoor.Fr
open Go.RowKit Num

/-- the loop of 'minus': k digits are subtracted -/
structure MinusRel (w : World) (n : Nat) (xs ys : List Nat) (out br i : Value) (wr : World) (k b : Nat) (zs : List Nat) : Prop where
  i : i = .int .i64 k
  br : br = .int .u64 b
  b1 : b ≤ 1
  kb : k ≤ n
  zl : zs.length = k
  zo : Okd (bs .u32) zs
  own : wr.ownsRow w.heap.size 120 1 out k (dcs .u32 zs)
  val : vl (bs .u32) zs + vl (bs .u32) (ys.take k) = vl (bs .u32) (xs.take k) + bs .u32 ^ k * b
  bel : Below w.heap.size w wr

theorem minusRel_next {w wr w1 : World} {n k br br' d x y : Nat} {xs ys zs : List Nat} {out v' : Value} {E : Int} {o : Obj}
    (hx : xs.getD k 0 = x) (hy : ys.getD k 0 = y) (hk : k < n)
    (hzl : zs.length = k) (hzo : Okd (bs .u32) zs) (hval : vl (bs .u32) zs + vl (bs .u32) (ys.take k) = vl (bs .u32) (xs.take k) + bs .u32 ^ k * br) (hbel : Below w.heap.size w wr)
    (hown : wr.ownsRow w.heap.size 120 1 out k (dcs .u32 zs)) (hg : (wr.alloc o).grownBy w1 out.ownBlock)
    (hown' : w1.ownsRow w.heap.size 120 1 v' (k + 1) (dcs .u32 zs ++ [.int .u32 E])) (hb : br' ≤ 1) (hd : d + (br + y) = x + bs .u32 * br') (hE : E = (d : Int)) (hlt : d < bs .u32) :
    ∃ k' b' zs', MinusRel w n xs ys v' (.int .u64 br') (.int .i64 ((k : Int) + 1)) w1 k' b' zs' := by
  subst hE
  refine ⟨k + 1, br', zs ++ [d], rfl, rfl, hb, by omega, by simp [hzl], hzo.append ?_, ?_, minus_step hzl hval hx hy hd, grown_below hbel hbel.size (hown.alloc o) (Nat.le_refl _) hg⟩
  · intro q hq
    simp at hq
    subst hq
    exact hlt
  · rw [dcs_snoc]; exact hown'

set_option maxHeartbeats 800000 in
set_option maxRecDepth 100000 in
theorem minus_fr (A A' : Option Addr) (n c n' c' : Nat) (xs ys : List Nat) (w : World) (h : Dg .u32 w A n c xs) (h' : Dg .u32 w A' n' c' ys) (hn : n ≤ 1000000) (hle : vl (bs .u32) ys ≤ vl (bs .u32) xs) :
    Calls Tryz.prog 199 #[.slice A n c, .slice A' n' c'] w (RetF .u32 w (vl (bs .u32) xs - vl (bs .u32) ys) n) := by
  have hle := Lib.hid hle
  obtain ⟨i0, hi, hz0, hz1, hz2⟩ := info_parts info_u32
  go_enter Tryz.func199, Tryz.ntmps199
  go_wp2
  go_loopw [5, 6, 7] (fun out br i wr => ∃ k b zs, MinusRel w n xs ys out br i wr k b zs) (fun _ _ i _ => n - (intOf i).toNat)
  case atStart => exact ⟨0, 0, [], rfl, rfl, by omega, by omega, rfl, Okd.nil _, World.ownsRow_nil _ _ _ _, rfl, Below.refl _ _⟩
  case round =>
    obtain ⟨k, br, zs, rfl, rfl, hb1, hkb, hzl, hzo, hown, hval, hbel⟩ := hrel
    obtain ⟨A0, c0, rfl, hD⟩ := Dg.of_own hown hzo
    have hfr := Lib.hid (own_fresh hown)
    have hzl := Lib.hid hzl
    have hval := Lib.hid hval
    have hr := h.below hbel
    have hr' := h'.below hbel
    have hsz := hbel.size
    by_cases h1 : k < n
    · obtain ⟨ad, x, rfl, hcx, hx⟩ := hr.at_ h1
      have hxb : x ≤ 4294967295 := Nat.le_of_lt_succ hx.out.2
      by_cases h2 : k < n'
      · obtain ⟨ad', y, rfl, hcy, hy⟩ := hr'.at_ h2
        have hyb : y ≤ 4294967295 := Nat.le_of_lt_succ hy.out.2
        by_cases h3 : x < br + y
        · go_wp2_with (at_builtin; refine wpList_append_own _ rfl _ _ 76 rfl w.heap.size 120 i0 (.int .u32 0) 1 4 Tryz.underlying76 hi hz0 hz1 hz2 rfl (by decide) _ _ _ rfl (hown.alloc _) ⟨wr.heap.size, 0, none⟩ 1 1 [_] rfl rfl (cell_one_new _ _ _) ?c2 ?c3 ?c4 ?c5 ?_)
          case c2 => intro u hu; simp at hu; subst hu; rfl
          case c3 => unfold maxLen; omega
          case c4 => omega
          case c5 => simp; omega
          intro v' w1 hown' hgrow _
          have R := minusRel_next (n := n) (br' := 1) (d := x + 4294967296 - (br + y)) hx.out.1 hy.out.1 h1 hzl.out hzo hval.out hbel hown hgrow hown' (by omega) (by show _ = _ + 4294967296 * _; omega) (by omega) (by show _ < 4294967296; omega)
          clear hown' hgrow hown
          go_wp2
          go_roundw
          case rel => exact R
          case measure => simp [intOf]; omega
        · go_wp2_with (at_builtin; refine wpList_append_own _ rfl _ _ 76 rfl w.heap.size 120 i0 (.int .u32 0) 1 4 Tryz.underlying76 hi hz0 hz1 hz2 rfl (by decide) _ _ _ rfl (hown.alloc _) ⟨wr.heap.size, 0, none⟩ 1 1 [_] rfl rfl (cell_one_new _ _ _) ?c2 ?c3 ?c4 ?c5 ?_)
          case c2 => intro u hu; simp at hu; subst hu; rfl
          case c3 => unfold maxLen; omega
          case c4 => omega
          case c5 => simp; omega
          intro v' w1 hown' hgrow _
          have R := minusRel_next (n := n) (br' := 0) (d := x - (br + y)) hx.out.1 hy.out.1 h1 hzl.out hzo hval.out hbel hown hgrow hown' (by omega) (by show _ = _ + 4294967296 * _; omega) (by omega) (by show _ < 4294967296; omega)
          clear hown' hgrow hown
          go_wp2
          go_roundw
          case rel => exact R
          case measure => simp [intOf]; omega
      · have hy := Lib.hid (getD_out (i := k) (by rw [h'.len]; omega : ys.length ≤ k))
        by_cases h3 : x < br
        · go_wp2_with (at_builtin; refine wpList_append_own _ rfl _ _ 76 rfl w.heap.size 120 i0 (.int .u32 0) 1 4 Tryz.underlying76 hi hz0 hz1 hz2 rfl (by decide) _ _ _ rfl (hown.alloc _) ⟨wr.heap.size, 0, none⟩ 1 1 [_] rfl rfl (cell_one_new _ _ _) ?c2 ?c3 ?c4 ?c5 ?_)
          case c2 => intro u hu; simp at hu; subst hu; rfl
          case c3 => unfold maxLen; omega
          case c4 => omega
          case c5 => simp; omega
          intro v' w1 hown' hgrow _
          have R := minusRel_next (n := n) (br' := 1) (d := x + 4294967296 - br) hx.out.1 hy.out h1 hzl.out hzo hval.out hbel hown hgrow hown' (by omega) (by show _ = _ + 4294967296 * _; omega) (by omega) (by show _ < 4294967296; omega)
          clear hown' hgrow hown
          go_wp2
          go_roundw
          case rel => exact R
          case measure => simp [intOf]; omega
        · go_wp2_with (at_builtin; refine wpList_append_own _ rfl _ _ 76 rfl w.heap.size 120 i0 (.int .u32 0) 1 4 Tryz.underlying76 hi hz0 hz1 hz2 rfl (by decide) _ _ _ rfl (hown.alloc _) ⟨wr.heap.size, 0, none⟩ 1 1 [_] rfl rfl (cell_one_new _ _ _) ?c2 ?c3 ?c4 ?c5 ?_)
          case c2 => intro u hu; simp at hu; subst hu; rfl
          case c3 => unfold maxLen; omega
          case c4 => omega
          case c5 => simp; omega
          intro v' w1 hown' hgrow _
          have R := minusRel_next (n := n) (br' := 0) (d := x - br) hx.out.1 hy.out h1 hzl.out hzo hval.out hbel hown hgrow hown' (by omega) (by show _ = _ + 4294967296 * _; omega) (by omega) (by show _ < 4294967296; omega)
          clear hown' hgrow hown
          go_wp2
          go_roundw
          case rel => exact R
          case measure => simp [intOf]; omega
    · obtain rfl : k = n := by omega
      have hfin := Lib.hid (minus_end h.len hzl.out hzo hle.out h.ok hb1 hval.out)
      go_wp2_with fail
      refine (trim_any _ _ _ _ _ hD).mono ?_
      rintro e w' ⟨rfl, rfl⟩
      go_wp2
      go_ret
      exact RetF.tr hD hfin.out (Nat.le_refl _) hbel hfr.out

theorem minus_any (A A' : Option Addr) (n c n' c' : Nat) (xs ys : List Nat) (w : World) (h : Dg .u32 w A n c xs) (h' : Dg .u32 w A' n' c' ys) (hn : n ≤ 1000000) (hle : vl (bs .u32) ys ≤ vl (bs .u32) xs) :
    Calls Tryz.prog 199 #[.slice A n c, .slice A' n' c'] w (RetN .u32 w (vl (bs .u32) xs - vl (bs .u32) ys) n) :=
  (minus_fr A A' n c n' c' xs ys w h h' hn hle).mono fun _ _ h => h.n

end Go.Proofs.YtoljffghaklpdaaGreatDoor.Fr


namespace Go.Proofs.YtoljffghaklpdaaGreatDoor.Fr
open Go.RowKit Num

theorem even_any (A : Option Addr) (n c : Nat) (xs : List Nat) (w : World) (h : Dg .u32 w A n c xs) :
    Calls Tryz.prog 196 #[.slice A n c] w fun e w' => e = .returned (.bool (decide (vl (bs .u32) xs % 2 = 0))) ∧ w = w' := by
  have hm := Lib.hid (vl_mod (bs .u32) xs 2 rfl)
  by_cases h0 : 0 < n
  · obtain ⟨ad, x, rfl, hcx, hx⟩ := h.at_ h0
    have hcx : w.cell? ad = some (.int .u32 x) := hcx
    have hxb : x ≤ 4294967295 := Nat.le_of_lt_succ hx.out.2
    have hn0 : ((n : Int) == 0) = false := by rw [beq_eq_false_iff_ne]; omega
    by_cases h2 : x % 2 = 0
    · have ht : ((x : Int) % 2 == 0) = true := by rw [beq_iff_eq]; omega
      have hf := Lib.hid (show decide (vl (bs .u32) xs % 2 = 0) = true by rw [hm.out, hx.out.1]; simpa using h2)
      clear h2
      go_enter Tryz.func196, Tryz.ntmps196
      go_wp2
      go_ret
      exact ⟨ret_bool hf.out.symm, rfl⟩
    · have ht : ((x : Int) % 2 == 0) = false := by rw [beq_eq_false_iff_ne]; omega
      have hf := Lib.hid (show decide (vl (bs .u32) xs % 2 = 0) = false by rw [hm.out, hx.out.1]; simpa using h2)
      clear h2
      go_enter Tryz.func196, Tryz.ntmps196
      go_wp2
      go_ret
      exact ⟨ret_bool hf.out.symm, rfl⟩
  · obtain rfl : n = 0 := by omega
    have hf : Hid (decide (vl (bs .u32) xs % 2 = 0) = true) := by rw [List.eq_nil_of_length_eq_zero h.len]; rfl
    go_enter Tryz.func196, Tryz.ntmps196
    go_wp2
    go_ret
    exact ⟨ret_bool hf.out.symm, rfl⟩

theorem one_any (A : Option Addr) (n c : Nat) (xs : List Nat) (w : World) (h : Dg .u32 w A n c xs) (hn : Nrm xs) :
    Calls Tryz.prog 161 #[.slice A n c] w fun e w' => e = .returned (.bool (decide (vl (bs .u32) xs = 1))) ∧ w = w' := by
  by_cases h0 : n = 1
  · subst h0
    obtain ⟨ad, x, rfl, hcx, hx⟩ := h.at_ (j := 0) (by omega)
    have hcx : w.cell? ad = some (.int .u32 x) := hcx
    have hv := nrm_one hn h.ok h.len hx.out.1
    by_cases h2 : x = 1
    · have ht : ((x : Int) == 1) = true := by rw [beq_iff_eq]; omega
      have hf := Lib.hid (show decide (vl (bs .u32) xs = 1) = true by rw [hv]; simpa using h2)
      clear h2 hv
      go_enter Tryz.func161, Tryz.ntmps161
      go_wp2
      go_ret
      exact ⟨ret_bool hf.out.symm, rfl⟩
    · have ht : ((x : Int) == 1) = false := by rw [beq_eq_false_iff_ne]; omega
      have hf := Lib.hid (show decide (vl (bs .u32) xs = 1) = false by rw [hv]; simpa using h2)
      clear h2 hv
      go_enter Tryz.func161, Tryz.ntmps161
      go_wp2
      go_ret
      exact ⟨ret_bool hf.out.symm, rfl⟩
  · have ht : ((n : Int) == 1) = false := by rw [beq_eq_false_iff_ne]; omega
    have hf : Hid (decide (vl (bs .u32) xs = 1) = false) := by
      simp only [decide_eq_false_iff_not]
      intro hv
      have := one_of one_lt_bs32 hn h.ok hv
      have hl := h.len
      rw [this] at hl
      exact h0 hl.symm
    clear h0
    go_enter Tryz.func161, Tryz.ntmps161
    go_wp2
    go_ret
    exact ⟨ret_bool hf.out.symm, rfl⟩

/-- the loop of 'half': the digits from place k on are halved -/
structure HalfRel (w : World) (n : Nat) (xs : List Nat) (cr i : Value) (wr : World) (k cy : Nat) (cur : List Nat) : Prop where
  i : i = .int .i64 ((k : Int) - 1)
  cr : cr = .int .u32 cy
  kb : k ≤ n
  cy : Hid (cy = vl (bs .u32) (xs.drop k) % 2)
  len : Hid (cur.length = n)
  ok : Okd (bs .u32) cur
  own : Mk wr w.heap.size 120 .u32 cur
  val : Hid (vl (bs .u32) (cur.drop k) = vl (bs .u32) (xs.drop k) / 2)
  bel : Below w.heap.size w wr

theorem halfRel_next {w wr : World} {n j cy x : Nat} {xs cur : List Nat} {E C : Int} (hxl : xs.length = n) (hj : j + 1 ≤ n) (hx : xs.getD j 0 = x) (hxb : x ≤ 4294967295)
    (hcy : cy = vl (bs .u32) (xs.drop (j + 1)) % 2) (hcl : cur.length = n) (hco : Okd (bs .u32) cur) (hown : Mk wr w.heap.size 120 .u32 cur)
    (hval : vl (bs .u32) (cur.drop (j + 1)) = vl (bs .u32) (xs.drop (j + 1)) / 2) (hbel : Below w.heap.size w wr) (hE : E = ((x / 2 + cy * 2147483648 : Nat) : Int)) (hC : C = ((x % 2 : Nat) : Int)) :
    ∃ k cy' cur', HalfRel w n xs (.int .u32 C) (.int .i64 ((j : Int) - 1)) (wr.setCell ⟨w.heap.size, j, none⟩ (.int .u32 E)) k cy' cur' := by
  subst hE hC
  have hd := vl_drop_pred (b := bs .u32) (by omega : j < xs.length) hx
  refine ⟨j, x % 2, cur.set j (x / 2 + cy * 2147483648), rfl, rfl, by omega, ?_, by simpa [Hid] using hcl, hco.set j ?_, hown.set_ j _, ?_, hbel.setCell (Nat.le_refl _) _⟩
  · show _ = _
    rw [hd]
    show _ = (x + 4294967296 * _) % 2
    omega
  · show _ < 4294967296
    omega
  · show _ = _
    rw [vl_drop_set (by omega), hval, hd]
    generalize vl (bs .u32) (xs.drop (j + 1)) = y at *
    show _ + 4294967296 * _ = (x + 4294967296 * _) / 2
    omega

set_option maxHeartbeats 800000 in
theorem half_any (A : Option Addr) (n c : Nat) (xs : List Nat) (w : World) (h : Dg .u32 w A n c xs) (hn : n ≤ 1000000) :
    Calls Tryz.prog 197 #[.slice A n c] w (RetN .u32 w (vl (bs .u32) xs / 2) n) := by
  have hmk := make_u32 n hn
  have hxl := Lib.hid h.len
  go_enter Tryz.func197, Tryz.ntmps197
  go_wp2
  go_loopw [4, 5] (fun cr i wr => ∃ k cy cur, HalfRel w n xs cr i wr k cy cur) (fun _ i _ => (intOf i + 1).toNat)
  case atStart =>
    have e : xs.drop n = [] := List.drop_eq_nil_of_le (by have := hxl.out; omega)
    exact ⟨n, 0, zs n, rfl, rfl, Nat.le_refl _, by rw [e]; rfl, zs_len n, zs_ok (by decide) n, Mk.new _ _ _ _, by rw [e, List.drop_eq_nil_of_le (by rw [zs_len]; omega)]; rfl, (Below.refl _ _).alloc (Nat.le_refl _) _⟩
  case round =>
    obtain ⟨k, cy, cur, hi, rfl, hkb, hcy, hcl, hco, hown, hval, hbel⟩ := hrel
    have hr := h.below hbel
    rcases idx_cases hi with ⟨rfl, rfl⟩ | ⟨j, rfl, rfl⟩
    · clear hi
      have hD := hown.dg hcl.out hn hco
      go_wp2_with fail
      refine (trim_any _ _ _ _ _ hD).mono ?_
      rintro e w' ⟨rfl, rfl⟩
      go_wp2
      go_ret
      exact RetN.tr hD hval.out (Nat.le_refl _) hbel
    · clear hi
      obtain ⟨ad, x, rfl, hcx, hcs, hx⟩ := h.at2 hbel (j := j) (by omega)
      have hcs := hcs w.heap.size j
      simp only [Nat.le_refl, forall_const] at hcs
      have hxb : x ≤ 4294967295 := Nat.le_of_lt_succ hx.out.2
      have hcy1 : cy ≤ 1 := by have := hcy.out; omega
      have hcc := hown.cell (i := j) (by rw [hcl.out]; omega)
      have hcf := hown.frozen j
      generalize cur.getD j 0 = y at hcc
      have hor := u32_half x cy hxb hcy1
      have han := u32_and_nat x 1 (by omega) (by omega)
      rw [nat_mask1] at han
      have R := halfRel_next (E := (x : Int) / 2 + (cy : Int) * 2147483648) hxl.out (by omega) hx.out.1 hxb hcy.out hcl.out hco hown hval.out hbel (by omega) han
      have han := Lib.hid han
      go_wp2
      go_roundw
      case rel => exact R
      case measure => simp [intOf]
end Go.Proofs.YtoljffghaklpdaaGreatDoor.Fr


namespace Go.Proofs.YtoljffghaklpdaaGreatDoor.Fr
open Go.RowKit Num

set_option maxHeartbeats 800000 in
theorem bits_any (A : Option Addr) (n c : Nat) (xs : List Nat) (w : World) (h : Dg .u32 w A n c xs) (hn : n ≤ 1000000) :
    Calls Tryz.prog 201 #[.slice A n c] w fun e w' => e = .returned (.int .i64 (bl (vl (bs .u32) xs))) ∧ w = w' := by
  have k1 := h.tr
  have hc1 := k1.cap
  have ht1 := k1.top
  have hN := nrm_tr xs
  have HV := Lib.hid (vl_tr (bs .u32) xs)
  have hle := len_tl h.len
  go_enter Tryz.func201, Tryz.ntmps201
  go_wp2_with fail
  refine (trim_any A n c xs w h).mono ?_
  rintro e w' ⟨rfl, rfl⟩
  clear h
  generalize tr xs = us at *
  generalize tl xs = p at *
  cases p with
  | zero =>
    have hz : Hid (bl (vl (bs .u32) xs) = 0) := by rw [← HV.out, List.eq_nil_of_length_eq_zero k1.len]; rfl
    go_wp2
    go_ret
    exact ⟨ret_i64 (by rw [hz.out]; rfl), rfl⟩
  | succ p =>
    obtain ⟨ad, x, rfl, hcx, hx⟩ := k1.at_ (j := p) (by omega)
    have hxb : x ≤ 4294967295 := Nat.le_of_lt_succ hx.out.2
    have h0 := nrm_top hN k1.len hx.out.1
    have hb := bl_vl k1.len k1.ok hx.out.1 h0
    rw [HV.out] at hb
    have Hb := Lib.hid hb
    clear hb
    have hbx := bl_le (k := 32) (by omega : x < 2 ^ 32)
    have hne : (((p + 1 : Nat) : Int) == 0) = false := by rw [beq_eq_false_iff_ne]; omega
    go_wp2
    go_loop [3, 4] (fun m y => ∃ a b : Nat, m = .int .i64 a ∧ y = .int .u32 b ∧ b ≤ 4294967295 ∧ a ≤ 32000000 + bl x - bl b ∧ bl b ≤ bl x ∧ Hid (a + bl b = 32 * p + bl x)) (fun _ y => (intOf y).toNat)
    case atStart => exact ⟨32 * p, x, by congr 1, rfl, hxb, by omega, Nat.le_refl _, rfl⟩
    case round =>
      obtain ⟨a, b, rfl, rfl, hb1, ha, hbb, hab⟩ := hrel
      by_cases hbz : 0 < b
      · have hbh := Lib.hid (bl_half hbz)
        go_wp2
        go_round
        case rel =>
          have := hbh.out
          have := hab.out
          exact ⟨a + 1, b / 2, by go_num, by go_num, by omega, by omega, by omega, by show _ = _; omega⟩
        case measure => simp [intOf]; omega
      · obtain rfl : b = 0 := by omega
        go_wp2
        go_ret
        exact ⟨ret_i64 (by rw [Hb.out, ← hab.out]; rfl), rfl⟩
end Go.Proofs.YtoljffghaklpdaaGreatDoor.Fr


namespace Go.Proofs.YtoljffghaklpdaaGreatDoor.Fr
open Go.RowKit Num

structure TimesRel (w : World) (n n' : Nat) (xs ys : List Nat) (i : Value) (wr : World) (k : Nat) (cur : List Nat) : Prop where
  i : i = .int .i64 k
  kb : k ≤ n
  len : Hid (cur.length = n + n')
  ok : Okd (bs .u32) cur
  own : Mk wr w.heap.size 120 .u32 cur
  val : Hid (vl (bs .u32) (cur.take (k + n')) = vl (bs .u32) (xs.take k) * vl (bs .u32) ys)
  bel : Below w.heap.size w wr

structure TimesIn (w : World) (n n' k x P : Nat) (ys : List Nat) (cv jv : Value) (wr : World) (j cy : Nat) (cur : List Nat) : Prop where
  i : jv = .int .i64 j
  cv : cv = .int .u64 cy
  jb : j ≤ n'
  cb : cy ≤ 4294967295
  len : Hid (cur.length = n + n')
  ok : Okd (bs .u32) cur
  own : Mk wr w.heap.size 120 .u32 cur
  val : Hid (vl (bs .u32) (cur.take (k + n')) + bs .u32 ^ (k + j) * cy = P + bs .u32 ^ k * (x * vl (bs .u32) (ys.take j)))
  bel : Below w.heap.size w wr

theorem timesIn_next {w wr : World} {n n' k j cy dg x y P nq : Nat} {ys cur : List Nat} {E C : Int} (hkn : k < n) (hj : j < n') (hy : ys.getD j 0 = y) (hdg : cur.getD (k + j) 0 = dg)
    (hcb : cy ≤ 4294967295) (hdb : dg ≤ 4294967295) (hm : x * y ≤ 18446744065119617025)
    (hcl : cur.length = n + n') (hco : Okd (bs .u32) cur) (hown : Mk wr w.heap.size 120 .u32 cur)
    (hval : vl (bs .u32) (cur.take (k + n')) + bs .u32 ^ (k + j) * cy = P + bs .u32 ^ k * (x * vl (bs .u32) (ys.take j))) (hbel : Below w.heap.size w wr)
    (hE : E = ((cy + dg + x * y : Nat) : Int) % 4294967296) (hC : C = ((cy + dg + x * y : Nat) : Int) / 4294967296) :
    ∃ j' cy' cur', TimesIn w n n' k x P ys (.int .u64 C) (.int .i64 ((j : Int) + 1)) ((wr.drewN nq).setCell ⟨w.heap.size, k + j, none⟩ (.int .u32 E)) j' cy' cur' := by
  have e1 : E = (((cy + dg + x * y) % 4294967296 : Nat) : Int) := by rw [hE]; omega
  have e2 : C = (((cy + dg + x * y) / 4294967296 : Nat) : Int) := by rw [hC]; omega
  subst e1 e2
  refine ⟨j + 1, _, cur.set (k + j) ((cy + dg + x * y) % 4294967296), rfl, rfl, by omega, by omega, by simpa [Hid] using hcl, hco.set _ (Nat.mod_lt _ (by decide)), (hown.drewN nq).set_ _ _, ?_, (bel_drewN hbel nq).setCell (Nat.le_refl _) _⟩
  exact times_step (by omega) (by omega) hdg hy hval (by show _ + 4294967296 * _ = _; omega)

theorem timesRel_next {w wr : World} {n n' k cy x : Nat} {xs ys cur : List Nat} (hkn : k < n) (hx : xs.getD k 0 = x) (hyl : ys.length = n') (hcb : cy ≤ 4294967295)
    (hcl : cur.length = n + n') (hco : Okd (bs .u32) cur) (hown : Mk wr w.heap.size 120 .u32 cur)
    (hval : vl (bs .u32) (cur.take (k + n')) + bs .u32 ^ (k + n') * cy = vl (bs .u32) (xs.take k) * vl (bs .u32) ys + bs .u32 ^ k * (x * vl (bs .u32) (ys.take n'))) (hbel : Below w.heap.size w wr) :
    ∃ k' cur', TimesRel w n n' xs ys (.int .i64 ((k : Int) + 1)) (wr.setCell ⟨w.heap.size, k + n', none⟩ (.int .u32 cy)) k' cur' :=
  ⟨k + 1, cur.set (k + n') cy, rfl, by omega, by simpa [Hid] using hcl, hco.set _ (Nat.lt_succ_of_le hcb), hown.set_ _ _, times_next (by omega) hx hyl hval, hbel.setCell (Nat.le_refl _) _⟩

set_option maxHeartbeats 1600000 in
set_option maxRecDepth 100000 in
theorem times_any (A A' : Option Addr) (n c n' c' : Nat) (xs ys : List Nat) (w : World) (h : Dg .u32 w A n c xs) (h' : Dg .u32 w A' n' c' ys) (hn : n ≤ 400000) (hn' : n' ≤ 400000) :
    Calls Tryz.prog 115 #[.slice A n c, .slice A' n' c'] w (RetN .u32 w (vl (bs .u32) xs * vl (bs .u32) ys) (n + n')) := by
  have hmk := make_u32 (n + n') (by omega)
  have e0 : (((n + n' : Nat) : Int)) = (n : Int) + (n' : Int) := by omega
  rw [e0] at hmk
  clear e0
  have hxl := Lib.hid h.len
  have hyl := Lib.hid h'.len
  go_enter Tryz.func115, Tryz.ntmps115
  go_wp2
  go_loopw [6] (fun i wr => ∃ k cur, TimesRel w n n' xs ys i wr k cur) (fun i _ => n - (intOf i).toNat)
  case atStart =>
    exact ⟨0, zs (n + n'), rfl, by omega, zs_len _, zs_ok (by decide) _, Mk.new _ _ _ _, by show vl _ (List.take _ (List.replicate _ _)) = _; rw [List.take_replicate, vl_replicate, List.take_zero, vl_nil, Nat.zero_mul], (Below.refl _ _).alloc (Nat.le_refl _) _⟩
  case round =>
    obtain ⟨wo, rfl⟩ : ∃ wo : World, wo = wr := ⟨_, rfl⟩
    obtain ⟨k, cur, rfl, hkb, hcl, hco, hown, hval, hbel⟩ := hrel
    by_cases hkn : k < n
    · obtain ⟨ad, x, rfl, hcx, hcs, hx⟩ := h.at2 hbel hkn
      have hxb : x ≤ 4294967295 := Nat.le_of_lt_succ hx.out.2
      clear hcx hcs
      go_wp2
      go_loopw [7, 8] (fun cv jv wr => ∃ j cy cur', TimesIn w n n' k x (vl (bs .u32) (xs.take k) * vl (bs .u32) ys) ys cv jv wr j cy cur') (fun _ jv _ => n' - (intOf jv).toNat)
      case atStart => exact ⟨0, 0, cur, rfl, rfl, by omega, by omega, hcl, hco, hown, by show _ = _; rw [hval.out]; simp [vl], hbel⟩
      case round =>
        clear hown hcl hco hval hbel
        clear cur
        obtain ⟨j, cy, cur, rfl, rfl, hjb, hcb, hcl, hco, hown, hval, hbel⟩ := hrel
        by_cases hjn : j < n'
        · obtain ⟨ad1, x1, e1, hcx, hcs, hx1⟩ := h.at2 hbel hkn
          injection e1 with e1
          subst e1
          obtain rfl : x1 = x := hx1.out.1.symm.trans hx.out.1
          obtain ⟨ad', y, rfl, hcy, hcs', hy⟩ := h'.at2 hbel hjn
          have hyb : y ≤ 4294967295 := Nat.le_of_lt_succ hy.out.2
          clear hcs hcs' hx1
          have hcc := hown.cell (i := k + j) (by rw [hcl.out]; omega)
          have hcf := hown.frozen (k + j)
          have hcd : Hid (cur.getD (k + j) 0 ≤ 4294967295 ∧ k + j < cur.length) := ⟨Nat.le_of_lt_succ (hco.getD (by decide) _), by rw [hcl.out]; omega⟩
          obtain ⟨dg, hdg⟩ : ∃ dg, cur.getD (k + j) 0 = dg := ⟨_, rfl⟩
          rw [hdg] at hcc hcd
          have hdg := Lib.hid hdg
          have hdb := hcd.out.1
          have hm1 := mul_bd hxb hyb
          have hm2 : (0 : Int) ≤ (x1 : Int) * (y : Int) := Int.mul_nonneg (by omega) (by omega)
          have hm3 : (x1 : Int) * (y : Int) ≤ 18446744065119617025 := by have : (((x1 * y : Nat)) : Int) ≤ 18446744065119617025 := by omega
                                                                         rwa [Int.natCast_mul] at this
          go_wp2
          go_quiet (fail)
          go_wp2
          have R := timesIn_next (nq := nq) (E := ((cy : Int) + dg + x1 * y) % 4294967296) (C := ((cy : Int) + dg + x1 * y) / 4294967296) hkn hjn hy.out.1 hdg.out hcb hdb hm1 hcl.out hco hown hval.out hbel (by rw [Int.natCast_add, Int.natCast_mul, Int.natCast_add]) (by rw [Int.natCast_add, Int.natCast_mul, Int.natCast_add])
          go_roundw
          case rel => exact R
          case measure => simp [intOf]; omega
        · obtain rfl : j = n' := by omega
          have hcc := hown.cell (i := k + j) (by rw [hcl.out]; omega)
          have hcf := hown.frozen (k + j)
          generalize cur.getD (k + j) 0 = dg at hcc
          have R := timesRel_next hkn hx.out.1 hyl.out hcb hcl.out hco hown hval.out hbel
          go_wp2
          go_roundw
          case rel => exact R
          case measure => simp [intOf]; omega
    · obtain rfl : k = n := by omega
      have hD := hown.dg hcl.out (by omega) hco
      have hv := hval.out
      rw [List.take_of_length_le (by rw [hcl.out]; omega), List.take_of_length_le (by rw [hxl.out]; omega)] at hv
      have Hv := Lib.hid hv
      clear hv
      go_wp2_with fail
      refine (trim_any _ _ _ _ _ hD).mono ?_
      rintro e w' ⟨rfl, rfl⟩
      go_wp2
      go_ret
      exact RetN.tr hD Hv.out (Nat.le_refl _) hbel
end Go.Proofs.YtoljffghaklpdaaGreatDoor.Fr


namespace Go.Proofs.YtoljffghaklpdaaGreatDoor.Fr
open Go.RowKit Num

theorem even_is (A : Option Addr) (n c : Nat) (xs : List Nat) (w : World) (h : Dg .u32 w A n c xs) (x : Nat) (hx : Hid (vl (bs .u32) xs = x)) (b : Bool) (hb : decide (x % 2 = 0) = b) :
    Calls Tryz.prog 196 #[.slice A n c] w fun e w' => e = .returned (.bool b) ∧ w = w' :=
  (even_any A n c xs w h).mono fun e w' he => by rw [hx.out, hb] at he; exact he

theorem order_is (A A' : Option Addr) (n c n' c' : Nat) (xs ys : List Nat) (w : World) (h : Dg .u32 w A n c xs) (h' : Dg .u32 w A' n' c' ys) (x y : Nat) (hx : Hid (vl (bs .u32) xs = x)) (hy : Hid (vl (bs .u32) ys = y)) :
    Calls Tryz.prog 198 #[.slice A n c, .slice A' n' c'] w fun e w' => ∃ m, e = .returned (.int .i64 (ord x y)) ∧ w' = w.drewN m :=
  (order_any A A' n c n' c' xs ys w h h').mono fun e w' he => by rw [hx.out, hy.out] at he; exact he

set_option maxHeartbeats 1600000 in
set_option maxRecDepth 100000 in
theorem gcd_any (A A' : Option Addr) (n c n' c' : Nat) (xs ys : List Nat) (w : World) (h : Dg .u32 w A n c xs) (h' : Dg .u32 w A' n' c' ys) (hN : Nrm xs) (hN' : Nrm ys) (hn : n ≤ 1000000) (hn' : n' ≤ 1000000)
    (hx0 : 0 < vl (bs .u32) xs) (hy0 : 0 < vl (bs .u32) ys) :
    Calls Tryz.prog 162 #[.slice A n c, .slice A' n' c'] w (RetN .u32 w ((vl (bs .u32) xs).gcd (vl (bs .u32) ys)) n) := by
  have hb32 : bl (vl (bs .u32) xs) ≤ 32000000 := by
    have := vl_lt h.ok
    rw [bs32_pow] at this
    have := bl_le this
    have := h.len
    omega
  have HX := Lib.hid (show ∀ zs : List Nat, Nrm zs → vl (bs .u32) zs ≤ vl (bs .u32) xs → zs.length ≤ n from fun zs hz hle => by rw [← h.len]; exact len_le_of one_lt_bs32 h.ok hz hle)
  have nv1 := NV.mk h hN (x := vl (bs .u32) xs) rfl (Nat.le_refl n)
  have nv2 := NV.mk h' hN' (x := vl (bs .u32) ys) rfl (Nat.le_refl n')
  clear h h' hN hN'
  generalize vl (bs .u32) xs = X at *
  generalize vl (bs .u32) ys = Y at *
  go_enter Tryz.func162, Tryz.ntmps162
  go_wp2
  go_loopg [0, 1, 5] X (fun g a b t wr => ∃ u v tt : Nat, NV .u32 wr a u n ∧ NV .u32 wr b v n' ∧ t = .int .i64 tt ∧ 0 < u ∧ 0 < v ∧ Hid (X.gcd Y = 2 ^ tt * u.gcd v) ∧ Hid (tt + bl u = bl X) ∧ tt ≤ bl X ∧ Hid (g = u) ∧ Below w.heap.size w wr)
  case atStart => exact ⟨X, Y, 0, nv1, nv2, rfl, hx0, hy0, show _ = _ by simp, show _ = _ by simp, by omega, rfl, Below.refl _ _⟩
  case round =>
    obtain ⟨u, v, tt, ⟨A1, m1, c1, us, rfl, hD1, hN1, hv1, hm1⟩, ⟨A2, m2, c2, vs, rfl, hD2, hN2, hv2, hm2⟩, rfl, hu0, hv0, hG, hbl, htt, hg, hbel⟩ := hrel
    rcases (show (u % 2 = 0 ∧ v % 2 = 0) ∨ (u % 2 = 0 ∧ v % 2 = 1) ∨ u % 2 = 1 by omega) with ⟨hu, hv⟩ | ⟨hu, hv⟩ | hu
    · have Hu := Lib.hid hu
      have Hv := Lib.hid hv
      clear hu hv
      go_wp2_with fail
      refine (even_is _ _ _ _ _ hD1 u hv1 true (decide_eq_true Hu.out)).mono ?_
      rintro e w' ⟨rfl, rfl⟩
      go_wp2_with fail
      refine (even_is _ _ _ _ _ hD2 v hv2 true (decide_eq_true Hv.out)).mono ?_
      rintro e w' ⟨rfl, rfl⟩
      go_wp2_with fail
      refine (half_any _ _ _ _ _ hD1 (by omega)).mono ?_
      rintro e w' ⟨A3, m3, c3, us3, rfl, hD3, hN3, hv3, hm3, hb3⟩
      go_wp2_with fail
      refine (half_any _ _ _ _ _ (hD2.below hb3) (by omega)).mono ?_
      rintro e w4 ⟨A4, m4, c4, us4, rfl, hD4, hN4, hv4, hm4, hb4⟩
      go_wp2
      go_roundg (u / 2)
      case measure => have := hg.out; omega
      case rel =>
        have hh := bl_half hu0
        have e1 := hbl.out
        have e2 := hb3.size
        exact ⟨u / 2, v / 2, tt + 1, NV.mk (hD3.below hb4) hN3 (by rw [← hv1.out]; exact hv3) (by omega), NV.mk hD4 hN4 (by rw [← hv2.out]; exact hv4) (by omega), by go_num, by have := Hu.out; omega, by have := Hv.out; omega,
          show _ = _ by rw [hG.out, even_gcd Hu.out Hv.out, Nat.pow_succ, Nat.mul_assoc], show _ = _ by omega, by omega, rfl, (hbel.trans (hb3.mono hbel.size)).trans (hb4.mono (Nat.le_trans hbel.size hb3.size))⟩
    all_goals
      have hodd : Hid (u.gcd v % 2 = 1) := by
        first
          | exact odd_of_right hv
          | exact odd_of_left hu
      clear hbl hg
    all_goals
      first
        | (have Hu := Lib.hid hu
           have Hv := Lib.hid hv
           clear hu hv
           go_wp2_with fail
           refine (even_is _ _ _ _ _ hD1 u hv1 true (decide_eq_true Hu.out)).mono ?_
           rintro e w' ⟨rfl, rfl⟩
           go_wp2_with fail
           refine (even_is _ _ _ _ _ hD2 v hv2 false (by have := Hv.out; rw [decide_eq_false_iff_not]; omega)).mono ?_
           rintro e w' ⟨rfl, rfl⟩)
        | (have Hu := Lib.hid hu
           clear hu
           go_wp2_with fail
           refine (even_is _ _ _ _ _ hD1 u hv1 false (by have := Hu.out; rw [decide_eq_false_iff_not]; omega)).mono ?_
           rintro e w' ⟨rfl, rfl⟩)
      go_wp2
      clear Hu
      have nv1 := NV.mk hD1 hN1 hv1 (show m1 ≤ max n n' by omega)
      have nv2 := NV.mk hD2 hN2 hv2 (show m2 ≤ max n n' by omega)
      have hM : max n n' ≤ 1000000 := by omega
      clear hD1 hN1 hv1 hm1 hD2 hN2 hv2 hm2
      generalize max n n' = M at *
      obtain ⟨wo, rfl⟩ : ∃ wo : World, wo = wr := ⟨_, rfl⟩
      go_loopg [0, 1] (u + v) (fun g a b wr => ∃ p q : Nat, NV .u32 wr a p M ∧ NV .u32 wr b q M ∧ 0 < p ∧ Hid (p.gcd q = u.gcd v) ∧ Hid (g = p + q) ∧ Below w.heap.size w wr)
      case atStart => exact ⟨u, v, nv1, nv2, hu0, rfl, rfl, hbel⟩
      case round =>
        clear nv1 nv2 hbel
        obtain ⟨p, q, ⟨A1, m1, c1, us1, rfl, hD1, hN1, hv1, hm1⟩, ⟨A2, m2, c2, us2, rfl, hD2, hN2, hv2, hm2⟩, hp0, hpq, hg2, hbel⟩ := hrel
        by_cases hq0 : q = 0
        · have hm0 : m2 = 0 := by
            have := (hN2.zero (b := bs .u32) (by decide)).1 (by rw [hv2.out]; exact hq0)
            rw [hD2.len] at this; exact this
          have hpG : Hid (p * 2 ^ tt = X.gcd Y) := by
            have e := hpq.out
            rw [hq0, Nat.gcd_zero_right] at e
            show _ = _
            rw [hG.out, e, Nat.mul_comm]
          have hle : Hid (p * 2 ^ tt ≤ X) := by rw [hpG.out]; exact Nat.gcd_le_left _ hx0
          have hm1n : m1 ≤ n := by
            have h2 : 1 ≤ 2 ^ tt := Nat.one_le_two_pow
            have h3 : p * 1 ≤ p * 2 ^ tt := Nat.mul_le_mul_left _ h2
            have h4 := hle.out
            have := HX.out us1 hN1 (by rw [hv1.out]; omega)
            rw [hD1.len] at this; exact this
          clear hpq hq0
          subst hm0
          go_wp2
          obtain ⟨wo2, rfl⟩ : ∃ wo : World, wo = wr := ⟨_, rfl⟩
          go_loopg [0, 6] tt (fun g a i wr => ∃ k e : Nat, i = .int .i64 k ∧ k ≤ tt ∧ Hid (e = p * 2 ^ k) ∧ NV .u32 wr a e n ∧ Hid (g = tt - k) ∧ Below w.heap.size w wr)
          case atStart => exact ⟨0, p, rfl, Nat.zero_le _, show _ = _ by simp, NV.mk hD1 hN1 hv1 hm1n, rfl, hbel⟩
          case round =>
            clear hD1 hN1 hv1 hm1 hbel
            obtain ⟨k, e, rfl, hk, he, ⟨A1, m1, c1, us1, rfl, hD1, hN1, hv1, hm1⟩, hg5, hbel⟩ := hrel
            by_cases hkt : k < tt
            · go_wp2_with fail
              refine (plus_any _ _ _ _ _ _ _ _ _ hD1 hD1 (by omega) (by omega)).mono ?_
              rintro e' w3 ⟨A3, m3, c3, us3, rfl, hD3, hN3, hv3, hm3, hb3⟩
              go_wp2
              go_roundg (tt - (k + 1))
              case measure => have := hg5.out; omega
              case rel =>
                have e2 : e + e = p * 2 ^ (k + 1) := by rw [he.out, Nat.pow_succ, ← Nat.mul_assoc]; omega
                have hv4 : vl (bs .u32) us3 = e + e := by have := hv3.out; rw [hv1.out] at this; exact this
                have h5 : p * 2 ^ (k + 1) ≤ p * 2 ^ tt := Nat.mul_le_mul_left _ (Nat.pow_le_pow_right (by omega) hkt)
                have h6 := HX.out us3 hN3 (by have := hle.out; omega)
                rw [hD3.len] at h6
                exact ⟨k + 1, e + e, by go_num, hkt, e2, NV.mk hD3 hN3 hv4 h6, rfl, hbel.trans (hb3.mono hbel.size)⟩
            · obtain rfl : k = tt := by omega
              go_wp2
              go_ret
              exact ⟨_, _, _, _, rfl, hD1, hN1, show _ = _ by rw [hv1.out, he.out]; exact hpG.out, hm1, hbel⟩
        · have hq1 : 0 < q := by omega
          have hm2' : 0 < m2 := by have := nz_len (b := bs .u32) (xs := us2) (by rw [hv2.out]; exact hq1); rw [hD2.len] at this; exact this
          clear hq0
          go_wp2
          obtain ⟨wo2, rfl⟩ : ∃ wo : World, wo = wr := ⟨_, rfl⟩
          go_loopg [0] p (fun g a wr => ∃ p' : Nat, NV .u32 wr a p' M ∧ 0 < p' ∧ Hid (p'.gcd q = u.gcd v) ∧ Hid (p' ≤ p) ∧ Hid (g = p') ∧ Below wo2.heap.size wo2 wr)
          case atStart => exact ⟨p, NV.mk hD1 hN1 hv1 hm1, hp0, hpq, Nat.le_refl p, rfl, Below.refl _ _⟩
          case round =>
            clear hD1 hN1 hv1 hm1
            obtain ⟨p', ⟨A1, m1, c1, us1, rfl, hD1, hN1, hv1, hm1⟩, hp0', hpq', hpp, hg3, hbel2⟩ := hrel
            by_cases hpe : p' % 2 = 0
            · have Hpe := Lib.hid hpe
              clear hpe
              go_wp2_with fail
              refine (even_is _ _ _ _ _ hD1 p' hv1 true (decide_eq_true Hpe.out)).mono ?_
              rintro e w' ⟨rfl, rfl⟩
              go_wp2_with fail
              refine (half_any _ _ _ _ _ hD1 (by omega)).mono ?_
              rintro e w3 ⟨A3, m3, c3, us3, rfl, hD3, hN3, hv3, hm3, hb3⟩
              go_wp2
              go_roundg (p' / 2)
              case measure => have := hg3.out; omega
              case rel =>
                exact ⟨p' / 2, NV.mk hD3 hN3 (by rw [← hv1.out]; exact hv3) (by omega), by have := Hpe.out; omega, show _ = _ by rw [odd_gcd_half Hpe.out (by rw [hpq'.out]; exact hodd.out), hpq'.out],
                  show _ ≤ _ by have := hpp.out; omega, rfl, hbel2.trans (hb3.mono hbel2.size)⟩
            · have Hpe := Lib.hid (show p' % 2 = 1 by omega)
              clear hpe hg3
              go_wp2_with fail
              refine (even_is _ _ _ _ _ hD1 p' hv1 false (by have := Hpe.out; rw [decide_eq_false_iff_not]; omega)).mono ?_
              rintro e w' ⟨rfl, rfl⟩
              go_wp2
              obtain ⟨wo3, rfl⟩ : ∃ wo : World, wo = wr := ⟨_, rfl⟩
              have nvq := NV.mk (hD2.below hbel2) hN2 hv2 hm2
              go_loopg [1] q (fun g b wr => ∃ q' : Nat, NV .u32 wr b q' M ∧ 0 < q' ∧ Hid (p'.gcd q' = u.gcd v) ∧ Hid (q' ≤ q) ∧ Hid (g = q') ∧ Below wo3.heap.size wo3 wr)
              case atStart => exact ⟨q, nvq, hq1, hpq', Nat.le_refl q, rfl, Below.refl _ _⟩
              case round =>
                clear hD2 hN2 hv2 hm2 nvq
                obtain ⟨q', ⟨A2, m2, c2, us2, rfl, hD2, hN2, hv2, hm2⟩, hq0', hpq2, hqq, hg4, hbel3⟩ := hrel
                by_cases hqe : q' % 2 = 0
                · have Hqe := Lib.hid hqe
                  clear hqe
                  go_wp2_with fail
                  refine (even_is _ _ _ _ _ hD2 q' hv2 true (decide_eq_true Hqe.out)).mono ?_
                  rintro e w' ⟨rfl, rfl⟩
                  go_wp2_with fail
                  refine (half_any _ _ _ _ _ hD2 (by omega)).mono ?_
                  rintro e w3 ⟨A3, m3, c3, us3, rfl, hD3, hN3, hv3, hm3, hb3⟩
                  go_wp2
                  go_roundg (q' / 2)
                  case measure => have := hg4.out; omega
                  case rel =>
                    exact ⟨q' / 2, NV.mk hD3 hN3 (by rw [← hv2.out]; exact hv3) (by omega), by have := Hqe.out; omega, show _ = _ by rw [odd_gcd_half' Hqe.out (by rw [hpq2.out]; exact hodd.out), hpq2.out],
                      show _ ≤ _ by have := hqq.out; omega, rfl, hbel3.trans (hb3.mono hbel3.size)⟩
                · have Hqe := Lib.hid (show q' % 2 = 1 by omega)
                  clear hqe hg4
                  have hDa := hD1.below hbel3
                  have hbel := (hbel.trans (hbel2.mono hbel.size)).trans (hbel3.mono (Nat.le_trans hbel.size hbel2.size))
                  clear hD1
                  go_wp2_with fail
                  refine (even_is _ _ _ _ _ hD2 q' hv2 false (by have := Hqe.out; rw [decide_eq_false_iff_not]; omega)).mono ?_
                  rintro e w' ⟨rfl, rfl⟩
                  go_wp2_with fail
                  refine (order_is _ _ _ _ _ _ _ _ _ hDa hD2 p' q' hv1 hv2).mono ?_
                  rintro e w' ⟨nd, rfl, rfl⟩
                  by_cases hlt : q' < p'
                  · have ho : (0 : Int) < ord p' q' := ord_pos.2 hlt
                    go_wp2_with fail
                    refine (minus_any _ _ _ _ _ _ _ _ _ (hDa.drewN nd) (hD2.drewN nd) (by omega) (by rw [hv1.out, hv2.out]; omega)).mono ?_
                    rintro e w3 ⟨A3, m3, c3, us3, rfl, hD3, hN3, hv3, hm3, hb3⟩
                    go_wp2
                    go_roundg (p')
                    case measure => have := hg2.out; have := hpp.out; omega
                    case rel =>
                      exact ⟨q', p' - q', NV.mk ((hD2.drewN nd).below hb3) hN2 hv2 hm2, NV.mk hD3 hN3 (by rw [← hv1.out, ← hv2.out]; exact hv3) (by omega), hq0',
                        show _ = _ by rw [Nat.gcd_sub_self_right (by omega), Nat.gcd_comm]; exact hpq2.out, show _ = _ by omega, (bel_drewN hbel nd).trans (hb3.mono hbel.size)⟩
                  · have ho : ¬ (0 : Int) < ord p' q' := fun h => hlt (ord_pos.1 h)
                    go_wp2_with fail
                    refine (minus_any _ _ _ _ _ _ _ _ _ (hD2.drewN nd) (hDa.drewN nd) (by omega) (by rw [hv1.out, hv2.out]; omega)).mono ?_
                    rintro e w3 ⟨A3, m3, c3, us3, rfl, hD3, hN3, hv3, hm3, hb3⟩
                    go_wp2
                    go_roundg (q')
                    case measure => have := hg2.out; have := hqq.out; omega
                    case rel =>
                      exact ⟨p', q' - p', NV.mk ((hDa.drewN nd).below hb3) hN1 hv1 hm1, NV.mk hD3 hN3 (by rw [← hv1.out, ← hv2.out]; exact hv3) (by omega), hp0',
                        show _ = _ by rw [Nat.gcd_sub_self_right (by omega)]; exact hpq2.out, show _ = _ by omega, (bel_drewN hbel nd).trans (hb3.mono hbel.size)⟩

end Go.Proofs.YtoljffghaklpdaaGreatDoor.Fr
