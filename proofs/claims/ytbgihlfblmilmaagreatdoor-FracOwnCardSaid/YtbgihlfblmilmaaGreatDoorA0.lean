/- The reference's functions on natural numbers (digits of 32 bits): each returns what its Lean counterpart says. -/
import Derived.WalkKit
import Derived.Outline
import Derived.WalkLawsBesides
import Derived.WalkSpells
import Derived.Handy
import Derived.Deep.QuietTactic
import Derived.BigQuiet
import Derived.Test.YtbgihlfblmilmaaGreatDoorProg
import Derived.Test.YtbgihlfblmilmaaGreatDoorNum
import Derived.Maps.AppendAt
namespace Go.Proofs.YtbgihlfblmilmaaGreatDoor.Fr
open Go.RowKit Num

set_option maxHeartbeats 400000 in
theorem trim_any (A : Option Addr) (n c : Nat) (xs : List Nat) (w : World) (h : Dg .u32 w A n c xs) :
    Calls Tryz.prog 89 #[.slice A n c] w fun e w' => e = .returned (.slice A (tl xs) c) ∧ w = w' := by
  have hn := h.cap
  have hc := h.top
  have HT : Hid (tln xs n = tl xs) := by rw [tl, h.len]; rfl
  go_enter Tryz.func89, Tryz.ntmps89
  go_wp2
  go_loop [3] (fun i => ∃ k : Nat, k ≤ n ∧ i = .int .i64 k ∧ Hid (tln xs k = tl xs)) (fun i => (intOf i).toNat)
  case atStart => exact ⟨n, Nat.le_refl _, rfl, HT⟩
  case round =>
    obtain ⟨k, hk, rfl, hr⟩ := hrel
    cases k with
    | zero =>
      go_wp2
      go_ret
      exact ⟨ret_sl hr.out, rfl⟩
    | succ k =>
      obtain ⟨ad, x, rfl, hcell, hx⟩ := h.at_ (j := k) (by omega)
      by_cases h0 : x = 0
      · have HS : Hid (tln xs (k + 1) = tln xs k) := tln_zero (hx.out.1.trans h0)
        have hb : ((x : Int) == 0) = true := by rw [h0]; rfl
        clear h0
        go_wp2
        go_round
        case rel => exact ⟨k, by omega, rfl, HS.out.symm.trans hr.out⟩
        case measure => simp [intOf]
      · have HS : Hid (tln xs (k + 1) = k + 1) := tln_not (by rw [hx.out.1]; exact h0)
        have hb : ((x : Int) == 0) = false := by rw [beq_eq_false_iff_ne]; omega
        clear h0
        go_wp2
        go_ret
        exact ⟨ret_sl (HS.out.symm.trans hr.out), rfl⟩

end Go.Proofs.YtbgihlfblmilmaaGreatDoor.Fr

namespace Go.Proofs.YtbgihlfblmilmaaGreatDoor.Fr
open Go.RowKit Num


/-- the loop of 'plus': i digits are added -/
structure PlusRel (w : World) (n n' : Nat) (xs ys : List Nat) (out cr i : Value) (wr : World) (k c : Nat) (zs : List Nat) : Prop where
  i : i = .int .i64 k
  cr : cr = .int .u64 c
  c1 : c ≤ 1
  kb : k ≤ max n n' + 1
  ke : max n n' < k → c = 0
  zl : zs.length = k
  zo : Okd (bs .u32) zs
  own : wr.ownsRow w.heap.size 63 1 out k (dcs .u32 zs)
  val : vl (bs .u32) zs + bs .u32 ^ k * c = vl (bs .u32) (xs.take k) + vl (bs .u32) (ys.take k)
  bel : Below w.heap.size w wr

theorem grown_below {B : Nat} {w wr w1 : World} {o : Obj} {v : Value} {base e n : Nat} {xs : List Value} (hb : Below B w wr) (hB : B ≤ wr.heap.size) (hown : (wr.alloc o).ownsRow base e 1 v n xs) (hbase : B ≤ base)
    (hg : (wr.alloc o).grownBy w1 v.ownBlock) : Below B w w1 :=
  (hb.alloc hB o).grown hg (by simp; omega) (fun k hk => Nat.le_trans hbase (hown.lt k hk).1)

/-- one round of 'plus': the digits x, y (0 behind the end) and what is carried have the sum t -/
theorem plusRel_next {w wr w1 : World} {n n' k cr t x y : Nat} {xs ys zs : List Nat} {out v' : Value} {E C : Int} {o : Obj}
    (hx : xs.getD k 0 = x) (hy : ys.getD k 0 = y) (hend : max n n' ≤ k → x = 0 ∧ y = 0) (c1 : cr ≤ 1) (hx1 : x ≤ 4294967295) (hy1 : y ≤ 4294967295)
    (hzl : zs.length = k) (hzo : Okd (bs .u32) zs) (hval : vl (bs .u32) zs + bs .u32 ^ k * cr = vl (bs .u32) (xs.take k) + vl (bs .u32) (ys.take k)) (hbel : Below w.heap.size w wr)
    (hown : wr.ownsRow w.heap.size 63 1 out k (dcs .u32 zs)) (hg : (wr.alloc o).grownBy w1 out.ownBlock) (hkk : k ≤ max n n')
    (hown' : w1.ownsRow w.heap.size 63 1 v' (k + 1) (dcs .u32 zs ++ [.int .u32 E])) (ht : t = cr + x + y) (hE : E = ((t % 4294967296 : Nat) : Int)) (hC : C = ((t / 4294967296 : Nat) : Int)) :
    ∃ k' c' zs', PlusRel w n n' xs ys v' (.int .u64 C) (.int .i64 ((k : Int) + 1)) w1 k' c' zs' := by
  subst ht hE hC
  refine ⟨k + 1, (cr + x + y) / 4294967296, zs ++ [(cr + x + y) % 4294967296], rfl, rfl, by omega, by omega, fun h => ?_, by simp [hzl], hzo.append ?_, ?_, plus_step hzl hval hx hy, grown_below hbel hbel.size (hown.alloc o) (Nat.le_refl _) hg⟩
  · have := hend (by omega); omega
  · intro q hq
    simp at hq
    subst hq
    exact Nat.mod_lt _ (by decide)
  · rw [dcs_snoc]; exact hown'

set_option maxHeartbeats 800000 in
theorem plus_any (A A' : Option Addr) (n c n' c' : Nat) (xs ys : List Nat) (w : World) (h : Dg .u32 w A n c xs) (h' : Dg .u32 w A' n' c' ys) (hn : n ≤ 1000000) (hn' : n' ≤ 1000000) :
    Calls Tryz.prog 91 #[.slice A n c, .slice A' n' c'] w (RetN .u32 w (vl (bs .u32) xs + vl (bs .u32) ys) (max n n' + 1)) := by
  obtain ⟨i0, hi, hz0, hz1, hz2⟩ := info_parts info_u32
  go_enter Tryz.func91, Tryz.ntmps91
  go_wp2
  go_loopw [5, 6, 7] (fun out cr i wr => ∃ k c zs, PlusRel w n n' xs ys out cr i wr k c zs) (fun _ _ i _ => max n n' + 1 - (intOf i).toNat)
  case atStart => exact ⟨0, 0, [], rfl, rfl, by omega, by omega, by omega, rfl, Okd.nil _, World.ownsRow_nil _ _ _ _, rfl, Below.refl _ _⟩
  case round =>
    obtain ⟨k, cr, zs, rfl, rfl, hc1, hkb, hke, hzl, hzo, hown, hval, hbel⟩ := hrel
    obtain ⟨A0, c0, rfl, hD⟩ := Dg.of_own hown hzo
    have hke := Lib.hid hke
    have hzl := Lib.hid hzl
    have hval := Lib.hid hval
    have hr := h.below hbel
    have hr' := h'.below hbel
    have hsz := hbel.size
    by_cases h1 : k < n
    · obtain ⟨ad, x, rfl, hcx, hx⟩ := hr.at_ h1
      have hxb : x ≤ 4294967295 := Nat.le_of_lt_succ hx.out.2
      by_cases h2 : k < n'
      · obtain ⟨ad', y, rfl, hcy, hy⟩ := hr'.at_ h2
        have hyb : y ≤ 4294967295 := Nat.le_of_lt_succ hy.out.2
        go_wp2_with (at_builtin; refine wpList_append_own _ rfl _ _ 22 rfl w.heap.size 63 i0 (.int .u32 0) 1 4 Tryz.underlying22 hi hz0 hz1 hz2 rfl (by decide) _ _ _ rfl (hown.alloc _) ⟨wr.heap.size, 0, none⟩ 1 1 [_] rfl rfl (cell_one_new _ _ _) ?c2 ?c3 ?c4 ?c5 ?_)
        case c2 => intro u hu; simp at hu; subst hu; rfl
        case c3 => unfold maxLen; omega
        case c4 => omega
        case c5 => simp; omega
        intro v' w1 hown' hgrow _
        have R := plusRel_next (n := n) (n' := n') (t := cr + x + y) (x := x) (y := y) hx.out.1 hy.out.1 (by omega) hc1 (by omega) (by omega) hzl.out hzo hval.out hbel hown hgrow (by omega) hown' (by omega) (by omega) rfl
        clear hown' hgrow hown
        go_wp2
        go_roundw
        case rel => first | exact R | (obtain ⟨k', c', zs', R⟩ := R; exact ⟨k', c', zs', by simpa using R⟩)
        case measure => simp [intOf]; omega
      · have hy := Lib.hid (getD_out (i := k) (by rw [h'.len]; omega : ys.length ≤ k))
        go_wp2_with (at_builtin; refine wpList_append_own _ rfl _ _ 22 rfl w.heap.size 63 i0 (.int .u32 0) 1 4 Tryz.underlying22 hi hz0 hz1 hz2 rfl (by decide) _ _ _ rfl (hown.alloc _) ⟨wr.heap.size, 0, none⟩ 1 1 [_] rfl rfl (cell_one_new _ _ _) ?c2 ?c3 ?c4 ?c5 ?_)
        case c2 => intro u hu; simp at hu; subst hu; rfl
        case c3 => unfold maxLen; omega
        case c4 => omega
        case c5 => simp; omega
        intro v' w1 hown' hgrow _
        have R := plusRel_next (n := n) (n' := n') (t := cr + x) (x := x) (y := 0) hx.out.1 hy.out (by omega) hc1 (by omega) (by omega) hzl.out hzo hval.out hbel hown hgrow (by omega) hown' (by omega) (by omega) rfl
        clear hown' hgrow hown
        go_wp2
        go_roundw
        case rel => first | exact R | (obtain ⟨k', c', zs', R⟩ := R; exact ⟨k', c', zs', by simpa using R⟩)
        case measure => simp [intOf]; omega
    · have hx := Lib.hid (getD_out (i := k) (by rw [h.len]; omega : xs.length ≤ k))
      by_cases h2 : k < n'
      · obtain ⟨ad', y, rfl, hcy, hy⟩ := hr'.at_ h2
        have hyb : y ≤ 4294967295 := Nat.le_of_lt_succ hy.out.2
        go_wp2_with (at_builtin; refine wpList_append_own _ rfl _ _ 22 rfl w.heap.size 63 i0 (.int .u32 0) 1 4 Tryz.underlying22 hi hz0 hz1 hz2 rfl (by decide) _ _ _ rfl (hown.alloc _) ⟨wr.heap.size, 0, none⟩ 1 1 [_] rfl rfl (cell_one_new _ _ _) ?c2 ?c3 ?c4 ?c5 ?_)
        case c2 => intro u hu; simp at hu; subst hu; rfl
        case c3 => unfold maxLen; omega
        case c4 => omega
        case c5 => simp; omega
        intro v' w1 hown' hgrow _
        have R := plusRel_next (n := n) (n' := n') (t := cr + y) (x := 0) (y := y) hx.out hy.out.1 (by omega) hc1 (by omega) (by omega) hzl.out hzo hval.out hbel hown hgrow (by omega) hown' (by omega) (by omega) rfl
        clear hown' hgrow hown
        go_wp2
        go_roundw
        case rel => first | exact R | (obtain ⟨k', c', zs', R⟩ := R; exact ⟨k', c', zs', by simpa using R⟩)
        case measure => simp [intOf]; omega
      · have hy := Lib.hid (getD_out (i := k) (by rw [h'.len]; omega : ys.length ≤ k))
        by_cases h3 : 0 < cr
        · have hk1 : k ≤ max n n' := by
            have := hke.out
            omega
          go_wp2_with (at_builtin; refine wpList_append_own _ rfl _ _ 22 rfl w.heap.size 63 i0 (.int .u32 0) 1 4 Tryz.underlying22 hi hz0 hz1 hz2 rfl (by decide) _ _ _ rfl (hown.alloc _) ⟨wr.heap.size, 0, none⟩ 1 1 [_] rfl rfl (cell_one_new _ _ _) ?c2 ?c3 ?c4 ?c5 ?_)
          case c2 => intro u hu; simp at hu; subst hu; rfl
          case c3 => unfold maxLen; omega
          case c4 => omega
          case c5 => simp; omega
          intro v' w1 hown' hgrow _
          have R := plusRel_next (n := n) (n' := n') (t := cr) (x := 0) (y := 0) hx.out hy.out (by omega) hc1 (by omega) (by omega) hzl.out hzo hval.out hbel hown hgrow (by omega) hown' (by omega) (by omega) rfl
          clear hown' hgrow hown
          go_wp2
          go_roundw
          case rel => first | exact R | (obtain ⟨k', c', zs', R⟩ := R; exact ⟨k', c', zs', by simpa using R⟩)
          case measure => simp [intOf]; omega
        · obtain rfl : cr = 0 := by omega
          have hfin : Hid (vl (bs .u32) zs = vl (bs .u32) xs + vl (bs .u32) ys) := by
            have := hval.out
            rw [List.take_of_length_le (by rw [h.len]; omega), List.take_of_length_le (by rw [h'.len]; omega), Nat.mul_zero, Nat.add_zero] at this
            exact this
          go_wp2_with fail
          refine (trim_any _ _ _ _ _ hD).mono ?_
          rintro e w' ⟨rfl, rfl⟩
          go_wp2
          go_ret
          exact RetN.tr hD hfin.out (by omega) hbel

end Go.Proofs.YtbgihlfblmilmaaGreatDoor.Fr

namespace Go.Proofs.YtbgihlfblmilmaaGreatDoor.Fr
open Go.RowKit Num

/-- the loop of 'minus': k digits are subtracted -/
structure MinusRel (w : World) (n : Nat) (xs ys : List Nat) (out br i : Value) (wr : World) (k b : Nat) (zs : List Nat) : Prop where
  i : i = .int .i64 k
  br : br = .int .u64 b
  b1 : b ≤ 1
  kb : k ≤ n
  zl : zs.length = k
  zo : Okd (bs .u32) zs
  own : wr.ownsRow w.heap.size 63 1 out k (dcs .u32 zs)
  val : vl (bs .u32) zs + vl (bs .u32) (ys.take k) = vl (bs .u32) (xs.take k) + bs .u32 ^ k * b
  bel : Below w.heap.size w wr

theorem minusRel_next {w wr w1 : World} {n k br br' d x y : Nat} {xs ys zs : List Nat} {out v' : Value} {E : Int} {o : Obj}
    (hx : xs.getD k 0 = x) (hy : ys.getD k 0 = y) (hk : k < n)
    (hzl : zs.length = k) (hzo : Okd (bs .u32) zs) (hval : vl (bs .u32) zs + vl (bs .u32) (ys.take k) = vl (bs .u32) (xs.take k) + bs .u32 ^ k * br) (hbel : Below w.heap.size w wr)
    (hown : wr.ownsRow w.heap.size 63 1 out k (dcs .u32 zs)) (hg : (wr.alloc o).grownBy w1 out.ownBlock)
    (hown' : w1.ownsRow w.heap.size 63 1 v' (k + 1) (dcs .u32 zs ++ [.int .u32 E])) (hb : br' ≤ 1) (hd : d + (br + y) = x + bs .u32 * br') (hE : E = (d : Int)) (hlt : d < bs .u32) :
    ∃ k' b' zs', MinusRel w n xs ys v' (.int .u64 br') (.int .i64 ((k : Int) + 1)) w1 k' b' zs' := by
  subst hE
  refine ⟨k + 1, br', zs ++ [d], rfl, rfl, hb, by omega, by simp [hzl], hzo.append ?_, ?_, minus_step hzl hval hx hy hd, grown_below hbel hbel.size (hown.alloc o) (Nat.le_refl _) hg⟩
  · intro q hq
    simp at hq
    subst hq
    exact hlt
  · rw [dcs_snoc]; exact hown'

set_option maxHeartbeats 800000 in
set_option maxRecDepth 100000 in
theorem minus_fr (A A' : Option Addr) (n c n' c' : Nat) (xs ys : List Nat) (w : World) (h : Dg .u32 w A n c xs) (h' : Dg .u32 w A' n' c' ys) (hn : n ≤ 1000000) (hle : vl (bs .u32) ys ≤ vl (bs .u32) xs) :
    Calls Tryz.prog 95 #[.slice A n c, .slice A' n' c'] w (RetF .u32 w (vl (bs .u32) xs - vl (bs .u32) ys) n) := by
  have hle := Lib.hid hle
  obtain ⟨i0, hi, hz0, hz1, hz2⟩ := info_parts info_u32
  go_enter Tryz.func95, Tryz.ntmps95
  go_wp2
  go_loopw [5, 6, 7] (fun out br i wr => ∃ k b zs, MinusRel w n xs ys out br i wr k b zs) (fun _ _ i _ => n - (intOf i).toNat)
  case atStart => exact ⟨0, 0, [], rfl, rfl, by omega, by omega, rfl, Okd.nil _, World.ownsRow_nil _ _ _ _, rfl, Below.refl _ _⟩
  case round =>
    obtain ⟨k, br, zs, rfl, rfl, hb1, hkb, hzl, hzo, hown, hval, hbel⟩ := hrel
    obtain ⟨A0, c0, rfl, hD⟩ := Dg.of_own hown hzo
    have hfr := Lib.hid (own_fresh hown)
    have hzl := Lib.hid hzl
    have hval := Lib.hid hval
    have hr := h.below hbel
    have hr' := h'.below hbel
    have hsz := hbel.size
    by_cases h1 : k < n
    · obtain ⟨ad, x, rfl, hcx, hx⟩ := hr.at_ h1
      have hxb : x ≤ 4294967295 := Nat.le_of_lt_succ hx.out.2
      by_cases h2 : k < n'
      · obtain ⟨ad', y, rfl, hcy, hy⟩ := hr'.at_ h2
        have hyb : y ≤ 4294967295 := Nat.le_of_lt_succ hy.out.2
        by_cases h3 : x < br + y
        · go_wp2_with (at_builtin; refine wpList_append_own _ rfl _ _ 22 rfl w.heap.size 63 i0 (.int .u32 0) 1 4 Tryz.underlying22 hi hz0 hz1 hz2 rfl (by decide) _ _ _ rfl (hown.alloc _) ⟨wr.heap.size, 0, none⟩ 1 1 [_] rfl rfl (cell_one_new _ _ _) ?c2 ?c3 ?c4 ?c5 ?_)
          case c2 => intro u hu; simp at hu; subst hu; rfl
          case c3 => unfold maxLen; omega
          case c4 => omega
          case c5 => simp; omega
          intro v' w1 hown' hgrow _
          have R := minusRel_next (n := n) (br' := 1) (d := x + 4294967296 - (br + y)) hx.out.1 hy.out.1 h1 hzl.out hzo hval.out hbel hown hgrow hown' (by omega) (by show _ = _ + 4294967296 * _; omega) (by omega) (by show _ < 4294967296; omega)
          clear hown' hgrow hown
          go_wp2
          go_roundw
          case rel => exact R
          case measure => simp [intOf]; omega
        · go_wp2_with (at_builtin; refine wpList_append_own _ rfl _ _ 22 rfl w.heap.size 63 i0 (.int .u32 0) 1 4 Tryz.underlying22 hi hz0 hz1 hz2 rfl (by decide) _ _ _ rfl (hown.alloc _) ⟨wr.heap.size, 0, none⟩ 1 1 [_] rfl rfl (cell_one_new _ _ _) ?c2 ?c3 ?c4 ?c5 ?_)
          case c2 => intro u hu; simp at hu; subst hu; rfl
          case c3 => unfold maxLen; omega
          case c4 => omega
          case c5 => simp; omega
          intro v' w1 hown' hgrow _
          have R := minusRel_next (n := n) (br' := 0) (d := x - (br + y)) hx.out.1 hy.out.1 h1 hzl.out hzo hval.out hbel hown hgrow hown' (by omega) (by show _ = _ + 4294967296 * _; omega) (by omega) (by show _ < 4294967296; omega)
          clear hown' hgrow hown
          go_wp2
          go_roundw
          case rel => exact R
          case measure => simp [intOf]; omega
      · have hy := Lib.hid (getD_out (i := k) (by rw [h'.len]; omega : ys.length ≤ k))
        by_cases h3 : x < br
        · go_wp2_with (at_builtin; refine wpList_append_own _ rfl _ _ 22 rfl w.heap.size 63 i0 (.int .u32 0) 1 4 Tryz.underlying22 hi hz0 hz1 hz2 rfl (by decide) _ _ _ rfl (hown.alloc _) ⟨wr.heap.size, 0, none⟩ 1 1 [_] rfl rfl (cell_one_new _ _ _) ?c2 ?c3 ?c4 ?c5 ?_)
          case c2 => intro u hu; simp at hu; subst hu; rfl
          case c3 => unfold maxLen; omega
          case c4 => omega
          case c5 => simp; omega
          intro v' w1 hown' hgrow _
          have R := minusRel_next (n := n) (br' := 1) (d := x + 4294967296 - br) hx.out.1 hy.out h1 hzl.out hzo hval.out hbel hown hgrow hown' (by omega) (by show _ = _ + 4294967296 * _; omega) (by omega) (by show _ < 4294967296; omega)
          clear hown' hgrow hown
          go_wp2
          go_roundw
          case rel => exact R
          case measure => simp [intOf]; omega
        · go_wp2_with (at_builtin; refine wpList_append_own _ rfl _ _ 22 rfl w.heap.size 63 i0 (.int .u32 0) 1 4 Tryz.underlying22 hi hz0 hz1 hz2 rfl (by decide) _ _ _ rfl (hown.alloc _) ⟨wr.heap.size, 0, none⟩ 1 1 [_] rfl rfl (cell_one_new _ _ _) ?c2 ?c3 ?c4 ?c5 ?_)
          case c2 => intro u hu; simp at hu; subst hu; rfl
          case c3 => unfold maxLen; omega
          case c4 => omega
          case c5 => simp; omega
          intro v' w1 hown' hgrow _
          have R := minusRel_next (n := n) (br' := 0) (d := x - br) hx.out.1 hy.out h1 hzl.out hzo hval.out hbel hown hgrow hown' (by omega) (by show _ = _ + 4294967296 * _; omega) (by omega) (by show _ < 4294967296; omega)
          clear hown' hgrow hown
          go_wp2
          go_roundw
          case rel => exact R
          case measure => simp [intOf]; omega
    · obtain rfl : k = n := by omega
      have hfin := Lib.hid (minus_end h.len hzl.out hzo hle.out h.ok hb1 hval.out)
      go_wp2_with fail
      refine (trim_any _ _ _ _ _ hD).mono ?_
      rintro e w' ⟨rfl, rfl⟩
      go_wp2
      go_ret
      exact RetF.tr hD hfin.out (Nat.le_refl _) hbel hfr.out

theorem minus_any (A A' : Option Addr) (n c n' c' : Nat) (xs ys : List Nat) (w : World) (h : Dg .u32 w A n c xs) (h' : Dg .u32 w A' n' c' ys) (hn : n ≤ 1000000) (hle : vl (bs .u32) ys ≤ vl (bs .u32) xs) :
    Calls Tryz.prog 95 #[.slice A n c, .slice A' n' c'] w (RetN .u32 w (vl (bs .u32) xs - vl (bs .u32) ys) n) :=
  (minus_fr A A' n c n' c' xs ys w h h' hn hle).mono fun _ _ h => h.n

end Go.Proofs.YtbgihlfblmilmaaGreatDoor.Fr

namespace Go.Proofs.YtbgihlfblmilmaaGreatDoor.Fr
open Go.RowKit Num

theorem even_any (A : Option Addr) (n c : Nat) (xs : List Nat) (w : World) (h : Dg .u32 w A n c xs) :
    Calls Tryz.prog 151 #[.slice A n c] w fun e w' => e = .returned (.bool (decide (vl (bs .u32) xs % 2 = 0))) ∧ w = w' := by
  have hm := Lib.hid (vl_mod (bs .u32) xs 2 rfl)
  by_cases h0 : 0 < n
  · obtain ⟨ad, x, rfl, hcx, hx⟩ := h.at_ h0
    have hcx : w.cell? ad = some (.int .u32 x) := hcx
    have hxb : x ≤ 4294967295 := Nat.le_of_lt_succ hx.out.2
    have hn0 : ((n : Int) == 0) = false := by rw [beq_eq_false_iff_ne]; omega
    by_cases h2 : x % 2 = 0
    · have ht : ((x : Int) % 2 == 0) = true := by rw [beq_iff_eq]; omega
      have hf := Lib.hid (show decide (vl (bs .u32) xs % 2 = 0) = true by rw [hm.out, hx.out.1]; simpa using h2)
      clear h2
      go_enter Tryz.func151, Tryz.ntmps151
      go_wp2
      go_ret
      exact ⟨ret_bool hf.out.symm, rfl⟩
    · have ht : ((x : Int) % 2 == 0) = false := by rw [beq_eq_false_iff_ne]; omega
      have hf := Lib.hid (show decide (vl (bs .u32) xs % 2 = 0) = false by rw [hm.out, hx.out.1]; simpa using h2)
      clear h2
      go_enter Tryz.func151, Tryz.ntmps151
      go_wp2
      go_ret
      exact ⟨ret_bool hf.out.symm, rfl⟩
  · obtain rfl : n = 0 := by omega
    have hf : Hid (decide (vl (bs .u32) xs % 2 = 0) = true) := by rw [List.eq_nil_of_length_eq_zero h.len]; rfl
    go_enter Tryz.func151, Tryz.ntmps151
    go_wp2
    go_ret
    exact ⟨ret_bool hf.out.symm, rfl⟩

theorem one_any (A : Option Addr) (n c : Nat) (xs : List Nat) (w : World) (h : Dg .u32 w A n c xs) (hn : Nrm xs) :
    Calls Tryz.prog 123 #[.slice A n c] w fun e w' => e = .returned (.bool (decide (vl (bs .u32) xs = 1))) ∧ w = w' := by
  by_cases h0 : n = 1
  · subst h0
    obtain ⟨ad, x, rfl, hcx, hx⟩ := h.at_ (j := 0) (by omega)
    have hcx : w.cell? ad = some (.int .u32 x) := hcx
    have hv := nrm_one hn h.ok h.len hx.out.1
    by_cases h2 : x = 1
    · have ht : ((x : Int) == 1) = true := by rw [beq_iff_eq]; omega
      have hf := Lib.hid (show decide (vl (bs .u32) xs = 1) = true by rw [hv]; simpa using h2)
      clear h2 hv
      go_enter Tryz.func123, Tryz.ntmps123
      go_wp2
      go_ret
      exact ⟨ret_bool hf.out.symm, rfl⟩
    · have ht : ((x : Int) == 1) = false := by rw [beq_eq_false_iff_ne]; omega
      have hf := Lib.hid (show decide (vl (bs .u32) xs = 1) = false by rw [hv]; simpa using h2)
      clear h2 hv
      go_enter Tryz.func123, Tryz.ntmps123
      go_wp2
      go_ret
      exact ⟨ret_bool hf.out.symm, rfl⟩
  · have ht : ((n : Int) == 1) = false := by rw [beq_eq_false_iff_ne]; omega
    have hf : Hid (decide (vl (bs .u32) xs = 1) = false) := by
      simp only [decide_eq_false_iff_not]
      intro hv
      have := one_of one_lt_bs32 hn h.ok hv
      have hl := h.len
      rw [this] at hl
      exact h0 hl.symm
    clear h0
    go_enter Tryz.func123, Tryz.ntmps123
    go_wp2
    go_ret
    exact ⟨ret_bool hf.out.symm, rfl⟩

/-- the loop of 'half': the digits from place k on are halved -/
structure HalfRel (w : World) (n : Nat) (xs : List Nat) (cr i : Value) (wr : World) (k cy : Nat) (cur : List Nat) : Prop where
  i : i = .int .i64 ((k : Int) - 1)
  cr : cr = .int .u32 cy
  kb : k ≤ n
  cy : Hid (cy = vl (bs .u32) (xs.drop k) % 2)
  len : Hid (cur.length = n)
  ok : Okd (bs .u32) cur
  own : Mk wr w.heap.size 63 .u32 cur
  val : Hid (vl (bs .u32) (cur.drop k) = vl (bs .u32) (xs.drop k) / 2)
  bel : Below w.heap.size w wr

theorem halfRel_next {w wr : World} {n j cy x : Nat} {xs cur : List Nat} {E C : Int} (hxl : xs.length = n) (hj : j + 1 ≤ n) (hx : xs.getD j 0 = x) (hxb : x ≤ 4294967295)
    (hcy : cy = vl (bs .u32) (xs.drop (j + 1)) % 2) (hcl : cur.length = n) (hco : Okd (bs .u32) cur) (hown : Mk wr w.heap.size 63 .u32 cur)
    (hval : vl (bs .u32) (cur.drop (j + 1)) = vl (bs .u32) (xs.drop (j + 1)) / 2) (hbel : Below w.heap.size w wr) (hE : E = ((x / 2 + cy * 2147483648 : Nat) : Int)) (hC : C = ((x % 2 : Nat) : Int)) :
    ∃ k cy' cur', HalfRel w n xs (.int .u32 C) (.int .i64 ((j : Int) - 1)) (wr.setCell ⟨w.heap.size, j, none⟩ (.int .u32 E)) k cy' cur' := by
  subst hE hC
  have hd := vl_drop_pred (b := bs .u32) (by omega : j < xs.length) hx
  refine ⟨j, x % 2, cur.set j (x / 2 + cy * 2147483648), rfl, rfl, by omega, ?_, by simpa [Hid] using hcl, hco.set j ?_, hown.set_ j _, ?_, hbel.setCell (Nat.le_refl _) _⟩
  · show _ = _
    rw [hd]
    show _ = (x + 4294967296 * _) % 2
    omega
  · show _ < 4294967296
    omega
  · show _ = _
    rw [vl_drop_set (by omega), hval, hd]
    generalize vl (bs .u32) (xs.drop (j + 1)) = y at *
    show _ + 4294967296 * _ = (x + 4294967296 * _) / 2
    omega

set_option maxHeartbeats 800000 in
theorem half_any (A : Option Addr) (n c : Nat) (xs : List Nat) (w : World) (h : Dg .u32 w A n c xs) (hn : n ≤ 1000000) :
    Calls Tryz.prog 152 #[.slice A n c] w (RetN .u32 w (vl (bs .u32) xs / 2) n) := by
  have hmk := make_u32 n hn
  have hxl := Lib.hid h.len
  go_enter Tryz.func152, Tryz.ntmps152
  go_wp2
  go_loopw [4, 5] (fun cr i wr => ∃ k cy cur, HalfRel w n xs cr i wr k cy cur) (fun _ i _ => (intOf i + 1).toNat)
  case atStart =>
    have e : xs.drop n = [] := List.drop_eq_nil_of_le (by have := hxl.out; omega)
    exact ⟨n, 0, zs n, rfl, rfl, Nat.le_refl _, by rw [e]; rfl, zs_len n, zs_ok (by decide) n, Mk.new _ _ _ _, by rw [e, List.drop_eq_nil_of_le (by rw [zs_len]; omega)]; rfl, (Below.refl _ _).alloc (Nat.le_refl _) _⟩
  case round =>
    obtain ⟨k, cy, cur, hi, rfl, hkb, hcy, hcl, hco, hown, hval, hbel⟩ := hrel
    have hr := h.below hbel
    rcases idx_cases hi with ⟨rfl, rfl⟩ | ⟨j, rfl, rfl⟩
    · clear hi
      have hD := hown.dg hcl.out hn hco
      go_wp2_with fail
      refine (trim_any _ _ _ _ _ hD).mono ?_
      rintro e w' ⟨rfl, rfl⟩
      go_wp2
      go_ret
      exact RetN.tr hD hval.out (Nat.le_refl _) hbel
    · clear hi
      obtain ⟨ad, x, rfl, hcx, hcs, hx⟩ := h.at2 hbel (j := j) (by omega)
      have hcs := hcs w.heap.size j
      simp only [Nat.le_refl, forall_const] at hcs
      have hxb : x ≤ 4294967295 := Nat.le_of_lt_succ hx.out.2
      have hcy1 : cy ≤ 1 := by have := hcy.out; omega
      have hcc := hown.cell (i := j) (by rw [hcl.out]; omega)
      have hcf := hown.frozen j
      generalize cur.getD j 0 = y at hcc
      have hor := u32_half x cy hxb hcy1
      have han := u32_and_nat x 1 (by omega) (by omega)
      rw [nat_mask1] at han
      have R := halfRel_next (E := (x : Int) / 2 + (cy : Int) * 2147483648) hxl.out (by omega) hx.out.1 hxb hcy.out hcl.out hco hown hval.out hbel (by omega) han
      have han := Lib.hid han
      go_wp2
      go_roundw
      case rel => exact R
      case measure => simp [intOf]
end Go.Proofs.YtbgihlfblmilmaaGreatDoor.Fr

namespace Go.Proofs.YtbgihlfblmilmaaGreatDoor.Fr
open Go.RowKit Num

set_option maxHeartbeats 800000 in
theorem order_any (A A' : Option Addr) (n c n' c' : Nat) (xs ys : List Nat) (w : World) (h : Dg .u32 w A n c xs) (h' : Dg .u32 w A' n' c' ys) :
    Calls Tryz.prog 94 #[.slice A n c, .slice A' n' c'] w fun e w' => ∃ m, e = .returned (.int .i64 (ord (vl (bs .u32) xs) (vl (bs .u32) ys))) ∧ w' = w.drewN m := by
  have k1 := h.tr
  have k2 := h'.tr
  have lt1 := fun hl => Lib.hid (tr_lt one_lt_bs32 (ys := ys) h.ok hl)
  have lt2 := fun hl => Lib.hid (tr_lt one_lt_bs32 (ys := xs) h'.ok hl)
  have hc1 := k1.cap
  have hc2 := k2.cap
  have ht1 := k1.top
  have ht2 := k2.top
  have HV : Hid (vl (bs .u32) (tr xs) = vl (bs .u32) xs ∧ vl (bs .u32) (tr ys) = vl (bs .u32) ys) := ⟨vl_tr _ _, vl_tr _ _⟩
  have HL : Hid ((tr xs).length = tl xs ∧ (tr ys).length = tl ys) := ⟨len_tr _, len_tr _⟩
  go_enter Tryz.func94, Tryz.ntmps94
  go_wp2_with fail
  refine (trim_any A n c xs w h).mono ?_
  rintro e w' ⟨rfl, rfl⟩
  go_wp2_with fail
  refine (trim_any A' n' c' ys w h').mono ?_
  rintro e w' ⟨rfl, rfl⟩
  clear h h'
  generalize tr xs = us at *
  generalize tr ys = vs at *
  generalize tl xs = p at *
  generalize tl ys = q at *
  rcases Nat.lt_trichotomy p q with hpq | rfl | hpq
  · have hne : ((p : Int) != (q : Int)) = true := by rw [bne_iff_ne]; omega
    go_wp2
    go_ret
    exact ⟨0, ret_i64 (ord_lt ((lt1 hpq).out)).symm, rfl⟩
  · clear lt1 lt2
    go_wp2
    go_loopw [5] (fun i wr => OrdRel us vs i ∧ ∃ m, wr = w.drewN m) (fun i _ => (intOf i + 1).toNat)
    case atStart => exact ⟨ordRel_start p k1.len k2.len, 0, rfl⟩
    case round =>
      obtain ⟨hor, m, rfl⟩ := hrel
      rcases hor with ⟨k, rfl, hk, hd⟩ | ⟨rfl, he⟩
      · have hkp : k < p := by have := k1.len; omega
        have Hd := Lib.hid hd
        clear hd hk
        obtain ⟨ad, x, rfl, hcx, hx⟩ := k1.at_ (j := k) hkp
        obtain ⟨ad', y, rfl, hcy, hy⟩ := k2.at_ (j := k) hkp
        have hcx' : (w.drewN m).cell? (ad.add k) = some (.int .u32 x) := hcx
        have hcy' : (w.drewN m).cell? (ad'.add k) = some (.int .u32 y) := hcy
        rcases Nat.lt_trichotomy x y with hxy | rfl | hxy
        · have hne : ((x : Int) != (y : Int)) = true := by rw [bne_iff_ne]; omega
          have HF := Lib.hid (dig_lt k1.ok (k1.len.trans k2.len.symm) Hd.out (by rw [k1.len]; exact hkp) hx.out.1 hy.out.1 hxy)
          go_wp2
          go_quiet (fail)
          go_wp2
          go_quiet (fail)
          go_wp2
          go_ret
          exact ⟨_, ret_i64 (ord_lt (by rw [← HV.out.1, ← HV.out.2]; exact HF.out)).symm, by rw [World.drewN_drewN, World.drewN_drewN]⟩
        · have HF := Lib.hid (drop_down (k1.len.trans k2.len.symm) Hd.out (by rw [k1.len]; exact hkp) hx.out.1 hy.out.1)
          have hkl := Lib.hid (show k < us.length by rw [k1.len]; exact hkp)
          go_wp2
          go_quiet (fail)
          go_wp2
          go_roundw
          case rel => exact ⟨ordRel_next HF.out hkl.out, _, rfl⟩
          case measure => simp [intOf]
        · have hne : ((x : Int) != (y : Int)) = true := by rw [bne_iff_ne]; omega
          have HF := Lib.hid (dig_lt k2.ok (k2.len.trans k1.len.symm) Hd.out.symm (by rw [k2.len]; exact hkp) hy.out.1 hx.out.1 hxy)
          have hnl : ¬ (x : Int) < (y : Int) := by omega
          go_wp2
          go_quiet (fail)
          go_wp2
          go_quiet (fail)
          go_wp2
          go_ret
          exact ⟨_, ret_i64 (ord_gt (by rw [← HV.out.1, ← HV.out.2]; exact HF.out)).symm, by rw [World.drewN_drewN, World.drewN_drewN]⟩
      · have he' := Lib.hid he
        clear he
        go_wp2
        go_ret
        exact ⟨m, ret_i64 (ord_eq (by rw [← HV.out.1, ← HV.out.2, he'.out])).symm, rfl⟩
  · have hne : ((p : Int) != (q : Int)) = true := by rw [bne_iff_ne]; omega
    go_wp2
    go_ret
    exact ⟨0, ret_i64 (ord_gt ((lt2 hpq).out)).symm, rfl⟩

end Go.Proofs.YtbgihlfblmilmaaGreatDoor.Fr
