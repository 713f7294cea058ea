import Derived.Maps.AppendAt
import Derived.Test.YtfgiiidfpbpniaaGreatDoorA0

namespace Go.Proofs.YtfgiiidfpbpniaaGreatDoor.Fr
open Go.RowKit Num


/-- the loop of 'plus': i digits are added -/
structure PlusRel (w : World) (n n' : Nat) (xs ys : List Nat) (out cr i : Value) (wr : World) (k c : Nat) (zs : List Nat) : Prop where
  i : i = .int .i64 k
  cr : cr = .int .u64 c
  c1 : c ≤ 1
  kb : k ≤ max n n' + 1
  ke : max n n' < k → c = 0
  zl : zs.length = k
  zo : Okd (bs .u32) zs
  own : wr.ownsRow w.heap.size 112 1 out k (dcs .u32 zs)
  val : vl (bs .u32) zs + bs .u32 ^ k * c = vl (bs .u32) (xs.take k) + vl (bs .u32) (ys.take k)
  bel : Below w.heap.size w wr

theorem grown_below {B : Nat} {w wr w1 : World} {o : Obj} {v : Value} {base e n : Nat} {xs : List Value} (hb : Below B w wr) (hB : B ≤ wr.heap.size) (hown : (wr.alloc o).ownsRow base e 1 v n xs) (hbase : B ≤ base)
    (hg : (wr.alloc o).grownBy w1 v.ownBlock) : Below B w w1 :=
  (hb.alloc hB o).grown hg (by simp; omega) (fun k hk => Nat.le_trans hbase (hown.lt k hk).1)

/-- one round of 'plus': the digits x, y (0 behind the end) and what is carried have the sum t -/
theorem plusRel_next {w wr w1 : World} {n n' k cr t x y : Nat} {xs ys zs : List Nat} {out v' : Value} {E C : Int} {o : Obj}
    (hx : xs.getD k 0 = x) (hy : ys.getD k 0 = y) (hend : max n n' ≤ k → x = 0 ∧ y = 0) (c1 : cr ≤ 1) (hx1 : x ≤ 4294967295) (hy1 : y ≤ 4294967295)
    (hzl : zs.length = k) (hzo : Okd (bs .u32) zs) (hval : vl (bs .u32) zs + bs .u32 ^ k * cr = vl (bs .u32) (xs.take k) + vl (bs .u32) (ys.take k)) (hbel : Below w.heap.size w wr)
    (hown : wr.ownsRow w.heap.size 112 1 out k (dcs .u32 zs)) (hg : (wr.alloc o).grownBy w1 out.ownBlock) (hkk : k ≤ max n n')
    (hown' : w1.ownsRow w.heap.size 112 1 v' (k + 1) (dcs .u32 zs ++ [.int .u32 E])) (ht : t = cr + x + y) (hE : E = ((t % 4294967296 : Nat) : Int)) (hC : C = ((t / 4294967296 : Nat) : Int)) :
    ∃ k' c' zs', PlusRel w n n' xs ys v' (.int .u64 C) (.int .i64 ((k : Int) + 1)) w1 k' c' zs' := by
  subst ht hE hC
  refine ⟨k + 1, (cr + x + y) / 4294967296, zs ++ [(cr + x + y) % 4294967296], rfl, rfl, by omega, by omega, fun h => ?_, by simp [hzl], hzo.append ?_, ?_, plus_step hzl hval hx hy, grown_below hbel hbel.size (hown.alloc o) (Nat.le_refl _) hg⟩
  · have := hend (by omega); omega
  · intro q hq
    simp at hq
    subst hq
    exact Nat.mod_lt _ (by decide)
  · rw [dcs_snoc]; exact hown'

set_option maxHeartbeats 800000 in
theorem plus_any (A A' : Option Addr) (n c n' c' : Nat) (xs ys : List Nat) (w : World) (h : Dg .u32 w A n c xs) (h' : Dg .u32 w A' n' c' ys) (hn : n ≤ 1000000) (hn' : n' ≤ 1000000) :
    Calls Tryz.prog 124 #[.slice A n c, .slice A' n' c'] w (RetN .u32 w (vl (bs .u32) xs + vl (bs .u32) ys) (max n n' + 1)) := by
  obtain ⟨i0, hi, hz0, hz1, hz2⟩ := info_parts info_u32
  go_enter Tryz.func124, Tryz.ntmps124
  go_wp2
  go_loopw [5, 6, 7] (fun out cr i wr => ∃ k c zs, PlusRel w n n' xs ys out cr i wr k c zs) (fun _ _ i _ => max n n' + 1 - (intOf i).toNat)
  case atStart => exact ⟨0, 0, [], rfl, rfl, by omega, by omega, by omega, rfl, Okd.nil _, World.ownsRow_nil _ _ _ _, rfl, Below.refl _ _⟩
  case round =>
    obtain ⟨k, cr, zs, rfl, rfl, hc1, hkb, hke, hzl, hzo, hown, hval, hbel⟩ := hrel
    obtain ⟨A0, c0, rfl, hD⟩ := Dg.of_own hown hzo
    have hke := Lib.hid hke
    have hzl := Lib.hid hzl
    have hval := Lib.hid hval
    have hr := h.below hbel
    have hr' := h'.below hbel
    have hsz := hbel.size
    by_cases h1 : k < n
    · obtain ⟨ad, x, rfl, hcx, hx⟩ := hr.at_ h1
      have hxb : x ≤ 4294967295 := Nat.le_of_lt_succ hx.out.2
      by_cases h2 : k < n'
      · obtain ⟨ad', y, rfl, hcy, hy⟩ := hr'.at_ h2
        have hyb : y ≤ 4294967295 := Nat.le_of_lt_succ hy.out.2
        go_wp2_with (at_builtin; refine wpList_append_own _ rfl _ _ 46 rfl w.heap.size 112 i0 (.int .u32 0) 1 4 Tryz.underlying46 hi hz0 hz1 hz2 rfl (by decide) _ _ _ rfl (hown.alloc _) ⟨wr.heap.size, 0, none⟩ 1 1 [_] rfl rfl (cell_one_new _ _ _) ?c2 ?c3 ?c4 ?c5 ?_)
        case c2 => intro u hu; simp at hu; subst hu; rfl
        case c3 => unfold maxLen; omega
        case c4 => omega
        case c5 => simp; omega
        intro v' w1 hown' hgrow _
        have R := plusRel_next (n := n) (n' := n') (t := cr + x + y) (x := x) (y := y) hx.out.1 hy.out.1 (by omega) hc1 (by omega) (by omega) hzl.out hzo hval.out hbel hown hgrow (by omega) hown' (by omega) (by omega) rfl
        clear hown' hgrow hown
        go_wp2
        go_roundw
        case rel => first | exact R | (obtain ⟨k', c', zs', R⟩ := R; exact ⟨k', c', zs', by simpa using R⟩)
        case measure => simp [intOf]; omega
      · have hy := Lib.hid (getD_out (i := k) (by rw [h'.len]; omega : ys.length ≤ k))
        go_wp2_with (at_builtin; refine wpList_append_own _ rfl _ _ 46 rfl w.heap.size 112 i0 (.int .u32 0) 1 4 Tryz.underlying46 hi hz0 hz1 hz2 rfl (by decide) _ _ _ rfl (hown.alloc _) ⟨wr.heap.size, 0, none⟩ 1 1 [_] rfl rfl (cell_one_new _ _ _) ?c2 ?c3 ?c4 ?c5 ?_)
        case c2 => intro u hu; simp at hu; subst hu; rfl
        case c3 => unfold maxLen; omega
        case c4 => omega
        case c5 => simp; omega
        intro v' w1 hown' hgrow _
        have R := plusRel_next (n := n) (n' := n') (t := cr + x) (x := x) (y := 0) hx.out.1 hy.out (by omega) hc1 (by omega) (by omega) hzl.out hzo hval.out hbel hown hgrow (by omega) hown' (by omega) (by omega) rfl
        clear hown' hgrow hown
        go_wp2
        go_roundw
        case rel => first | exact R | (obtain ⟨k', c', zs', R⟩ := R; exact ⟨k', c', zs', by simpa using R⟩)
        case measure => simp [intOf]; omega
    · have hx := Lib.hid (getD_out (i := k) (by rw [h.len]; omega : xs.length ≤ k))
      by_cases h2 : k < n'
      · obtain ⟨ad', y, rfl, hcy, hy⟩ := hr'.at_ h2
        have hyb : y ≤ 4294967295 := Nat.le_of_lt_succ hy.out.2
        go_wp2_with (at_builtin; refine wpList_append_own _ rfl _ _ 46 rfl w.heap.size 112 i0 (.int .u32 0) 1 4 Tryz.underlying46 hi hz0 hz1 hz2 rfl (by decide) _ _ _ rfl (hown.alloc _) ⟨wr.heap.size, 0, none⟩ 1 1 [_] rfl rfl (cell_one_new _ _ _) ?c2 ?c3 ?c4 ?c5 ?_)
        case c2 => intro u hu; simp at hu; subst hu; rfl
        case c3 => unfold maxLen; omega
        case c4 => omega
        case c5 => simp; omega
        intro v' w1 hown' hgrow _
        have R := plusRel_next (n := n) (n' := n') (t := cr + y) (x := 0) (y := y) hx.out hy.out.1 (by omega) hc1 (by omega) (by omega) hzl.out hzo hval.out hbel hown hgrow (by omega) hown' (by omega) (by omega) rfl
        clear hown' hgrow hown
        go_wp2
        go_roundw
        case rel => first | exact R | (obtain ⟨k', c', zs', R⟩ := R; exact ⟨k', c', zs', by simpa using R⟩)
        case measure => simp [intOf]; omega
      · have hy := Lib.hid (getD_out (i := k) (by rw [h'.len]; omega : ys.length ≤ k))
        by_cases h3 : 0 < cr
        · have hk1 : k ≤ max n n' := by
            have := hke.out
            omega
          go_wp2_with (at_builtin; refine wpList_append_own _ rfl _ _ 46 rfl w.heap.size 112 i0 (.int .u32 0) 1 4 Tryz.underlying46 hi hz0 hz1 hz2 rfl (by decide) _ _ _ rfl (hown.alloc _) ⟨wr.heap.size, 0, none⟩ 1 1 [_] rfl rfl (cell_one_new _ _ _) ?c2 ?c3 ?c4 ?c5 ?_)
          case c2 => intro u hu; simp at hu; subst hu; rfl
          case c3 => unfold maxLen; omega
          case c4 => omega
          case c5 => simp; omega
          intro v' w1 hown' hgrow _
          have R := plusRel_next (n := n) (n' := n') (t := cr) (x := 0) (y := 0) hx.out hy.out (by omega) hc1 (by omega) (by omega) hzl.out hzo hval.out hbel hown hgrow (by omega) hown' (by omega) (by omega) rfl
          clear hown' hgrow hown
          go_wp2
          go_roundw
          case rel => first | exact R | (obtain ⟨k', c', zs', R⟩ := R; exact ⟨k', c', zs', by simpa using R⟩)
          case measure => simp [intOf]; omega
        · obtain rfl : cr = 0 := by omega
          have hfin : Hid (vl (bs .u32) zs = vl (bs .u32) xs + vl (bs .u32) ys) := by
            have := hval.out
            rw [List.take_of_length_le (by rw [h.len]; omega), List.take_of_length_le (by rw [h'.len]; omega), Nat.mul_zero, Nat.add_zero] at this
            exact this
          go_wp2_with fail
          refine (trim_any _ _ _ _ _ hD).mono ?_
          rintro e w' ⟨rfl, rfl⟩
          go_wp2
          go_ret
          exact RetN.tr hD hfin.out (by omega) hbel

end Go.Proofs.YtfgiiidfpbpniaaGreatDoor.Fr
