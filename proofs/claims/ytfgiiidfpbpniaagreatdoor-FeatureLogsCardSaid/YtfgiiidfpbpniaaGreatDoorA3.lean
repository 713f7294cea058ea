import Derived.Maps.AppendAt
import Derived.Test.YtfgiiidfpbpniaaGreatDoorA2

namespace Go.Proofs.YtfgiiidfpbpniaaGreatDoor.Fr
open Go.RowKit Num

/-- the loop of 'minus': k digits are subtracted -/
structure MinusRel (w : World) (n : Nat) (xs ys : List Nat) (out br i : Value) (wr : World) (k b : Nat) (zs : List Nat) : Prop where
  i : i = .int .i64 k
  br : br = .int .u64 b
  b1 : b ≤ 1
  kb : k ≤ n
  zl : zs.length = k
  zo : Okd (bs .u32) zs
  own : wr.ownsRow w.heap.size 112 1 out k (dcs .u32 zs)
  val : vl (bs .u32) zs + vl (bs .u32) (ys.take k) = vl (bs .u32) (xs.take k) + bs .u32 ^ k * b
  bel : Below w.heap.size w wr

theorem minusRel_next {w wr w1 : World} {n k br br' d x y : Nat} {xs ys zs : List Nat} {out v' : Value} {E : Int} {o : Obj}
    (hx : xs.getD k 0 = x) (hy : ys.getD k 0 = y) (hk : k < n)
    (hzl : zs.length = k) (hzo : Okd (bs .u32) zs) (hval : vl (bs .u32) zs + vl (bs .u32) (ys.take k) = vl (bs .u32) (xs.take k) + bs .u32 ^ k * br) (hbel : Below w.heap.size w wr)
    (hown : wr.ownsRow w.heap.size 112 1 out k (dcs .u32 zs)) (hg : (wr.alloc o).grownBy w1 out.ownBlock)
    (hown' : w1.ownsRow w.heap.size 112 1 v' (k + 1) (dcs .u32 zs ++ [.int .u32 E])) (hb : br' ≤ 1) (hd : d + (br + y) = x + bs .u32 * br') (hE : E = (d : Int)) (hlt : d < bs .u32) :
    ∃ k' b' zs', MinusRel w n xs ys v' (.int .u64 br') (.int .i64 ((k : Int) + 1)) w1 k' b' zs' := by
  subst hE
  refine ⟨k + 1, br', zs ++ [d], rfl, rfl, hb, by omega, by simp [hzl], hzo.append ?_, ?_, minus_step hzl hval hx hy hd, grown_below hbel hbel.size (hown.alloc o) (Nat.le_refl _) hg⟩
  · intro q hq
    simp at hq
    subst hq
    exact hlt
  · rw [dcs_snoc]; exact hown'

set_option maxHeartbeats 800000 in
set_option maxRecDepth 100000 in
theorem minus_fr (A A' : Option Addr) (n c n' c' : Nat) (xs ys : List Nat) (w : World) (h : Dg .u32 w A n c xs) (h' : Dg .u32 w A' n' c' ys) (hn : n ≤ 1000000) (hle : vl (bs .u32) ys ≤ vl (bs .u32) xs) :
    Calls Tryz.prog 123 #[.slice A n c, .slice A' n' c'] w (RetF .u32 w (vl (bs .u32) xs - vl (bs .u32) ys) n) := by
  have hle := Lib.hid hle
  obtain ⟨i0, hi, hz0, hz1, hz2⟩ := info_parts info_u32
  go_enter Tryz.func123, Tryz.ntmps123
  go_wp2
  go_loopw [5, 6, 7] (fun out br i wr => ∃ k b zs, MinusRel w n xs ys out br i wr k b zs) (fun _ _ i _ => n - (intOf i).toNat)
  case atStart => exact ⟨0, 0, [], rfl, rfl, by omega, by omega, rfl, Okd.nil _, World.ownsRow_nil _ _ _ _, rfl, Below.refl _ _⟩
  case round =>
    obtain ⟨k, br, zs, rfl, rfl, hb1, hkb, hzl, hzo, hown, hval, hbel⟩ := hrel
    obtain ⟨A0, c0, rfl, hD⟩ := Dg.of_own hown hzo
    have hfr := Lib.hid (own_fresh hown)
    have hzl := Lib.hid hzl
    have hval := Lib.hid hval
    have hr := h.below hbel
    have hr' := h'.below hbel
    have hsz := hbel.size
    by_cases h1 : k < n
    · obtain ⟨ad, x, rfl, hcx, hx⟩ := hr.at_ h1
      have hxb : x ≤ 4294967295 := Nat.le_of_lt_succ hx.out.2
      by_cases h2 : k < n'
      · obtain ⟨ad', y, rfl, hcy, hy⟩ := hr'.at_ h2
        have hyb : y ≤ 4294967295 := Nat.le_of_lt_succ hy.out.2
        by_cases h3 : x < br + y
        · go_wp2_with (at_builtin; refine wpList_append_own _ rfl _ _ 46 rfl w.heap.size 112 i0 (.int .u32 0) 1 4 Tryz.underlying46 hi hz0 hz1 hz2 rfl (by decide) _ _ _ rfl (hown.alloc _) ⟨wr.heap.size, 0, none⟩ 1 1 [_] rfl rfl (cell_one_new _ _ _) ?c2 ?c3 ?c4 ?c5 ?_)
          case c2 => intro u hu; simp at hu; subst hu; rfl
          case c3 => unfold maxLen; omega
          case c4 => omega
          case c5 => simp; omega
          intro v' w1 hown' hgrow _
          have R := minusRel_next (n := n) (br' := 1) (d := x + 4294967296 - (br + y)) hx.out.1 hy.out.1 h1 hzl.out hzo hval.out hbel hown hgrow hown' (by omega) (by show _ = _ + 4294967296 * _; omega) (by omega) (by show _ < 4294967296; omega)
          clear hown' hgrow hown
          go_wp2
          go_roundw
          case rel => exact R
          case measure => simp [intOf]; omega
        · go_wp2_with (at_builtin; refine wpList_append_own _ rfl _ _ 46 rfl w.heap.size 112 i0 (.int .u32 0) 1 4 Tryz.underlying46 hi hz0 hz1 hz2 rfl (by decide) _ _ _ rfl (hown.alloc _) ⟨wr.heap.size, 0, none⟩ 1 1 [_] rfl rfl (cell_one_new _ _ _) ?c2 ?c3 ?c4 ?c5 ?_)
          case c2 => intro u hu; simp at hu; subst hu; rfl
          case c3 => unfold maxLen; omega
          case c4 => omega
          case c5 => simp; omega
          intro v' w1 hown' hgrow _
          have R := minusRel_next (n := n) (br' := 0) (d := x - (br + y)) hx.out.1 hy.out.1 h1 hzl.out hzo hval.out hbel hown hgrow hown' (by omega) (by show _ = _ + 4294967296 * _; omega) (by omega) (by show _ < 4294967296; omega)
          clear hown' hgrow hown
          go_wp2
          go_roundw
          case rel => exact R
          case measure => simp [intOf]; omega
      · have hy := Lib.hid (getD_out (i := k) (by rw [h'.len]; omega : ys.length ≤ k))
        by_cases h3 : x < br
        · go_wp2_with (at_builtin; refine wpList_append_own _ rfl _ _ 46 rfl w.heap.size 112 i0 (.int .u32 0) 1 4 Tryz.underlying46 hi hz0 hz1 hz2 rfl (by decide) _ _ _ rfl (hown.alloc _) ⟨wr.heap.size, 0, none⟩ 1 1 [_] rfl rfl (cell_one_new _ _ _) ?c2 ?c3 ?c4 ?c5 ?_)
          case c2 => intro u hu; simp at hu; subst hu; rfl
          case c3 => unfold maxLen; omega
          case c4 => omega
          case c5 => simp; omega
          intro v' w1 hown' hgrow _
          have R := minusRel_next (n := n) (br' := 1) (d := x + 4294967296 - br) hx.out.1 hy.out h1 hzl.out hzo hval.out hbel hown hgrow hown' (by omega) (by show _ = _ + 4294967296 * _; omega) (by omega) (by show _ < 4294967296; omega)
          clear hown' hgrow hown
          go_wp2
          go_roundw
          case rel => exact R
          case measure => simp [intOf]; omega
        · go_wp2_with (at_builtin; refine wpList_append_own _ rfl _ _ 46 rfl w.heap.size 112 i0 (.int .u32 0) 1 4 Tryz.underlying46 hi hz0 hz1 hz2 rfl (by decide) _ _ _ rfl (hown.alloc _) ⟨wr.heap.size, 0, none⟩ 1 1 [_] rfl rfl (cell_one_new _ _ _) ?c2 ?c3 ?c4 ?c5 ?_)
          case c2 => intro u hu; simp at hu; subst hu; rfl
          case c3 => unfold maxLen; omega
          case c4 => omega
          case c5 => simp; omega
          intro v' w1 hown' hgrow _
          have R := minusRel_next (n := n) (br' := 0) (d := x - br) hx.out.1 hy.out h1 hzl.out hzo hval.out hbel hown hgrow hown' (by omega) (by show _ = _ + 4294967296 * _; omega) (by omega) (by show _ < 4294967296; omega)
          clear hown' hgrow hown
          go_wp2
          go_roundw
          case rel => exact R
          case measure => simp [intOf]; omega
    · obtain rfl : k = n := by omega
      have hfin := Lib.hid (minus_end h.len hzl.out hzo hle.out h.ok hb1 hval.out)
      go_wp2_with fail
      refine (trim_any _ _ _ _ _ hD).mono ?_
      rintro e w' ⟨rfl, rfl⟩
      go_wp2
      go_ret
      exact RetF.tr hD hfin.out (Nat.le_refl _) hbel hfr.out

theorem minus_any (A A' : Option Addr) (n c n' c' : Nat) (xs ys : List Nat) (w : World) (h : Dg .u32 w A n c xs) (h' : Dg .u32 w A' n' c' ys) (hn : n ≤ 1000000) (hle : vl (bs .u32) ys ≤ vl (bs .u32) xs) :
    Calls Tryz.prog 123 #[.slice A n c, .slice A' n' c'] w (RetN .u32 w (vl (bs .u32) xs - vl (bs .u32) ys) n) :=
  (minus_fr A A' n c n' c' xs ys w h h' hn hle).mono fun _ _ h => h.n

end Go.Proofs.YtfgiiidfpbpniaaGreatDoor.Fr
