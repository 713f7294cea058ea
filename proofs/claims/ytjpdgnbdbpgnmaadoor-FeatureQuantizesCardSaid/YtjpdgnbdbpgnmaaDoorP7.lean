import Derived.Test.YtjpdgnbdbpgnmaaDoorP6
namespace Go.Proofs.YtjpdgnbdbpgnmaaDoor.Fr
open Go.RowKit Num

theorem invert_any (neg : Bool) (v1 v2 : Value) (A A' : Option Addr) (n c n' c' : Nat) (h1 : v1 = .slice A n c) (h2 : v2 = .slice A' n' c') (w : World) :
    Calls Tryd.prog 93 #[.agg #[.bool neg, v1, v2]] w fun e w' => e = .returned (.agg #[.bool neg, v2, v1]) ∧ Below w.heap.size w w' := by
  subst h1 h2
  have hb := ((Below.refl w.heap.size w).alloc (Nat.le_refl _) (.cells #[.bool neg, .slice A n c, .slice A' n' c'] 89)).alloc (by simp) (.cells #[.bool neg, .slice A' n' c', .slice A n c] 89)
  have hB := Blk.new (w.alloc (.cells #[.bool neg, .slice A n c, .slice A' n' c'] 89)) 89 #[.bool neg, .slice A' n' c', .slice A n c]
  rw [show (w.alloc (.cells #[.bool neg, .slice A n c, .slice A' n' c'] 89)).heap.size = w.heap.size + 1 from by simp] at hB
  go_enter Tryd.func93, Tryd.ntmps93
  go_wp2
  exact ret_rat rfl rfl hB rfl ⟨rfl, hb⟩

/-- the sign of a number that was taken apart -/
def sgn (neg : Bool) (N : Nat) : Int := if neg then -1 else if N = 0 then 0 else 1
theorem sign_any (neg : Bool) (A : Option Addr) (n c : Nat) (v2 : Value) (A' : Option Addr) (n' c' : Nat) (h2 : v2 = .slice A' n' c') (xs : List Nat) (w : World) (hD : Dg .u64 w A n c xs) (hN : Nrm xs) (x : Nat) (hx : Hid (vl (bs .u64) xs = x)) :
    Calls Tryd.prog 92 #[.agg #[.bool neg, .slice A n c, v2]] w fun e w' => e = .returned (.int .i64 (sgn neg x)) ∧ w' = w.alloc (.cells #[.bool neg, .slice A n c, v2] 89) := by
  subst h2
  have htop := hD.top
  have hcap := hD.cap
  have hp := nv_pos hD hN (by decide) hx
  rcases (show neg = true ∨ neg = false by cases neg <;> simp) with rfl | rfl
  · go_enter Tryd.func92, Tryd.ntmps92
    go_wp2
    go_ret
    exact ⟨rfl, rfl⟩
  · rcases (show n = 0 ∨ 0 < n by omega) with h0 | h0
    · have hs : Hid (sgn false x = 0) := by
        rw [h0] at hp
        have : ¬ 0 < x := by simpa using hp.symm
        show sgn false x = 0
        unfold sgn; simp; omega
      subst h0
      clear hp
      go_enter Tryd.func92, Tryd.ntmps92
      go_wp2
      go_ret
      exact ⟨ret_i64 (by rw [hs.out]; rfl), rfl⟩
    · have hs : Hid (sgn false x = 1) := by
        have : 0 < x := by
          rw [decide_eq_true h0] at hp
          exact of_decide_eq_true hp.symm
        show sgn false x = 1
        unfold sgn; simp; omega
      clear hp
      have hmin : ¬ ((n : Int) < 1) := by omega
      go_enter Tryd.func92, Tryd.ntmps92
      go_wp2
      go_ret
      exact ⟨ret_i64 (by rw [hs.out]; omega), rfl⟩

theorem Dg.lit1_64 (w : World) (t : TypeId) (x : Nat) (hx : x ≤ 18446744073709551615) : Dg .u64 (w.alloc (.cells #[.int .u64 (x : Int)] t)) (some ⟨w.heap.size, 0, none⟩) 1 1 [x] :=
  Mk.dg64 (Mk.new w t .u64 [x]) rfl (by decide : 1 ≤ 9223372036854775807) (by intro y hy; simp at hy; subst hy; exact Nat.lt_succ_of_le hx)

theorem three_blocks (w : World) (cs : Array Value) (x : Nat) (hx : x ≤ 18446744073709551615) :
    Blk (((w.alloc (.cells cs 89)).alloc (.cells #[.int .u64 (x : Int)] 107)).alloc (.cells #[.int .u64 1] 107)) w.heap.size 89 cs ∧
    Dg .u64 (((w.alloc (.cells cs 89)).alloc (.cells #[.int .u64 (x : Int)] 107)).alloc (.cells #[.int .u64 1] 107)) (some ⟨w.heap.size + 1, 0, none⟩) 1 1 [x] ∧
    Dg .u64 (((w.alloc (.cells cs 89)).alloc (.cells #[.int .u64 (x : Int)] 107)).alloc (.cells #[.int .u64 1] 107)) (some ⟨w.heap.size + 1 + 1, 0, none⟩) 1 1 [1] ∧
    Below w.heap.size w (((w.alloc (.cells cs 89)).alloc (.cells #[.int .u64 (x : Int)] 107)).alloc (.cells #[.int .u64 1] 107)) := by
  have e1 : (w.alloc (.cells cs 89)).heap.size = w.heap.size + 1 := by simp
  have e2 : ((w.alloc (.cells cs 89)).alloc (.cells #[.int .u64 (x : Int)] 107)).heap.size = w.heap.size + 1 + 1 := by simp
  refine ⟨((Blk.new w _ cs).alloc _).alloc _, ?_, ?_, (((Below.refl _ _).alloc (Nat.le_refl _) _).alloc (by rw [e1]; omega) _).alloc (by rw [e2]; omega) _⟩
  · have := (Dg.lit1_64 (w.alloc (.cells cs 89)) 107 x hx).alloc (.cells #[.int .u64 1] 107)
    rw [e1] at this; exact this
  · have := Dg.lit_one64 ((w.alloc (.cells cs 89)).alloc (.cells #[.int .u64 (x : Int)] 107)) 107
    rw [e2] at this; exact this

set_option maxHeartbeats 800000 in
theorem whole_any (n : Int) (w : World) (hr : -9223372036854775808 ≤ n ∧ n ≤ 9223372036854775807) :
    Calls Tryd.prog 97 #[.int .i64 n] w (RetR w (decide (n < 0)) n.natAbs 1 1) := by
  have hR0 := Blk.new w 89 #[.bool false, .slice none 0 0, .slice none 0 0]
  have hw0 := (Below.refl w.heap.size w).alloc (Nat.le_refl _) (.cells #[.bool false, .slice none 0 0, .slice none 0 0] 89)
  rcases (show n < 0 ∨ 0 ≤ n by omega) with h0 | h0
  · have hneg := Lib.hid (u64_negneg n ⟨hr.1, h0⟩)
    have hD0 := Dg.lit1_64 (w.alloc (.cells #[.bool false, .slice none 0 0, .slice none 0 0] 89)) 107 n.natAbs (by omega)
    rw [show (w.alloc (.cells #[.bool false, .slice none 0 0, .slice none 0 0] 89)).heap.size = w.heap.size + 1 from by simp] at hD0
    go_enter Tryd.func97, Tryd.ntmps97
    go_wp2_with fail
    rw [hneg.out]
    refine (trim64_any _ _ _ _ _ hD0).mono ?_
    rintro e w' ⟨rfl, rfl⟩
    go_wp2_with fail
    refine (one64_any _).mono ?_
    rintro e w' ⟨rfl, rfl⟩
    have H3 := fun cs => Lib.hid (three_blocks w cs n.natAbs (by omega))
    have hneg2 := Lib.hid (show true = decide (n < 0) from (decide_eq_true h0).symm)
    go_wp2
    exact ret_rat rfl rfl (H3 _).out.1 rfl ⟨_, rfl, ⟨_, _, by rw [hneg2.out], NV.mk (H3 _).out.2.1.tr (nrm_tr _) (show _ = _ by rw [vl_tr]; simp [vl]) (by have := tl_le [n.natAbs]; simpa using this), NV.mk (H3 _).out.2.2.1 nrm_lit1 (vl_lit1 _) (by omega)⟩, (H3 _).out.2.2.2⟩
  · have hnn := Lib.hid (show n = (n.natAbs : Int) by omega)
    have hD0 := Dg.lit1_64 (w.alloc (.cells #[.bool false, .slice none 0 0, .slice none 0 0] 89)) 107 n.natAbs (by omega)
    rw [show (w.alloc (.cells #[.bool false, .slice none 0 0, .slice none 0 0] 89)).heap.size = w.heap.size + 1 from by simp, ← hnn.out] at hD0
    go_enter Tryd.func97, Tryd.ntmps97
    go_wp2_with fail
    refine (trim64_any _ _ _ _ _ hD0).mono ?_
    rintro e w' ⟨rfl, rfl⟩
    go_wp2_with fail
    refine (one64_any _).mono ?_
    rintro e w' ⟨rfl, rfl⟩
    have H3 := fun cs => Lib.hid (three_blocks w cs n.natAbs (by omega))
    rw [← hnn.out] at H3
    go_wp2
    exact ret_rat rfl rfl (H3 _).out.1 rfl ⟨_, rfl, ⟨_, _, rfl, NV.mk (H3 _).out.2.1.tr (nrm_tr _) (show _ = _ by rw [vl_tr]; simp [vl]) (by have := tl_le [n.natAbs]; simpa using this), NV.mk (H3 _).out.2.2.1 nrm_lit1 (vl_lit1 _) (by omega)⟩, (H3 _).out.2.2.2⟩
end Go.Proofs.YtjpdgnbdbpgnmaaDoor.Fr
