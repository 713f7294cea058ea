import Derived.Test.YtoljffghaklpdaaDoorP6
import Derived.Deep.DeepCutAuto
import Derived.Test.YtoljffghaklpdaaDoorNum

namespace Go.Proofs.YtoljffghaklpdaaDoor.Fr
open Go.RowKit Num

theorem invert_any (neg : Bool) (v1 v2 : Value) (A A' : Option Addr) (n c n' c' : Nat) (h1 : v1 = .slice A n c) (h2 : v2 = .slice A' n' c') (w : World) :
    Calls Tryd.prog 93 #[.agg #[.bool neg, v1, v2]] w fun e w' => e = .returned (.agg #[.bool neg, v2, v1]) ∧ Below w.heap.size w w' := by
  subst h1 h2
  have hb := ((Below.refl w.heap.size w).alloc (Nat.le_refl _) (.cells #[.bool neg, .slice A n c, .slice A' n' c'] 89)).alloc (by simp) (.cells #[.bool neg, .slice A' n' c', .slice A n c] 89)
  have hB := Blk.new (w.alloc (.cells #[.bool neg, .slice A n c, .slice A' n' c'] 89)) 89 #[.bool neg, .slice A' n' c', .slice A n c]
  rw [show (w.alloc (.cells #[.bool neg, .slice A n c, .slice A' n' c'] 89)).heap.size = w.heap.size + 1 from by simp] at hB
  go_enter Tryd.func93, Tryd.ntmps93
  go_wp2
  exact ret_rat rfl rfl hB rfl ⟨rfl, hb⟩

/-- the sign of a number that was taken apart -/
def sgn (neg : Bool) (N : Nat) : Int := if neg then -1 else if N = 0 then 0 else 1
theorem sign_any (neg : Bool) (A : Option Addr) (n c : Nat) (v2 : Value) (A' : Option Addr) (n' c' : Nat) (h2 : v2 = .slice A' n' c') (xs : List Nat) (w : World) (hD : Dg .u64 w A n c xs) (hN : Nrm xs) (x : Nat) (hx : Hid (vl (bs .u64) xs = x)) :
    Calls Tryd.prog 92 #[.agg #[.bool neg, .slice A n c, v2]] w fun e w' => e = .returned (.int .i64 (sgn neg x)) ∧ w' = w.alloc (.cells #[.bool neg, .slice A n c, v2] 89) := by
  subst h2
  have htop := hD.top
  have hcap := hD.cap
  have hp := nv_pos hD hN (by decide) hx
  rcases (show neg = true ∨ neg = false by cases neg <;> simp) with rfl | rfl
  · go_enter Tryd.func92, Tryd.ntmps92
    go_wp2
    go_ret
    exact ⟨rfl, rfl⟩
  · rcases (show n = 0 ∨ 0 < n by omega) with h0 | h0
    · have hs : Hid (sgn false x = 0) := by
        rw [h0] at hp
        have : ¬ 0 < x := by simpa using hp.symm
        show sgn false x = 0
        unfold sgn; simp; omega
      subst h0
      clear hp
      go_enter Tryd.func92, Tryd.ntmps92
      go_wp2
      go_ret
      exact ⟨ret_i64 (by rw [hs.out]; rfl), rfl⟩
    · have hs : Hid (sgn false x = 1) := by
        have : 0 < x := by
          rw [decide_eq_true h0] at hp
          exact of_decide_eq_true hp.symm
        show sgn false x = 1
        unfold sgn; simp; omega
      clear hp
      have hmin : ¬ ((n : Int) < 1) := by omega
      go_enter Tryd.func92, Tryd.ntmps92
      go_wp2
      go_ret
      exact ⟨ret_i64 (by rw [hs.out]; omega), rfl⟩

theorem Dg.lit1_64 (w : World) (t : TypeId) (x : Nat) (hx : x ≤ 18446744073709551615) : Dg .u64 (w.alloc (.cells #[.int .u64 (x : Int)] t)) (some ⟨w.heap.size, 0, none⟩) 1 1 [x] :=
  Mk.dg64 (Mk.new w t .u64 [x]) rfl (by decide : 1 ≤ 9223372036854775807) (by intro y hy; simp at hy; subst hy; exact Nat.lt_succ_of_le hx)

theorem three_blocks (w : World) (cs : Array Value) (x : Nat) (hx : x ≤ 18446744073709551615) :
    Blk (((w.alloc (.cells cs 89)).alloc (.cells #[.int .u64 (x : Int)] 107)).alloc (.cells #[.int .u64 1] 107)) w.heap.size 89 cs ∧
    Dg .u64 (((w.alloc (.cells cs 89)).alloc (.cells #[.int .u64 (x : Int)] 107)).alloc (.cells #[.int .u64 1] 107)) (some ⟨w.heap.size + 1, 0, none⟩) 1 1 [x] ∧
    Dg .u64 (((w.alloc (.cells cs 89)).alloc (.cells #[.int .u64 (x : Int)] 107)).alloc (.cells #[.int .u64 1] 107)) (some ⟨w.heap.size + 1 + 1, 0, none⟩) 1 1 [1] ∧
    Below w.heap.size w (((w.alloc (.cells cs 89)).alloc (.cells #[.int .u64 (x : Int)] 107)).alloc (.cells #[.int .u64 1] 107)) := by
  have e1 : (w.alloc (.cells cs 89)).heap.size = w.heap.size + 1 := by simp
  have e2 : ((w.alloc (.cells cs 89)).alloc (.cells #[.int .u64 (x : Int)] 107)).heap.size = w.heap.size + 1 + 1 := by simp
  refine ⟨((Blk.new w _ cs).alloc _).alloc _, ?_, ?_, (((Below.refl _ _).alloc (Nat.le_refl _) _).alloc (by rw [e1]; omega) _).alloc (by rw [e2]; omega) _⟩
  · have := (Dg.lit1_64 (w.alloc (.cells cs 89)) 107 x hx).alloc (.cells #[.int .u64 1] 107)
    rw [e1] at this; exact this
  · have := Dg.lit_one64 ((w.alloc (.cells cs 89)).alloc (.cells #[.int .u64 (x : Int)] 107)) 107
    rw [e2] at this; exact this

set_option maxHeartbeats 800000 in
theorem whole_any (n : Int) (w : World) (hr : -9223372036854775808 ≤ n ∧ n ≤ 9223372036854775807) :
    Calls Tryd.prog 97 #[.int .i64 n] w (RetR w (decide (n < 0)) n.natAbs 1 1) := by
  have hR0 := Blk.new w 89 #[.bool false, .slice none 0 0, .slice none 0 0]
  have hw0 := (Below.refl w.heap.size w).alloc (Nat.le_refl _) (.cells #[.bool false, .slice none 0 0, .slice none 0 0] 89)
  rcases (show n < 0 ∨ 0 ≤ n by omega) with h0 | h0
  · have hneg := Lib.hid (u64_negneg n ⟨hr.1, h0⟩)
    have hD0 := Dg.lit1_64 (w.alloc (.cells #[.bool false, .slice none 0 0, .slice none 0 0] 89)) 107 n.natAbs (by omega)
    rw [show (w.alloc (.cells #[.bool false, .slice none 0 0, .slice none 0 0] 89)).heap.size = w.heap.size + 1 from by simp] at hD0
    go_enter Tryd.func97, Tryd.ntmps97
    go_wp2_with fail
    rw [hneg.out]
    refine (trim64_any _ _ _ _ _ hD0).mono ?_
    rintro e w' ⟨rfl, rfl⟩
    go_wp2_with fail
    refine (one64_any _).mono ?_
    rintro e w' ⟨rfl, rfl⟩
    have H3 := fun cs => Lib.hid (three_blocks w cs n.natAbs (by omega))
    have hneg2 := Lib.hid (show true = decide (n < 0) from (decide_eq_true h0).symm)
    go_wp2
    exact ret_rat rfl rfl (H3 _).out.1 rfl ⟨_, rfl, ⟨_, _, by rw [hneg2.out], NV.mk (H3 _).out.2.1.tr (nrm_tr _) (show _ = _ by rw [vl_tr]; simp [vl]) (by have := tl_le [n.natAbs]; simpa using this), NV.mk (H3 _).out.2.2.1 nrm_lit1 (vl_lit1 _) (by omega)⟩, (H3 _).out.2.2.2⟩
  · have hnn := Lib.hid (show n = (n.natAbs : Int) by omega)
    have hD0 := Dg.lit1_64 (w.alloc (.cells #[.bool false, .slice none 0 0, .slice none 0 0] 89)) 107 n.natAbs (by omega)
    rw [show (w.alloc (.cells #[.bool false, .slice none 0 0, .slice none 0 0] 89)).heap.size = w.heap.size + 1 from by simp, ← hnn.out] at hD0
    go_enter Tryd.func97, Tryd.ntmps97
    go_wp2_with fail
    refine (trim64_any _ _ _ _ _ hD0).mono ?_
    rintro e w' ⟨rfl, rfl⟩
    go_wp2_with fail
    refine (one64_any _).mono ?_
    rintro e w' ⟨rfl, rfl⟩
    have H3 := fun cs => Lib.hid (three_blocks w cs n.natAbs (by omega))
    rw [← hnn.out] at H3
    go_wp2
    exact ret_rat rfl rfl (H3 _).out.1 rfl ⟨_, rfl, ⟨_, _, rfl, NV.mk (H3 _).out.2.1.tr (nrm_tr _) (show _ = _ by rw [vl_tr]; simp [vl]) (by have := tl_le [n.natAbs]; simpa using this), NV.mk (H3 _).out.2.2.1 nrm_lit1 (vl_lit1 _) (by omega)⟩, (H3 _).out.2.2.2⟩
end Go.Proofs.YtoljffghaklpdaaDoor.Fr


/- General lemmas on structs of digits. -/
namespace Go.Proofs.YtoljffghaklpdaaDoor.Fr
open Go.RowKit Num

theorem cell_set3 (w : World) (g : Nat) (a b d : Value) (p : Addr) (h : p.block ≠ g) : (((w.setCell ⟨g, 0, none⟩ a).setCell ⟨g, 1, none⟩ b).setCell ⟨g, 2, none⟩ d).cell? p = w.cell? p := by
  rw [World.cell?_setCell_other _ _ _ _ (fun e => h (by rw [← e])), World.cell?_setCell_other _ _ _ _ (fun e => h (by rw [← e])), World.cell?_setCell_other _ _ _ _ (fun e => h (by rw [← e]))]

theorem Dg.farp {k : IntKind} {w : World} {A : Option Addr} {n c : Nat} {xs : List Nat} (h : Dg k w A n c xs) {g : Nat} (hf : 0 < n → ∀ ad, A = some ad → ad.block ≠ g) (i : Nat) (u : Value) : Dg k (w.setCell ⟨g, i, none⟩ u) A n c xs :=
  ⟨h.len, h.cap, h.top, h.ok, fun hp => by
    obtain ⟨ad, e, hc⟩ := h.cell hp
    refine ⟨ad, e, fun j x hx => ?_⟩
    rw [World.cell?_setCell_other w _ _ u (fun e2 => by have h2 := congrArg Addr.block e2; rw [block_of_add] at h2; exact hf hp ad e h2.symm)]
    exact hc j x hx⟩
/-- digits do not lie in a block that holds a struct of a sign and two lists -/
theorem Dg.nob {k : IntKind} {w : World} {A : Option Addr} {n c : Nat} {xs : List Nat} (h : Dg k w A n c xs) {g : Nat} {t : TypeId} {a : Bool} {p1 q1 : Option Addr} {p2 p3 q2 q3 : Nat}
    (hB : Blk w g t #[.bool a, .slice p1 p2 p3, .slice q1 q2 q3]) : 0 < n → ∀ ad, A = some ad → ad.block ≠ g := by
  intro hp ad he hg
  obtain ⟨ad', x, e2, hc, _⟩ := h.at_ hp
  rw [he] at e2
  injection e2 with e2
  subst e2
  unfold Blk at hB
  rw [← hg] at hB
  rw [show ad.add 0 = ad from rfl] at hc
  simp only [World.cell?, hB] at hc
  have h3 : ∀ i : Nat, ∀ v, (#[Value.bool a, .slice p1 p2 p3, .slice q1 q2 q3] : Array Value)[i]? = some v → (∃ b, v = .bool b) ∨ ∃ x y z, v = .slice x y z := by
    intro i v hv
    match i, hv with
    | 0, hv => simp at hv; exact .inl ⟨_, hv.symm⟩
    | 1, hv => simp at hv; exact .inr ⟨_, _, _, hv.symm⟩
    | 2, hv => simp at hv; exact .inr ⟨_, _, _, hv.symm⟩
    | (i + 3), hv => simp at hv
  split at hc
  · cases hc
  · rcases h3 _ _ hc with ⟨b, hv⟩ | ⟨x1, y1, z1, hv⟩ <;> cases hv

theorem nv_set3 {k : IntKind} {w : World} {v : Value} {x L : Nat} (h : NV k w v x L) {g : Nat} {t : TypeId} {a : Bool} {p1 q1 : Option Addr} {p2 p3 q2 q3 : Nat} (hB : Blk w g t #[.bool a, .slice p1 p2 p3, .slice q1 q2 q3]) (x1 x2 x3 : Value) :
    NV k (((w.setCell ⟨g, 0, none⟩ x1).setCell ⟨g, 1, none⟩ x2).setCell ⟨g, 2, none⟩ x3) v x L := by
  obtain ⟨A, m, c, us, e, hD, h1, h2, h3⟩ := h
  have hn := hD.nob hB
  exact ⟨A, m, c, us, e, ((hD.farp hn 0 _).farp hn 1 _).farp hn 2 _, h1, h2, h3⟩

/-- a return of a number and an error -/
theorem ret_frac2 {fn : Func} {R : Ending → World → Prop} {act : Act} {W : World} {g p u : Nat} {a b c : Value} (hr : fn.results = #[.cell p 75, .tmp u]) (hs : act.tmps.getD p undef = .pointer (some ⟨g, 0, none⟩))
    (hB : Blk W g 75 #[a, b, c]) (hd : act.defers = []) (hR : R (.returned (.tuple #[.agg #[a, b, c], act.tmps.getD u undef])) W) : bodyPost Tryd.prog fn R .ret act W :=
  bodyPost_ret (v := .tuple #[.agg #[a, b, c], act.tmps.getD u undef]) (by rw [results_cell_tmp hr, hs]; simp [asAddr, load_frac hB]) hd hR

end Go.Proofs.YtoljffghaklpdaaDoor.Fr


namespace Go.Proofs.YtoljffghaklpdaaDoor.Fr
open Go.RowKit Num

/-- the denominator that is written: none for 1 -/
def dw (D : Nat) : Nat := if D = 1 then 0 else D

set_option maxHeartbeats 3200000 in
set_option maxRecDepth 100000 in
theorem keep_any (s : Bool) (A A' : Option Addr) (n c n' c' : Nat) (xs ys : List Nat) (w : World) (h : Dg .u64 w A n c xs) (h' : Dg .u64 w A' n' c' ys) (hN : Nrm xs) (hN' : Nrm ys) (X Y : Nat) (hX : Hid (vl (bs .u64) xs = X)) (hY : Hid (vl (bs .u64) ys = Y)) (hn : n ≤ 100000) (hn' : n' ≤ 100000) :
    Calls Tryd.prog 96 #[.agg #[.bool s, .slice A n c, .slice A' n' c']] w
      fun e w' => ∃ v, e = .returned v ∧ FV w' v s X (dw Y) (2 * max n n') ∧ Below w.heap.size w w' := by
  have B1 := (Blk.new w 89 #[.bool s, .slice A n c, .slice A' n' c']).alloc (.cells #[.bool false, .slice none 0 0, .slice none 0 0] 75)
  have B2 := Blk.new (w.alloc (.cells #[.bool s, .slice A n c, .slice A' n' c'] 89)) 75 #[.bool false, .slice none 0 0, .slice none 0 0]
  have e1 : (w.alloc (.cells #[.bool s, .slice A n c, .slice A' n' c'] 89)).heap.size = w.heap.size + 1 := by simp
  have hw0 := ((Below.refl w.heap.size w).alloc (Nat.le_refl _) (.cells #[.bool s, .slice A n c, .slice A' n' c'] 89)).alloc (by rw [e1]; omega) (.cells #[.bool false, .slice none 0 0, .slice none 0 0] 75)
  rw [e1] at B2
  clear e1
  have h1 := h.below hw0
  have h2 := h'.below hw0
  go_enter Tryd.func96, Tryd.ntmps96
  go_upto_region 1 with fail
  generalize (w.alloc (.cells #[.bool s, .slice A n c, .slice A' n' c'] 89)).alloc (.cells #[.bool false, .slice none 0 0, .slice none 0 0] 75) = w1 at *
  have k0 : w1.cell? ⟨w.heap.size, 0, none⟩ = some (.bool s) := B1.cell 0
  have k1 : w1.cell? ⟨w.heap.size, 1, none⟩ = some (.slice A n c) := B1.cell 1
  have hB2lt := B2.lt
  go_cut [3] (fun v wx => ∃ g A5 m5 c5 us5, v = .pointer (some ⟨g, 0, none⟩) ∧ Blk wx g 75 #[.bool s, .slice A5 m5 c5, .slice none 0 0] ∧ Dg .u32 wx A5 m5 c5 us5 ∧ Nrm us5 ∧ Hid (vl (bs .u32) us5 = X) ∧ m5 ≤ 2 * n ∧
    Blk wx w.heap.size 89 #[.bool s, .slice A n c, .slice A' n' c'] ∧ Blk wx (w.heap.size + 1) 75 #[.bool false, .slice none 0 0, .slice none 0 0] ∧ w.heap.size + 1 < g ∧ Below w.heap.size w wx ∧
    Hid ((∀ ad, A5 = some ad → w.heap.size + 1 < ad.block) ∧ (0 < m5 → ∀ ad, A5 = some ad → ad.block ≠ g)) ∧ Dg .u64 wx A' n' c' ys)
  case first =>
    go_region_held3 (fun wx => wx.cell? ⟨w.heap.size, 0, none⟩ = some (.bool s) ∧ wx.cell? ⟨w.heap.size, 1, none⟩ = some (.slice A n c))
      (first | exact ⟨k0, k1⟩ | exact K5 | exact K8.out _ _ _ | go_keep)
      (first
        | (go_at_call 112; refine (digits_any _ _ _ _ _ (h1.drew) hN (by omega) X hX).mono ?_; rintro e w5 ⟨A5, m5, c5, us5, rfl, hD5, hN5, hv5, hm5, hb5, hf5⟩; have P1 := B1.drew.below hb5; have K5 : w5.cell? ⟨w.heap.size, 0, none⟩ = some (.bool s) ∧ w5.cell? ⟨w.heap.size, 1, none⟩ = some (.slice A n c) := ⟨P1.cell 0, P1.cell 1⟩; have tok1 : True := trivial)
        | (go_at_call 112; refine (digits_any _ _ _ _ _ ((h1.alloc (.cells #[.bool false, .slice none 0 0, .slice none 0 0] 75)).drew) hN (by omega) X hX).mono ?_; rintro e w5 ⟨A5, m5, c5, us5, rfl, hD5, hN5, hv5, hm5, hb5, hf5⟩; have P1 := (B1.alloc (.cells #[.bool false, .slice none 0 0, .slice none 0 0] 75)).drew.below hb5; have K5 : w5.cell? ⟨w.heap.size, 0, none⟩ = some (.bool s) ∧ w5.cell? ⟨w.heap.size, 1, none⟩ = some (.slice A n c) := ⟨P1.cell 0, P1.cell 1⟩; have P3 := (Blk.new w1 75 #[.bool false, .slice none 0 0, .slice none 0 0]).drew.below hb5; have r0 := P3.cell 0; have r1 := P3.cell 1; have r2 := P3.cell 2; have f0 := P3.frozen 0; have f1 := P3.frozen 1; have f2 := P3.frozen 2; have K8 := Lib.hid (show ∀ a b d, (((w5.setCell ⟨w1.heap.size, 0, none⟩ a).setCell ⟨w1.heap.size, 1, none⟩ b).setCell ⟨w1.heap.size, 2, none⟩ d).cell? ⟨w.heap.size, 0, none⟩ = some (.bool s) ∧ (((w5.setCell ⟨w1.heap.size, 0, none⟩ a).setCell ⟨w1.heap.size, 1, none⟩ b).setCell ⟨w1.heap.size, 2, none⟩ d).cell? ⟨w.heap.size, 1, none⟩ = some (.slice A n c) from fun a b d => ⟨(cell_set3 _ _ _ _ _ _ (by show w.heap.size ≠ _; omega)).trans K5.1, (cell_set3 _ _ _ _ _ _ (by show w.heap.size ≠ _; omega)).trans K5.2⟩); have tok2 : True := trivial))
    all_goals first
      | (have _t := tok1
         have hw5 := hw0.drew.trans (hb5.mono hw0.size)
         have hlt5 := hb5.size
         have hE := Lib.hid (show (∀ ad, A5 = some ad → w.heap.size + 1 < ad.block) ∧ (0 < m5 → ∀ ad, A5 = some ad → ad.block ≠ w5.heap.size) from ⟨fun ad he => Nat.lt_of_lt_of_le hB2lt (hf5.out ad he), fun hp ad he => Nat.ne_of_lt (hD5.blt hp ad he)⟩)
         have hg : w.heap.size + 1 < w5.heap.size := Nat.lt_of_lt_of_le hB2lt hlt5
         go_wp2_with fail
         go_meet
         exact ⟨_, A5, m5, c5, us5, rfl, Blk.new _ _ _, hD5.alloc _, hN5, hv5, hm5, P1.alloc _, (B2.drew.below hb5).alloc _, hg, hw5.alloc hw5.size _, hE, (h2.drew.below hb5).alloc _⟩)
      | (have _t := tok2
         have hwz := hw0.alloc hw0.size (.cells #[.bool false, .slice none 0 0, .slice none 0 0] 75)
         have hw5 := hwz.drew.trans (hb5.mono hwz.size)
         have hsz : (w1.alloc (.cells #[.bool false, .slice none 0 0, .slice none 0 0] 75)).heap.size = w1.heap.size + 1 := by simp
         have hfa := Lib.hid (show ∀ ad, A5 = some ad → w1.heap.size < ad.block from fun ad he => by have h9 := hf5.out ad he; rw [show (w1.alloc (.cells #[.bool false, .slice none 0 0, .slice none 0 0] 75)).drew.heap.size = (w1.alloc (.cells #[.bool false, .slice none 0 0, .slice none 0 0] 75)).heap.size from rfl, hsz] at h9; omega)
         have hE := Lib.hid (show (∀ ad, A5 = some ad → w.heap.size + 1 < ad.block) ∧ (0 < m5 → ∀ ad, A5 = some ad → ad.block ≠ w1.heap.size) from ⟨fun ad he => Nat.lt_trans hB2lt (hfa.out ad he), fun _ ad he => by have h9 := hfa.out ad he; omega⟩)
         have P2 := (B2.alloc (.cells #[.bool false, .slice none 0 0, .slice none 0 0] 75)).drew.below hb5
         have hD2 := (h2.alloc (.cells #[.bool false, .slice none 0 0, .slice none 0 0] 75)).drew.below hb5
         have hnA : w.heap.size ≠ w1.heap.size := by omega
         have hnB : w.heap.size + 1 ≠ w1.heap.size := by omega
         have hne2 := Lib.hid (show 0 < n' → ∀ ad, A' = some ad → ad.block ≠ w1.heap.size from fun hp ad he => Nat.ne_of_lt (h2.blt hp ad he))
         go_wp2_with fail
         go_meet
         exact ⟨_, A5, m5, c5, us5, rfl, ((P3.set_ 0 _).set_ 1 _).set_ 2 _, ((hD5.far hfa.out 0 _).far hfa.out 1 _).far hfa.out 2 _, hN5, hv5, hm5, ((P1.far (p := ⟨w1.heap.size, 0, none⟩) hnA _).far (p := ⟨w1.heap.size, 1, none⟩) hnA _).far (p := ⟨w1.heap.size, 2, none⟩) hnA _,
           ((P2.far (p := ⟨w1.heap.size, 0, none⟩) hnB _).far (p := ⟨w1.heap.size, 1, none⟩) hnB _).far (p := ⟨w1.heap.size, 2, none⟩) hnB _, hB2lt, bel_set3 hw5 (by omega) _ _ _, hE, ((hD2.farp hne2.out 0 _).farp hne2.out 1 _).farp hne2.out 2 _⟩)
  case rest =>
    clear h1 h2 k0 k1 B1 B2 hB2lt hw0 h h'
    obtain ⟨g, A5, m5, c5, us5, rfl, G1, D5, N5, V5, M5, P1, P2, hlt, hwc, hf, D2⟩ := hcut
    have p2 : wc.cell? ⟨w.heap.size, 2, none⟩ = some (.slice A' n' c') := P1.cell 2
    by_cases hY1 : Y = 1
    · have HY1 := Lib.hid hY1
      clear hY1
      go_wp2_with fail
      refine (isOne_any _ _ _ _ _ D2 hN' Y hY true (decide_eq_true HY1.out)).mono ?_
      rintro e w' ⟨rfl, rfl⟩
      have g0 : wc.cell? ⟨g, 0, none⟩ = some (.bool s) := G1.cell 0
      have g1 : wc.cell? ⟨g, 1, none⟩ = some (.slice A5 m5 c5) := G1.cell 1
      have g2 : wc.cell? ⟨g, 2, none⟩ = some (.slice none 0 0) := G1.cell 2
      have r0 := P2.cell 0
      have r1 := P2.cell 1
      have r2 := P2.cell 2
      have f0 := P2.frozen 0
      have f1 := P2.frozen 1
      have f2 := P2.frozen 2
      go_wp2
      exact ret_frac rfl rfl (((P2.set_ 0 _).set_ 1 _).set_ 2 _) rfl ⟨_, rfl, ⟨_, _, rfl, nv_far3 D5 N5 V5 (by omega) hf.out.1 _ _ _, by unfold dw; rw [if_pos HY1.out]; exact NV.mk (Dg.nil _ _) Nrm.nil rfl (Nat.zero_le _)⟩, bel_set3 hwc (by omega) _ _ _⟩
    · have HY1 := Lib.hid hY1
      clear hY1
      go_wp2_with fail
      refine (isOne_any _ _ _ _ _ D2 hN' Y hY false (decide_eq_false HY1.out)).mono ?_
      rintro e w' ⟨rfl, rfl⟩
      go_wp2_with fail
      refine (digits_any _ _ _ _ _ D2 hN' (by omega) Y hY).mono ?_
      rintro e w6 ⟨A6, m6, c6, us6, rfl, hD6, hN6, hv6, hm6, hb6, hf6⟩
      have G2 := G1.below hb6
      have P3 := P2.below hb6
      have D6 := D5.below hb6
      have hw6 := hwc.trans (hb6.mono hwc.size)
      have hgl := G1.lt
      have g0 : w6.cell? ⟨g, 0, none⟩ = some (.bool s) := G2.cell 0
      have g1 : w6.cell? ⟨g, 1, none⟩ = some (.slice A5 m5 c5) := G2.cell 1
      have g2 : w6.cell? ⟨g, 2, none⟩ = some (.slice none 0 0) := G2.cell 2
      have fg := G2.frozen 2
      have r0 := P3.cell 0
      have r1 := P3.cell 1
      have r2 := P3.cell 2
      have f0 := P3.frozen 0
      have f1 := P3.frozen 1
      have f2 := P3.frozen 2
      have hne : w.heap.size + 1 ≠ g := by omega
      have hfg := Lib.hid (show ∀ ad, A6 = some ad → g < ad.block ∧ w.heap.size + 1 < ad.block from fun ad he => by have h9 := hf6.out ad he; omega)
      go_wp2
      exact ret_frac rfl rfl ((((P3.far (p := ⟨g, 2, none⟩) hne _).set_ 0 _).set_ 1 _).set_ 2 _) rfl ⟨_, rfl, ⟨_, _, rfl, nv_far3 (D6.farp hf.out.2 2 _) N5 V5 (by omega) hf.out.1 _ _ _, by unfold dw; rw [if_neg HY1.out]; exact nv_far3 (hD6.far (fun ad he => (hfg.out ad he).1) 2 _) hN6 hv6 (by omega) (fun ad he => (hfg.out ad he).2) _ _ _⟩, bel_set3 (hw6.setCell (p := ⟨g, 2, none⟩) (by show _ ≤ g; omega) _) (by omega) _ _ _⟩
end Go.Proofs.YtoljffghaklpdaaDoor.Fr


namespace Go.Proofs.YtoljffghaklpdaaDoor.Fr
open Go.RowKit Num

/-- what math/bits.Div64 returns for hi < y -/
def DivSaid : Prop := ∀ (hi lo y : Nat) (w : World), hi < y → lo ≤ 18446744073709551615 → y ≤ 18446744073709551615 →
  Calls Tryd.prog 132 #[.int .u64 (hi : Int), .int .u64 (lo : Int), .int .u64 (y : Int)] w fun e w' => ∃ m, e = .returned (.tuple #[.int .u64 (((hi * bs .u64 + lo) / y : Nat) : Int), .int .u64 (((hi * bs .u64 + lo) % y : Nat) : Int)]) ∧ w' = w.drewN m

theorem div64_zero (lo y : Nat) (hlo : lo ≤ 18446744073709551615) (hy : 1 ≤ y) (hyb : y ≤ 18446744073709551615) (w : World) :
    Calls Tryd.prog 132 #[.int .u64 0, .int .u64 (lo : Int), .int .u64 (y : Int)] w fun e w' => ∃ m, e = .returned (.tuple #[.int .u64 ((lo / y : Nat) : Int), .int .u64 ((lo % y : Nat) : Int)]) ∧ w' = w.drewN m := by
  have h0 : ((y : Int) == 0) = false := by rw [beq_eq_false_iff_ne]; omega
  have h1 : ¬ (y : Int) ≤ 0 := by omega
  have e1 : ((lo / y : Nat) : Int) = (lo : Int) / (y : Int) := by rw [Int.natCast_ediv]
  have e2 : ((lo % y : Nat) : Int) = (lo : Int) % (y : Int) := by rw [Int.natCast_emod]
  have H1 := Lib.hid e1
  have H2 := Lib.hid e2
  clear e1 e2
  rw [H1.out, H2.out]
  have hw : IntKind.u64.wrap ((lo : Int) / (y : Int)) = (lo : Int) / (y : Int) := IntWalk.u64_in _ ⟨Int.ediv_nonneg (by omega) (by omega), by have := Int.ediv_le_self (a := (lo : Int)) (y : Int) (by omega); omega⟩
  go_enter Tryd.func132, Tryd.ntmps132
  go_wp2
  go_quiet (fail)
  go_wp2
  go_ret2
  exact ⟨_, rfl, rfl⟩

structure ShrRel (w : World) (g n y : Nat) (cur0 : List Nat) (rv iv : Value) (wr : World) (k r : Nat) (cur : List Nat) : Prop where
  i : iv = .int .i64 ((k : Int) - 1)
  rv : rv = .int .u64 r
  kb : k ≤ n
  hr : Hid (r = vl (bs .u64) (cur0.drop k) % y)
  rb : r < y
  len : Hid (cur.length = n)
  ok : Okd (bs .u64) cur
  own : Mk wr g 107 .u64 cur
  val : Hid (vl (bs .u64) (cur.drop k) = vl (bs .u64) (cur0.drop k) / y)
  tk : Hid (cur.take k = cur0.take k)
  onl : Onl g w wr

set_option maxHeartbeats 1600000 in
set_option maxRecDepth 100000 in
theorem shrink_any (HD : Hid DivSaid) (g n ca y : Nat) (cur0 : List Nat) (w : World) (hM : Mk w g 107 .u64 cur0) (hok : Okd (bs .u64) cur0) (hl : Hid (cur0.length = n)) (hn : n ≤ 2000000) (hy : 1 ≤ y) (hyb : y ≤ 18446744073709551615) :
    Calls Tryd.prog 121 #[.slice (some ⟨g, 0, none⟩) n ca, .int .u64 (y : Int)] w fun e w' => ∃ (r : Nat) (cur : List Nat), e = .returned (.int .u64 (r : Int)) ∧ Hid (r = vl (bs .u64) cur0 % y) ∧ r < y ∧
      Mk w' g 107 .u64 cur ∧ Okd (bs .u64) cur ∧ Hid (cur.length = n) ∧ Hid (vl (bs .u64) cur = vl (bs .u64) cur0 / y) ∧ Onl g w w' := by
  go_enter Tryd.func121, Tryd.ntmps121
  go_wp2
  go_loopw [5, 6] (fun rv iv wr => ∃ k r cur, ShrRel w g n y cur0 rv iv wr k r cur) (fun _ iv _ => (intOf iv + 1).toNat)
  case atStart =>
    have e : cur0.drop n = [] := List.drop_eq_nil_of_le (by have := hl.out; omega)
    exact ⟨n, 0, cur0, rfl, rfl, Nat.le_refl _, show _ = _ by rw [e]; simp [vl], by omega, hl, hok, hM, show _ = _ by rw [e]; simp [vl], rfl, Onl.refl _ _⟩
  case round =>
    clear hM hok
    obtain ⟨k, r, cur, hi, rfl, hkb, hr, hry, hcl, hco, hown, hval, htk, hon⟩ := hrel
    rcases idx_cases hi with ⟨rfl, rfl⟩ | ⟨j, rfl, rfl⟩
    · clear hi
      go_wp2
      go_ret
      exact ⟨r, cur, rfl, hr, hry, hown, hco, hcl, hval, hon⟩
    · clear hi
      have hT := Lib.hid (take_set_getD (d := (r * bs .u64 + cur0.getD j 0) / y) htk.out (by rw [hcl.out]; omega) (by rw [hl.out]; omega))
      obtain ⟨x, hx⟩ : ∃ x, cur0.getD j 0 = x := ⟨_, rfl⟩
      have hcc := hown.cell (i := j) (by rw [hcl.out]; omega)
      rw [hT.out.1, hx] at hcc
      have hcf := hown.frozen j
      have hxb : x ≤ 18446744073709551615 := by rw [← hx, ← hT.out.1]; exact Nat.le_of_lt_succ (hco.getD (by decide) _)
      have HS := Lib.hid (shrink_step hcl.out hl.out (by omega) hx hy hr.out hval.out)
      have Hq := Lib.hid (div1_lt_b (b := bs .u64) (x := x) hry (Nat.lt_succ_of_le hxb))
      rw [hx] at hT
      have Hx := Lib.hid hx
      clear hx
      go_wp2_with fail
      refine (HD.out r x y wr hry hxb hyb).mono ?_
      rintro e w2 ⟨m, rfl, rfl⟩
      have hrm : (r * bs .u64 + x) % y < y := Nat.mod_lt _ hy
      generalize (r * bs .u64 + x) / y = qd at *
      generalize (r * bs .u64 + x) % y = r2 at *
      go_wp2
      go_roundw
      case rel =>
        exact ⟨j, r2, cur.set j qd, rfl, rfl, by omega, HS.out.2, hrm, show _ = _ by rw [List.length_set]; exact hcl.out, hco.set _ Hq.out, (hown.drewN m).set_ _ _, HS.out.1, hT.out.2, (hon.drewN m).set_ _ _⟩
      case measure => simp [intOf]
end Go.Proofs.YtoljffghaklpdaaDoor.Fr


namespace Go.Proofs.YtoljffghaklpdaaDoor.Fr
open Go.RowKit Num

set_option maxHeartbeats 1600000 in
theorem modulo_any (HD : Hid DivSaid) (A : Option Addr) (n c y : Nat) (xs : List Nat) (w : World) (h : Dg .u64 w A n c xs) (hn : n ≤ 2000000) (hy : 1 ≤ y) (hyb : y ≤ 18446744073709551615) :
    Calls Tryd.prog 120 #[.slice A n c, .int .u64 (y : Int)] w fun e w' => ∃ (r m : Nat), e = .returned (.int .u64 (r : Int)) ∧ Hid (r = vl (bs .u64) xs % y) ∧ r < y ∧ w' = w.drewN m := by
  have hl := Lib.hid h.len
  have hcap := h.cap
  have htop := h.top
  go_enter Tryd.func120, Tryd.ntmps120
  go_wp2
  go_loopw [5, 6] (fun rv iv wr => ∃ k r m : Nat, iv = .int .i64 ((k : Int) - 1) ∧ rv = .int .u64 r ∧ k ≤ n ∧ Hid (r = vl (bs .u64) (xs.drop k) % y) ∧ r < y ∧ wr = w.drewN m) (fun _ iv _ => (intOf iv + 1).toNat)
  case atStart =>
    have e : xs.drop n = [] := List.drop_eq_nil_of_le (by have := hl.out; omega)
    exact ⟨n, 0, 0, rfl, rfl, Nat.le_refl _, show _ = _ by rw [e]; simp [vl], by omega, rfl⟩
  case round =>
    obtain ⟨k, r, m, hi, rfl, hkb, hr, hry, rfl⟩ := hrel
    rcases idx_cases hi with ⟨rfl, rfl⟩ | ⟨j, rfl, rfl⟩
    · clear hi
      go_wp2
      go_ret
      exact ⟨r, m, rfl, hr, hry, rfl⟩
    · clear hi
      obtain ⟨ad, x, rfl, hcx, hx⟩ := h.at_ (j := j) (by omega)
      have hcx' : (w.drewN m).cell? (ad.add j) = some (.int .u64 x) := hcx
      have hxb : x ≤ 18446744073709551615 := Nat.le_of_lt_succ hx.out.2
      have HS := Lib.hid (show (r * bs .u64 + x) % y = vl (bs .u64) (xs.drop j) % y by
        rw [vl_drop_pred (b := bs .u64) (by rw [hl.out]; omega : j < xs.length) hx.out.1]
        exact (div1_step_b (b := bs .u64) (x := x) hy hr.out).2.symm)
      go_wp2_with fail
      refine (HD.out r x y _ hry hxb hyb).mono ?_
      rintro e w2 ⟨m2, rfl, rfl⟩
      have hrm : (r * bs .u64 + x) % y < y := Nat.mod_lt _ hy
      generalize (r * bs .u64 + x) / y = qd at *
      generalize (r * bs .u64 + x) % y = r2 at *
      go_wp2
      go_roundw
      case rel => exact ⟨j, r2, _, rfl, rfl, by omega, HS.out, hrm, rfl⟩
      case measure => simp [intOf]

/-- slices.Clone: new memory with the same digits -/
theorem clone_any (A : Option Addr) (n c : Nat) (xs : List Nat) (w : World) (h : Dg .u64 w A n c xs) (hn : n ≤ 2000000) (hp : 0 < n) :
    Calls Tryd.prog 119 #[.slice A n c] w fun e w' => ∃ g ca, e = .returned (.slice (some ⟨g, 0, none⟩) n ca) ∧ Mk w' g 107 .u64 xs ∧ n ≤ ca ∧ ca ≤ 9223372036854775807 ∧ w.heap.size ≤ g ∧ Below w.heap.size w w' := by
  obtain ⟨ad, rfl, _⟩ := h.cell hp
  obtain ⟨i0, hi, hz0, hz1, hz2⟩ := info_parts info_u64
  have hnil := fun w => Lib.run_eql_slice_nil (P := Tryd.prog) w 87 107 (some ad) n c 0 0 Tryd.underlying87
  go_enter Tryd.func119, Tryd.ntmps119
  have h1 := h.alloc (.cells #[] 107)
  have hnews := Lib.hid (h1.news hp)
  have hl1 := Lib.hid h.len
  go_wp2_with (at_builtin; refine wpList_append_own _ rfl _ _ 87 rfl w.heap.size 107 i0 (.int .u64 0) 1 8 Tryd.underlying87 hi hz0 hz1 hz2 rfl (by decide) _ 0 [] rfl (World.ownsRow_lit w #[] 0 (Nat.le_refl _) (by decide) rfl) ad n c (dcs .u64 xs) rfl ?c1 hnews.out (oneCell_dcs _ _) ?c3 ?c4 ?c5 ?_)
  case c1 => rw [dcs_len, hl1.out]; simp
  case c3 => unfold maxLen; omega
  case c4 => omega
  case c5 => simp
  intro v1 w1 hown hg _
  have hb := ((Below.refl w.heap.size w).alloc (Nat.le_refl _) (.cells #[] 107)).grown hg (by simp) (fun k hk => by simp [Value.ownBlock] at hk; omega)
  obtain ⟨_, h2⟩ := hown
  have h3 : ∃ g ca, v1 = .slice (some ⟨g, 0, none⟩) n ca ∧ Mk w1 g 107 .u64 xs ∧ n ≤ ca ∧ ca ≤ 9223372036854775807 ∧ w.heap.size ≤ g := by
    rcases h2 with ⟨_, h0⟩ | ⟨g, cap, cur, rfl, h3, h4, h5, h6, h7, h8⟩
    · omega
    · exact ⟨g, cap, by simp, ⟨cur, h4, by rw [hl1.out]; simpa using h8⟩, by omega, h6, h3⟩
  obtain ⟨g, ca, rfl, hM, ha, hc2, hge⟩ := h3
  go_wp2
  go_ret
  exact ⟨g, ca, rfl, hM, ha, hc2, hge, hb⟩
end Go.Proofs.YtoljffghaklpdaaDoor.Fr


namespace Go.Proofs.YtoljffghaklpdaaDoor.Fr
open Go.RowKit Num

def RetDiv64 (w : World) (x y L : Nat) (e : Ending) (w' : World) : Prop :=
  ∃ v v', e = .returned (.tuple #[v, v']) ∧ NV .u64 w' v (x / y) L ∧ NV .u64 w' v' (x % y) L ∧ Below w.heap.size w w' ∧ Hid (∀ A m c, v = .slice A m c → ∀ ad, A = some ad → w.heap.size ≤ ad.block)

theorem ord_neg {x y : Nat} (h : x < y) : (ord x y : Int) < 0 := by rw [ord_lt h]; decide
theorem ord_nn {x y : Nat} (h : y ≤ x) : ¬ (ord x y : Int) < 0 := by
  have := ord_nonneg.2 h; omega

set_option maxHeartbeats 1600000 in
set_option maxRecDepth 100000 in
theorem divide_small (HD : Hid DivSaid) (A A' : Option Addr) (n c n' c' : Nat) (xs ys : List Nat) (w : World) (h : Dg .u64 w A n c xs) (h' : Dg .u64 w A' n' c' ys) (hN : Nrm xs) (hN' : Nrm ys) (X Y : Nat) (hX : Hid (vl (bs .u64) xs = X)) (hY : Hid (vl (bs .u64) ys = Y))
    (hn : n ≤ 2000000) (hs : X < Y ∨ n' = 1) :
    Calls Tryd.prog 109 #[.slice A n c, .slice A' n' c'] w (RetDiv64 w X Y (n + 1)) := by
  by_cases hlt : X < Y
  · have ho := ord_neg hlt
    have Hd := Lib.hid (show X / Y = 0 ∧ X % Y = X from ⟨Nat.div_eq_of_lt hlt, Nat.mod_eq_of_lt hlt⟩)
    clear hs hlt
    go_enter Tryd.func109, Tryd.ntmps109
    go_wp2_with fail
    refine (cmp64_any _ _ _ _ _ _ _ _ _ h h' hN hN' X Y hX hY).mono ?_
    rintro e w2 ⟨m, rfl, rfl⟩
    go_wp2
    go_ret2
    exact ⟨_, _, rfl, by rw [Hd.out.1]; exact NV.mk (Dg.nil _ _) Nrm.nil rfl (Nat.zero_le _), by rw [Hd.out.2]; exact NV.mk (h.drewN m) hN hX (by omega), bel_drewN (Below.refl _ _) m, fun A m c he ad ha => by injection he with h1; rw [← h1] at ha; cases ha⟩
  · obtain rfl : n' = 1 := by omega
    have ho := ord_nn (Nat.le_of_not_lt hlt)
    obtain ⟨ad', y, rfl, hcy, hy⟩ := h'.at_ (j := 0) (by omega)
    have hyv := nrm_one64 h'.len hy.out.1
    rw [hY.out] at hyv
    have hyb : y ≤ 18446744073709551615 := Nat.le_of_lt_succ hy.out.2
    have hy1 : 1 ≤ y := by
      have := nrm_top hN' h'.len hy.out.1
      omega
    have hp : 0 < n := by
      have := nz_len (b := bs .u64) (xs := xs) (by rw [hX.out]; omega)
      rw [h.len] at this; exact this
    have Hyv := Lib.hid hyv
    clear hyv hs hlt
    have hcy : w.cell? ad' = some (.int .u64 y) := hcy
    have hbY := World.block_lt_of_cell? _ _ hcy
    go_enter Tryd.func109, Tryd.ntmps109
    go_wp2_with fail
    refine (cmp64_any _ _ _ _ _ _ _ _ _ h h' hN hN' X Y hX hY).mono ?_
    rintro e w2 ⟨m, rfl, rfl⟩
    go_wp2_with fail
    refine (clone_any _ _ _ _ _ (h.drewN m) hn hp).mono ?_
    rintro e w3 ⟨g, ca, rfl, hM, hca, hca2, hge, hb3⟩
    have hw3 := (bel_drewN (Below.refl w.heap.size w) m).trans hb3
    have hcy3 : w3.cell? ad' = some (.int .u64 y) := (hw3.cell hbY).trans hcy
    go_wp2_with fail
    refine (shrink_any HD g n ca y xs _ hM h.ok h.len hn hy1 hyb).mono ?_
    rintro e w4 ⟨r, cur, rfl, hr, hry, hM4, hok4, hl4, hv4, hon⟩
    have hw4 := hw3.trans (hon.below (show w.heap.size ≤ g from hge))
    have hDq : Dg .u64 w4 (some ⟨g, 0, none⟩) n ca cur := ⟨hl4.out, hca, hca2, hok4, (hM4.dg64 hl4.out (by omega) hok4).cell⟩
    have hDr := Dg.lit1_64 w4 107 r (by omega)
    have hDq2 := hDq.alloc (.cells #[.int .u64 (r : Int)] 107)
    go_wp2_with fail
    refine (trim64_any _ _ _ _ _ hDq2).mono ?_
    rintro e w' ⟨rfl, rfl⟩
    go_wp2_with fail
    refine (trim64_any _ _ _ _ _ hDr).mono ?_
    rintro e w' ⟨rfl, rfl⟩
    go_wp2
    go_ret2
    exact ⟨_, _, rfl, NV.mk hDq2.tr (nrm_tr _) (show _ = _ by rw [vl_tr, hv4.out, hX.out, Hyv.out]) (by have := len_tl hl4.out; omega), NV.mk hDr.tr (nrm_tr _) (show _ = _ by rw [vl_tr]; simp only [vl, Nat.mul_zero, Nat.add_zero]; rw [hr.out, hX.out, Hyv.out]) (Nat.le_trans (tl_le _) (by simp)), hw4.alloc hw4.size _, fun A m c he ad ha => by injection he with h1; rw [← h1] at ha; injection ha with ha; subst ha; exact hge⟩
end Go.Proofs.YtoljffghaklpdaaDoor.Fr


namespace Go.Proofs.YtoljffghaklpdaaDoor.Fr
open Go.RowKit Num

theorem modulo_val (HD : Hid DivSaid) (A : Option Addr) (n c y : Nat) (xs : List Nat) (w : World) (h : Dg .u64 w A n c xs) (hn : n ≤ 2000000) (hy : 1 ≤ y) (hyb : y ≤ 18446744073709551615) (r : Nat) (hr : Hid (r = vl (bs .u64) xs % y)) :
    Calls Tryd.prog 120 #[.slice A n c, .int .u64 (y : Int)] w fun e w' => e = .returned (.int .u64 (r : Int)) ∧ ∃ m, w' = w.drewN m :=
  (modulo_any HD A n c y xs w h hn hy hyb).mono fun e w' ⟨r', m, he, h1, _, h2⟩ => ⟨by rw [he, h1.out, hr.out], m, h2⟩

theorem quiet_more {P : Program} {f : FuncId} {args : Array Value} {w : World} {a n : Nat} {v : Value}
    (h : Calls P f args (w.drewN (a + n)) fun e w' => e = .returned v ∧ ∃ m, w' = (w.drewN (a + n)).drewN m) : Calls P f args (w.drewN (a + n)) fun e w'' => e = .returned v ∧ ∃ m, w'' = w.drewN (a + m) :=
  h.mono fun _ _ ⟨he, m, hm⟩ => ⟨he, n + m, by rw [hm, World.drewN_drewN, Nat.add_assoc]⟩

set_option maxHeartbeats 1600000 in
set_option maxRecDepth 100000 in
theorem gcd64_ge (HD : Hid DivSaid) (A A' : Option Addr) (n c n' c' : Nat) (xs ys : List Nat) (w : World) (h : Dg .u64 w A n c xs) (h' : Dg .u64 w A' n' c' ys) (hN : Nrm xs) (hN' : Nrm ys) (X Y : Nat) (hX : Hid (vl (bs .u64) xs = X)) (hY : Hid (vl (bs .u64) ys = Y))
    (hn : n ≤ 2000000) (hle : Y ≤ X) (hs : n' ≤ 1) :
    Calls Tryd.prog 108 #[.slice A n c, .slice A' n' c'] w (RetN .u64 w (X.gcd Y) (max n 1)) := by
  have ho := ord_nn hle
  clear hle
  rcases (show n' = 0 ∨ n' = 1 by omega) with hn0 | hn0
  · have hG : Hid (X.gcd Y = X) := by
      have : Y = 0 := by rw [← hY.out, List.eq_nil_of_length_eq_zero (show ys.length = 0 by rw [h'.len]; exact hn0)]; rfl
      show _ = _; rw [this, Nat.gcd_zero_right]
    subst hn0
    go_enter Tryd.func108, Tryd.ntmps108
    go_wp2_with fail
    refine (cmp64_any _ _ _ _ _ _ _ _ _ h h' hN hN' X Y hX hY).mono ?_
    rintro e w2 ⟨m, rfl, rfl⟩
    go_wp2
    go_ret
    exact ⟨_, _, _, _, rfl, h.drewN m, hN, show _ = _ by rw [hX.out, hG.out], by omega, bel_drewN (Below.refl _ _) m⟩
  · subst hn0
    obtain ⟨ad', y, rfl, hcy, hy⟩ := h'.at_ (j := 0) (by omega)
    have hyv := nrm_one64 h'.len hy.out.1
    rw [hY.out] at hyv
    have hyb : y ≤ 18446744073709551615 := Nat.le_of_lt_succ hy.out.2
    have hy1 : 1 ≤ y := nrm_top hN' h'.len hy.out.1
    have Hyv := Lib.hid hyv
    clear hyv hs
    have hcy : w.cell? ad' = some (.int .u64 y) := hcy
    obtain ⟨r, hr⟩ : ∃ r, r = X % y := ⟨_, rfl⟩
    have hry : r < y := by rw [hr]; exact Nat.mod_lt _ hy1
    have Hr : Hid (r = vl (bs .u64) xs % y) := by rw [hX.out]; exact hr
    have HG : Hid (X.gcd Y = y.gcd r) := by
      show _ = _
      rw [Hyv.out, hr, Nat.gcd_comm X y, Nat.gcd_rec, Nat.gcd_comm]
    clear hr
    go_enter Tryd.func108, Tryd.ntmps108
    go_wp2_with fail
    refine (cmp64_any _ _ _ _ _ _ _ _ _ h h' hN hN' X Y hX hY).mono ?_
    rintro e w2 ⟨m, rfl, rfl⟩
    have hcy2 : (w.drewN m).cell? ad' = some (.int .u64 y) := hcy
    go_wp2
    go_quiet ((go_at_call 120; exact quiet_more (modulo_val HD _ _ _ _ _ _ (h.drewN _) hn hy1 hyb r Hr)))
    go_wp2
    go_loopw [5, 6] (fun xv yv wr => ∃ a b m : Nat, xv = .int .u64 a ∧ yv = .int .u64 b ∧ 1 ≤ a ∧ a ≤ 18446744073709551615 ∧ b ≤ 18446744073709551615 ∧ Hid (X.gcd Y = a.gcd b) ∧ wr = w.drewN m) (fun _ yv _ => (intOf yv).toNat)
    case atStart => exact ⟨y, r, _, rfl, rfl, hy1, hyb, by omega, HG.out, by first | rfl | exact World.drewN_drewN _ _ _⟩
    case round =>
      obtain ⟨a, b, m3, rfl, rfl, ha1, hab, hbb, hG, rfl⟩ := hrel
      by_cases hb0 : 0 < b
      · have hG2 := Lib.hid (show X.gcd Y = b.gcd (a % b) by rw [hG.out, Nat.gcd_comm a b, Nat.gcd_rec, Nat.gcd_comm])
        have hmod : ((a : Int)).tmod (b : Int) = (a : Int) % (b : Int) := Int.tmod_eq_emod_of_nonneg (by omega)
        have hlt : (a : Int) % (b : Int) < (b : Int) := Int.emod_lt_of_pos _ (by omega)
        have hnn : 0 ≤ (a : Int) % (b : Int) := Int.emod_nonneg _ (by omega)
        have hcast := Lib.hid (show (a : Int) % (b : Int) = ((a % b : Nat) : Int) by rw [Int.natCast_emod])
        have hltn : a % b < b := Nat.mod_lt _ hb0
        go_wp2
        go_quiet (fail)
        go_wp2
        go_roundw
        case rel => exact ⟨b, a % b, _, rfl, by rw [hcast.out], hb0, hbb, by omega, hG2.out, by first | rfl | exact World.drewN_drewN _ _ _⟩
        case measure => simp [intOf]; omega
      · obtain rfl : b = 0 := by omega
        have hD := Dg.lit1_64 (w.drewN m3) 107 a hab
        go_wp2
        go_ret
        exact ⟨_, _, _, _, rfl, hD, by intro _; simp; omega, show _ = _ by rw [hG.out, Nat.gcd_zero_right]; simp [vl], by omega, (bel_drewN (Below.refl _ _) m3).alloc (Nat.le_refl _) _⟩
set_option maxHeartbeats 1600000 in
set_option maxRecDepth 100000 in
theorem gcd64_lt (HD : Hid DivSaid) (A A' : Option Addr) (n c n' c' : Nat) (xs ys : List Nat) (w : World) (h : Dg .u64 w A n c xs) (h' : Dg .u64 w A' n' c' ys) (hN : Nrm xs) (hN' : Nrm ys) (X Y : Nat) (hX : Hid (vl (bs .u64) xs = X)) (hY : Hid (vl (bs .u64) ys = Y))
    (hn : n' ≤ 2000000) (hle : X < Y) (hs : n ≤ 1) :
    Calls Tryd.prog 108 #[.slice A n c, .slice A' n' c'] w (RetN .u64 w (Y.gcd X) (max n' 1)) := by
  have ho := ord_neg hle
  clear hle
  rcases (show n = 0 ∨ n = 1 by omega) with hn0 | hn0
  · have hG : Hid (Y.gcd X = Y) := by
      have : X = 0 := by rw [← hX.out, List.eq_nil_of_length_eq_zero (show xs.length = 0 by rw [h.len]; exact hn0)]; rfl
      show _ = _; rw [this, Nat.gcd_zero_right]
    subst hn0
    go_enter Tryd.func108, Tryd.ntmps108
    go_wp2_with fail
    refine (cmp64_any _ _ _ _ _ _ _ _ _ h h' hN hN' X Y hX hY).mono ?_
    rintro e w2 ⟨m, rfl, rfl⟩
    go_wp2
    go_ret
    exact ⟨_, _, _, _, rfl, h'.drewN m, hN', show _ = _ by rw [hY.out, hG.out], by omega, bel_drewN (Below.refl _ _) m⟩
  · subst hn0
    obtain ⟨ad', y, rfl, hcy, hy⟩ := h.at_ (j := 0) (by omega)
    have hyv := nrm_one64 h.len hy.out.1
    rw [hX.out] at hyv
    have hyb : y ≤ 18446744073709551615 := Nat.le_of_lt_succ hy.out.2
    have hy1 : 1 ≤ y := nrm_top hN h.len hy.out.1
    have Hyv := Lib.hid hyv
    clear hyv hs
    have hcy : w.cell? ad' = some (.int .u64 y) := hcy
    obtain ⟨r, hr⟩ : ∃ r, r = Y % y := ⟨_, rfl⟩
    have hry : r < y := by rw [hr]; exact Nat.mod_lt _ hy1
    have Hr : Hid (r = vl (bs .u64) ys % y) := by rw [hY.out]; exact hr
    have HG : Hid (Y.gcd X = y.gcd r) := by
      show _ = _
      rw [Hyv.out, hr, Nat.gcd_comm Y y, Nat.gcd_rec, Nat.gcd_comm]
    clear hr
    go_enter Tryd.func108, Tryd.ntmps108
    go_wp2_with fail
    refine (cmp64_any _ _ _ _ _ _ _ _ _ h h' hN hN' X Y hX hY).mono ?_
    rintro e w2 ⟨m, rfl, rfl⟩
    have hcy2 : (w.drewN m).cell? ad' = some (.int .u64 y) := hcy
    go_wp2
    go_quiet ((go_at_call 120; exact quiet_more (modulo_val HD _ _ _ _ _ _ (h'.drewN _) hn hy1 hyb r Hr)))
    go_wp2
    go_loopw [5, 6] (fun xv yv wr => ∃ a b m : Nat, xv = .int .u64 a ∧ yv = .int .u64 b ∧ 1 ≤ a ∧ a ≤ 18446744073709551615 ∧ b ≤ 18446744073709551615 ∧ Hid (Y.gcd X = a.gcd b) ∧ wr = w.drewN m) (fun _ yv _ => (intOf yv).toNat)
    case atStart => exact ⟨y, r, _, rfl, rfl, hy1, hyb, by omega, HG.out, by first | rfl | exact World.drewN_drewN _ _ _⟩
    case round =>
      obtain ⟨a, b, m3, rfl, rfl, ha1, hab, hbb, hG, rfl⟩ := hrel
      by_cases hb0 : 0 < b
      · have hG2 := Lib.hid (show Y.gcd X = b.gcd (a % b) by rw [hG.out, Nat.gcd_comm a b, Nat.gcd_rec, Nat.gcd_comm])
        have hmod : ((a : Int)).tmod (b : Int) = (a : Int) % (b : Int) := Int.tmod_eq_emod_of_nonneg (by omega)
        have hlt : (a : Int) % (b : Int) < (b : Int) := Int.emod_lt_of_pos _ (by omega)
        have hnn : 0 ≤ (a : Int) % (b : Int) := Int.emod_nonneg _ (by omega)
        have hcast := Lib.hid (show (a : Int) % (b : Int) = ((a % b : Nat) : Int) by rw [Int.natCast_emod])
        have hltn : a % b < b := Nat.mod_lt _ hb0
        go_wp2
        go_quiet (fail)
        go_wp2
        go_roundw
        case rel => exact ⟨b, a % b, _, rfl, by rw [hcast.out], hb0, hbb, by omega, hG2.out, by first | rfl | exact World.drewN_drewN _ _ _⟩
        case measure => simp [intOf]; omega
      · obtain rfl : b = 0 := by omega
        have hD := Dg.lit1_64 (w.drewN m3) 107 a hab
        go_wp2
        go_ret
        exact ⟨_, _, _, _, rfl, hD, by intro _; simp; omega, show _ = _ by rw [hG.out, Nat.gcd_zero_right]; simp [vl], by omega, (bel_drewN (Below.refl _ _) m3).alloc (Nat.le_refl _) _⟩
theorem gcd64_small (HD : Hid DivSaid) (A A' : Option Addr) (n c n' c' : Nat) (xs ys : List Nat) (w : World) (h : Dg .u64 w A n c xs) (h' : Dg .u64 w A' n' c' ys) (hN : Nrm xs) (hN' : Nrm ys) (X Y : Nat) (hX : Hid (vl (bs .u64) xs = X)) (hY : Hid (vl (bs .u64) ys = Y))
    (hn : n ≤ 2000000) (hn' : n' ≤ 2000000) (hs : n ≤ 1 ∨ n' ≤ 1) :
    Calls Tryd.prog 108 #[.slice A n c, .slice A' n' c'] w (RetN .u64 w (X.gcd Y) (max (max n n') 1)) := by
  have l1 : X ≤ Y → n ≤ n' := fun hl => by
    have := len_le_of one_lt_bs64 h'.ok hN (by rw [hX.out, hY.out]; exact hl)
    rw [h.len, h'.len] at this; exact this
  have l2 : Y ≤ X → n' ≤ n := fun hl => by
    have := len_le_of one_lt_bs64 h.ok hN' (by rw [hX.out, hY.out]; exact hl)
    rw [h.len, h'.len] at this; exact this
  by_cases hle : Y ≤ X
  · have := l2 hle
    refine (gcd64_ge HD A A' n c n' c' xs ys w h h' hN hN' X Y hX hY hn hle (by omega)).mono fun e w' ⟨A1, m, c1, us, he, hD, hn1, hv, hm, hb⟩ => ?_
    exact ⟨A1, m, c1, us, he, hD, hn1, hv, by omega, hb⟩
  · have := l1 (by omega)
    refine (gcd64_lt HD A A' n c n' c' xs ys w h h' hN hN' X Y hX hY hn' (by omega) (by omega)).mono fun e w' ⟨A1, m, c1, us, he, hD, hn1, hv, hm, hb⟩ => ?_
    exact ⟨A1, m, c1, us, he, hD, hn1, by rw [Nat.gcd_comm]; exact hv, by omega, hb⟩
end Go.Proofs.YtoljffghaklpdaaDoor.Fr


namespace Go.Proofs.YtoljffghaklpdaaDoor.Fr
open Go.RowKit Num

theorem nv_short {w : World} {A : Option Addr} {m c : Nat} {us ys : List Nat} {z y n : Nat} (hD : Dg .u64 w A m c us) (hN : Nrm us) (hv : Hid (vl (bs .u64) us = z)) (hy : Okd (bs .u64) ys) (hyl : ys.length = n) (hyv : vl (bs .u64) ys = y) (hle : z ≤ y) : NV .u64 w (.slice A m c) z n := by
  have h := len_le_of one_lt_bs64 hy hN (by rw [hv.out, hyv]; exact hle)
  rw [hD.len, hyl] at h
  exact NV.mk hD hN hv h

theorem NV.le {k : IntKind} {w : World} {v : Value} {x L L' : Nat} (h : NV k w v x L) (hl : L ≤ L') : NV k w v x L' := by
  obtain ⟨A, m, c, us, e, hD, h1, h2, h3⟩ := h
  exact ⟨A, m, c, us, e, hD, h1, h2, Nat.le_trans h3 hl⟩

set_option maxHeartbeats 1600000 in
set_option maxRecDepth 100000 in
theorem reduce_small (HD : Hid DivSaid) (s : Bool) (A A' : Option Addr) (n c n' c' : Nat) (xs ys : List Nat) (w : World) (h : Dg .u64 w A n c xs) (h' : Dg .u64 w A' n' c' ys) (hN : Nrm xs) (hN' : Nrm ys) (X Y : Nat) (hX : Hid (vl (bs .u64) xs = X)) (hY : Hid (vl (bs .u64) ys = Y))
    (hn : n ≤ 1) (hn' : n' ≤ 1) (hY0 : 0 < Y) :
    Calls Tryd.prog 91 #[.agg #[.bool s, .slice A n c, .slice A' n' c']] w (RetR w s (X / X.gcd Y) (Y / X.gcd Y) 1) := by
  have B1 := (Blk.new w 89 #[.bool s, .slice A n c, .slice A' n' c']).alloc (.cells #[.bool false, .slice none 0 0, .slice none 0 0] 89)
  have B2 := Blk.new (w.alloc (.cells #[.bool s, .slice A n c, .slice A' n' c'] 89)) 89 #[.bool false, .slice none 0 0, .slice none 0 0]
  have e1 : (w.alloc (.cells #[.bool s, .slice A n c, .slice A' n' c'] 89)).heap.size = w.heap.size + 1 := by simp
  have hw0 := ((Below.refl w.heap.size w).alloc (Nat.le_refl _) (.cells #[.bool s, .slice A n c, .slice A' n' c'] 89)).alloc (by rw [e1]; omega) (.cells #[.bool false, .slice none 0 0, .slice none 0 0] 89)
  rw [e1] at B2
  clear e1
  have h1 := h.below hw0
  have h2 := h'.below hw0
  have hG0 : 0 < X.gcd Y := Nat.gcd_pos_of_pos_right _ hY0
  go_enter Tryd.func91, Tryd.ntmps91
  go_upto_region 1 with fail
  generalize (w.alloc (.cells #[.bool s, .slice A n c, .slice A' n' c'] 89)).alloc (.cells #[.bool false, .slice none 0 0, .slice none 0 0] 89) = w1 at *
  have k0 : w1.cell? ⟨w.heap.size, 0, none⟩ = some (.bool s) := B1.cell 0
  have k1 : w1.cell? ⟨w.heap.size, 1, none⟩ = some (.slice A n c) := B1.cell 1
  have k2 : w1.cell? ⟨w.heap.size, 2, none⟩ = some (.slice A' n' c') := B1.cell 2
  go_wp2_with fail
  by_cases hY1 : Y = 1
  · have HY1 := Lib.hid hY1
    clear hY1
    refine (isOne_any _ _ _ _ _ h2 hN' _ hY true (decide_eq_true HY1.out)).mono ?_
    rintro e w' ⟨rfl, rfl⟩
    have r0 := B2.cell 0
    have r1 := B2.cell 1
    have r2 := B2.cell 2
    have f0 := B2.frozen 0
    have f1 := B2.frozen 1
    have f2 := B2.frozen 2
    go_wp2
    have hne1 := Lib.hid (show 0 < n → ∀ ad, A = some ad → ad.block ≠ w.heap.size + 1 from fun hp ad he => by have := h.blt hp ad he; omega)
    have hne2 := Lib.hid (show 0 < n' → ∀ ad, A' = some ad → ad.block ≠ w.heap.size + 1 from fun hp ad he => by have := h'.blt hp ad he; omega)
    exact ret_rat rfl rfl (((B2.set_ 0 _).set_ 1 _).set_ 2 _) rfl ⟨_, rfl, ⟨_, _, rfl, NV.mk (((h1.farp hne1.out 0 _).farp hne1.out 1 _).farp hne1.out 2 _) hN (show _ = _ by rw [hX.out, HY1.out, Nat.gcd_one_right, Nat.div_one]) hn, NV.mk (((h2.farp hne2.out 0 _).farp hne2.out 1 _).farp hne2.out 2 _) hN' (show _ = _ by rw [hY.out, HY1.out, Nat.gcd_one_right]) hn'⟩, bel_set3 hw0 (by omega) _ _ _⟩
  have HY1 := Lib.hid hY1
  clear hY1
  refine (isOne_any _ _ _ _ _ h2 hN' _ hY false (decide_eq_false HY1.out)).mono ?_
  rintro e w' ⟨rfl, rfl⟩
  go_wp2_with fail
  refine (gcd64_small HD _ _ _ _ _ _ _ _ _ h1 h2 hN hN' X Y hX hY (by omega) (by omega) (by omega)).mono ?_
  rintro e w2 ⟨A3, m3, c3, us3, rfl, hD3, hN3, hv3, hm3, hb2⟩
  have C1 := B1.below hb2
  have C2 := B2.below hb2
  have hw2 := hw0.trans (hb2.mono hw0.size)
  have q1 := h1.below hb2
  have q2 := h2.below hb2
  have k0 : w2.cell? ⟨w.heap.size, 0, none⟩ = some (.bool s) := C1.cell 0
  have k1 : w2.cell? ⟨w.heap.size, 1, none⟩ = some (.slice A n c) := C1.cell 1
  have k2 : w2.cell? ⟨w.heap.size, 2, none⟩ = some (.slice A' n' c') := C1.cell 2
  have hfx := Lib.hid (fun (hp : 0 < n) => h1.blt hp)
  by_cases hG1 : X.gcd Y = 1
  · have HG1 := Lib.hid hG1
    clear hG1
    go_wp2_with fail
    refine (isOne_any _ _ _ _ _ hD3 hN3 _ hv3 true (decide_eq_true HG1.out)).mono ?_
    rintro e w' ⟨rfl, rfl⟩
    have r0 := C2.cell 0
    have r1 := C2.cell 1
    have r2 := C2.cell 2
    have f0 := C2.frozen 0
    have f1 := C2.frozen 1
    have f2 := C2.frozen 2
    go_wp2
    have hne1 := Lib.hid (show 0 < n → ∀ ad, A = some ad → ad.block ≠ w.heap.size + 1 from fun hp ad he => by have := h.blt hp ad he; omega)
    have hne2 := Lib.hid (show 0 < n' → ∀ ad, A' = some ad → ad.block ≠ w.heap.size + 1 from fun hp ad he => by have := h'.blt hp ad he; omega)
    exact ret_rat rfl rfl (((C2.set_ 0 _).set_ 1 _).set_ 2 _) rfl ⟨_, rfl, ⟨_, _, rfl, NV.mk (((q1.farp hne1.out 0 _).farp hne1.out 1 _).farp hne1.out 2 _) hN (show _ = _ by rw [hX.out, HG1.out, Nat.div_one]) hn, NV.mk (((q2.farp hne2.out 0 _).farp hne2.out 1 _).farp hne2.out 2 _) hN' (show _ = _ by rw [hY.out, HG1.out, Nat.div_one]) hn'⟩, bel_set3 hw2 (by omega) _ _ _⟩
  · have HG1 := Lib.hid hG1
    clear hG1
    have hml : Hid (m3 ≤ 1) := by
      have h9 := len_le_of one_lt_bs64 h'.ok hN3 (by rw [hv3.out, hY.out]; exact Nat.le_of_dvd hY0 (Nat.gcd_dvd_right X Y))
      rw [hD3.len, h'.len] at h9
      show _ ≤ _; omega
    have hm1 : m3 = 1 := by
      have h9 := nz_len (b := bs .u64) (xs := us3) (by rw [hv3.out]; exact hG0)
      rw [hD3.len] at h9
      have := hml.out
      omega
    have Hm1 := Lib.hid hm1
    clear hm1
    go_wp2_with fail
    refine (isOne_any _ _ _ _ _ hD3 hN3 _ hv3 false (decide_eq_false HG1.out)).mono ?_
    rintro e w' ⟨rfl, rfl⟩
    go_wp2_with fail
    refine (divide_small HD _ _ _ _ _ _ _ _ _ q1 hD3 hN hN3 X _ hX hv3 (by omega) (.inr Hm1.out)).mono ?_
    rintro e w4 ⟨_, _, rfl, ⟨A4, m4, c4, us4, rfl, hD4, hN4, hv4, hm4⟩, ⟨A5, m5, c5, us5, rfl, _, _, _, _⟩, hb4, hf4⟩
    have D1 := C1.below hb4
    have D2 := C2.below hb4
    have hw4 := hw2.trans (hb4.mono hw2.size)
    have k0 : w4.cell? ⟨w.heap.size, 0, none⟩ = some (.bool s) := D1.cell 0
    have k2 : w4.cell? ⟨w.heap.size, 2, none⟩ = some (.slice A' n' c') := D1.cell 2
    go_wp2_with fail
    refine (divide_small HD _ _ _ _ _ _ _ _ _ (q2.below hb4) (hD3.below hb4) hN' hN3 Y _ hY hv3 (by omega) (.inr Hm1.out)).mono ?_
    rintro e w6 ⟨_, _, rfl, ⟨A6, m6, c6, us6, rfl, hD6, hN6, hv6, hm6⟩, ⟨A7, m7, c7, us7, rfl, _, _, _, _⟩, hb6, hf6⟩
    have E1 := D1.below hb6
    have E2 := D2.below hb6
    have hw6 := hw4.trans (hb6.mono hw4.size)
    have k0 : w6.cell? ⟨w.heap.size, 0, none⟩ = some (.bool s) := E1.cell 0
    have r0 := E2.cell 0
    have r1 := E2.cell 1
    have r2 := E2.cell 2
    have f0 := E2.frozen 0
    have f1 := E2.frozen 1
    have f2 := E2.frozen 2
    have hl2 := C2.lt
    have hs4 := hb4.size
    have g4 := Lib.hid (show ∀ ad, A4 = some ad → w.heap.size + 1 < ad.block from fun ad he => Nat.lt_of_lt_of_le hl2 (hf4.out _ _ _ rfl ad he))
    have g6 := Lib.hid (show ∀ ad, A6 = some ad → w.heap.size + 1 < ad.block from fun ad he => Nat.lt_of_lt_of_le hl2 (Nat.le_trans hs4 (hf6.out _ _ _ rfl ad he)))
    have hD4 := hD4.below hb6
    clear hf4 hf6
    go_wp2
    exact ret_rat rfl rfl (((E2.set_ 0 _).set_ 1 _).set_ 2 _) rfl ⟨_, rfl, ⟨_, _, rfl, nv_short (((hD4.far g4.out 0 _).far g4.out 1 _).far g4.out 2 _) hN4 hv4 h.ok rfl hX.out (Nat.div_le_self _ _) |>.le (by rw [h.len]; exact hn), nv_short (((hD6.far g6.out 0 _).far g6.out 1 _).far g6.out 2 _) hN6 hv6 h'.ok rfl hY.out (Nat.div_le_self _ _) |>.le (by rw [h'.len]; exact hn')⟩, bel_set3 hw6 (by omega) _ _ _⟩
end Go.Proofs.YtoljffghaklpdaaDoor.Fr


/- An integer as a number. -/
namespace Go.Proofs.YtoljffghaklpdaaDoor.Fr
open Go.RowKit Num

theorem nv_one {w : World} {v : Value} {x L : Nat} (h : NV .u64 w v x L) (hx : x ≤ 18446744073709551615) : NV .u64 w v x 1 := by
  obtain ⟨A, m, c, us, e, hD, h1, h2, _⟩ := h
  refine ⟨A, m, c, us, e, hD, h1, h2, ?_⟩
  rcases (show m ≤ 1 ∨ 2 ≤ m by omega) with hm | hm
  · exact hm
  · have h3 := h1.le (b := bs .u64) (by rw [hD.len]; omega)
    rw [h2.out, hD.len] at h3
    have h4 : bs .u64 ^ 1 ≤ bs .u64 ^ (m - 1) := Nat.pow_le_pow_right (by decide) (by omega)
    have h5 : bs .u64 ^ 1 = 18446744073709551616 := by decide
    omega

theorem of_any (n : Int) (w : World) (hr : -9223372036854775808 ≤ n ∧ n ≤ 9223372036854775807) :
    Calls Tryd.prog 70 #[.int .i64 n] w fun e w' => ∃ v, e = .returned v ∧ FV w' v (decide (n < 0)) n.natAbs 0 2 ∧ Below w.heap.size w w' := by
  have B2 := Blk.new w 75 #[.bool false, .slice none 0 0, .slice none 0 0]
  have hw0 := (Below.refl w.heap.size w).alloc (Nat.le_refl _) (.cells #[.bool false, .slice none 0 0, .slice none 0 0] 75)
  go_enter Tryd.func70, Tryd.ntmps70
  go_wp2_with fail
  generalize w.alloc (.cells #[.bool false, .slice none 0 0, .slice none 0 0] 75) = w1 at *
  refine (whole_any n _ hr).mono ?_
  rintro e w2 ⟨_, rfl, ⟨_, _, rfl, ⟨A3, m3, c3, us3, rfl, hD3, hN3, hv3, hm3⟩, ⟨A4, m4, c4, us4, rfl, hD4, hN4, hv4, hm4⟩⟩, hb2⟩
  have C2 := B2.below hb2
  have hw2 := hw0.trans (hb2.mono hw0.size)
  go_wp2_with fail
  refine (keep_any _ _ _ _ _ _ _ _ _ _ hD3 hD4 hN3 hN4 _ _ hv3 hv4 (by omega) (by omega)).mono ?_
  rintro e w3 ⟨_, rfl, ⟨_, _, rfl, n5, n6⟩, hb3⟩
  have C3 := C2.below hb3
  have hw3 := hw2.trans (hb3.mono hw2.size)
  have r0 := C3.cell 0
  have r1 := C3.cell 1
  have r2 := C3.cell 2
  have f0 := C3.frozen 0
  have f1 := C3.frozen 1
  have f2 := C3.frozen 2
  have n5' := (n5.le (show 2 * max m3 m4 ≤ 2 by omega))
  have n6' := (n6.le (show 2 * max m3 m4 ≤ 2 by omega))
  obtain ⟨A5, m5, c5, us5, rfl, _⟩ := n5
  obtain ⟨A6, m6, c6, us6, rfl, _⟩ := n6
  go_wp2
  exact ret_frac rfl rfl (((C3.set_ 0 _).set_ 1 _).set_ 2 _) rfl ⟨_, rfl, ⟨_, _, rfl, nv_set3 n5' C3 _ _ _, nv_set3 n6' C3 _ _ _⟩, bel_set3 hw3 (by omega) _ _ _⟩

end Go.Proofs.YtoljffghaklpdaaDoor.Fr
