import Derived.Test.YtbgihlfblmilmaaGreatDoorP5
import Derived.Deep.DeepCutAuto
import Derived.Test.YtbgihlfblmilmaaGreatDoorMem5
namespace Go.Proofs.YtbgihlfblmilmaaGreatDoor.Fr
open Go.RowKit Num

theorem invert_any (neg : Bool) (v1 v2 : Value) (A A' : Option Addr) (n c n' c' : Nat) (h1 : v1 = .slice A n c) (h2 : v2 = .slice A' n' c') (w : World) :
    Calls Tryz.prog 84 #[.agg #[.bool neg, v1, v2]] w fun e w' => e = .returned (.agg #[.bool neg, v2, v1]) ∧ Below w.heap.size w w' := by
  subst h1 h2
  have hb := ((Below.refl w.heap.size w).alloc (Nat.le_refl _) (.cells #[.bool neg, .slice A n c, .slice A' n' c'] 67)).alloc (by simp) (.cells #[.bool neg, .slice A' n' c', .slice A n c] 67)
  have hB := Blk.new (w.alloc (.cells #[.bool neg, .slice A n c, .slice A' n' c'] 67)) 67 #[.bool neg, .slice A' n' c', .slice A n c]
  rw [show (w.alloc (.cells #[.bool neg, .slice A n c, .slice A' n' c'] 67)).heap.size = w.heap.size + 1 from by simp] at hB
  go_enter Tryz.func84, Tryz.ntmps84
  go_wp2
  exact ret_rat rfl rfl hB rfl ⟨rfl, hb⟩

/-- the sign of a number that was taken apart -/
def sgn (neg : Bool) (N : Nat) : Int := if neg then -1 else if N = 0 then 0 else 1
theorem sign_any (neg : Bool) (A : Option Addr) (n c : Nat) (v2 : Value) (A' : Option Addr) (n' c' : Nat) (h2 : v2 = .slice A' n' c') (xs : List Nat) (w : World) (hD : Dg .u64 w A n c xs) (hN : Nrm xs) (x : Nat) (hx : Hid (vl (bs .u64) xs = x)) :
    Calls Tryz.prog 97 #[.agg #[.bool neg, .slice A n c, v2]] w fun e w' => e = .returned (.int .i64 (sgn neg x)) ∧ w' = w.alloc (.cells #[.bool neg, .slice A n c, v2] 67) := by
  subst h2
  have htop := hD.top
  have hcap := hD.cap
  have hp := nv_pos hD hN (by decide) hx
  rcases (show neg = true ∨ neg = false by cases neg <;> simp) with rfl | rfl
  · go_enter Tryz.func97, Tryz.ntmps97
    go_wp2
    go_ret
    exact ⟨rfl, rfl⟩
  · rcases (show n = 0 ∨ 0 < n by omega) with h0 | h0
    · have hs : Hid (sgn false x = 0) := by
        rw [h0] at hp
        have : ¬ 0 < x := by simpa using hp.symm
        show sgn false x = 0
        unfold sgn; simp; omega
      subst h0
      clear hp
      go_enter Tryz.func97, Tryz.ntmps97
      go_wp2
      go_ret
      exact ⟨ret_i64 (by rw [hs.out]; rfl), rfl⟩
    · have hs : Hid (sgn false x = 1) := by
        have : 0 < x := by
          rw [decide_eq_true h0] at hp
          exact of_decide_eq_true hp.symm
        show sgn false x = 1
        unfold sgn; simp; omega
      clear hp
      have hmin : ¬ ((n : Int) < 1) := by omega
      go_enter Tryz.func97, Tryz.ntmps97
      go_wp2
      go_ret
      exact ⟨ret_i64 (by rw [hs.out]; omega), rfl⟩

theorem Dg.lit1_64 (w : World) (t : TypeId) (x : Nat) (hx : x ≤ 18446744073709551615) : Dg .u64 (w.alloc (.cells #[.int .u64 (x : Int)] t)) (some ⟨w.heap.size, 0, none⟩) 1 1 [x] :=
  Mk.dg64 (Mk.new w t .u64 [x]) rfl (by decide : 1 ≤ 9223372036854775807) (by intro y hy; simp at hy; subst hy; exact Nat.lt_succ_of_le hx)

theorem three_blocks (w : World) (cs : Array Value) (x : Nat) (hx : x ≤ 18446744073709551615) :
    Blk (((w.alloc (.cells cs 67)).alloc (.cells #[.int .u64 (x : Int)] 82)).alloc (.cells #[.int .u64 1] 82)) w.heap.size 67 cs ∧
    Dg .u64 (((w.alloc (.cells cs 67)).alloc (.cells #[.int .u64 (x : Int)] 82)).alloc (.cells #[.int .u64 1] 82)) (some ⟨w.heap.size + 1, 0, none⟩) 1 1 [x] ∧
    Dg .u64 (((w.alloc (.cells cs 67)).alloc (.cells #[.int .u64 (x : Int)] 82)).alloc (.cells #[.int .u64 1] 82)) (some ⟨w.heap.size + 1 + 1, 0, none⟩) 1 1 [1] ∧
    Below w.heap.size w (((w.alloc (.cells cs 67)).alloc (.cells #[.int .u64 (x : Int)] 82)).alloc (.cells #[.int .u64 1] 82)) := by
  have e1 : (w.alloc (.cells cs 67)).heap.size = w.heap.size + 1 := by simp
  have e2 : ((w.alloc (.cells cs 67)).alloc (.cells #[.int .u64 (x : Int)] 82)).heap.size = w.heap.size + 1 + 1 := by simp
  refine ⟨((Blk.new w _ cs).alloc _).alloc _, ?_, ?_, (((Below.refl _ _).alloc (Nat.le_refl _) _).alloc (by rw [e1]; omega) _).alloc (by rw [e2]; omega) _⟩
  · have := (Dg.lit1_64 (w.alloc (.cells cs 67)) 82 x hx).alloc (.cells #[.int .u64 1] 82)
    rw [e1] at this; exact this
  · have := Dg.lit_one64 ((w.alloc (.cells cs 67)).alloc (.cells #[.int .u64 (x : Int)] 82)) 82
    rw [e2] at this; exact this

set_option maxHeartbeats 800000 in
theorem whole_any (n : Int) (w : World) (hr : -9223372036854775808 ≤ n ∧ n ≤ 9223372036854775807) :
    Calls Tryz.prog 82 #[.int .i64 n] w (RetR w (decide (n < 0)) n.natAbs 1 1) := by
  have hR0 := Blk.new w 67 #[.bool false, .slice none 0 0, .slice none 0 0]
  have hw0 := (Below.refl w.heap.size w).alloc (Nat.le_refl _) (.cells #[.bool false, .slice none 0 0, .slice none 0 0] 67)
  rcases (show n < 0 ∨ 0 ≤ n by omega) with h0 | h0
  · have hneg := Lib.hid (u64_negneg n ⟨hr.1, h0⟩)
    have hD0 := Dg.lit1_64 (w.alloc (.cells #[.bool false, .slice none 0 0, .slice none 0 0] 67)) 82 n.natAbs (by omega)
    rw [show (w.alloc (.cells #[.bool false, .slice none 0 0, .slice none 0 0] 67)).heap.size = w.heap.size + 1 from by simp] at hD0
    go_enter Tryz.func82, Tryz.ntmps82
    go_wp2_with fail
    rw [hneg.out]
    refine (trim64_any _ _ _ _ _ hD0).mono ?_
    rintro e w' ⟨rfl, rfl⟩
    go_wp2_with fail
    refine (one64_any _).mono ?_
    rintro e w' ⟨rfl, rfl⟩
    have H3 := fun cs => Lib.hid (three_blocks w cs n.natAbs (by omega))
    have hneg2 := Lib.hid (show true = decide (n < 0) from (decide_eq_true h0).symm)
    go_wp2
    exact ret_rat rfl rfl (H3 _).out.1 rfl ⟨_, rfl, ⟨_, _, by rw [hneg2.out], NV.mk (H3 _).out.2.1.tr (nrm_tr _) (show _ = _ by rw [vl_tr]; simp [vl]) (by have := tl_le [n.natAbs]; simpa using this), NV.mk (H3 _).out.2.2.1 nrm_lit1 (vl_lit1 _) (by omega)⟩, (H3 _).out.2.2.2⟩
  · have hnn := Lib.hid (show n = (n.natAbs : Int) by omega)
    have hD0 := Dg.lit1_64 (w.alloc (.cells #[.bool false, .slice none 0 0, .slice none 0 0] 67)) 82 n.natAbs (by omega)
    rw [show (w.alloc (.cells #[.bool false, .slice none 0 0, .slice none 0 0] 67)).heap.size = w.heap.size + 1 from by simp, ← hnn.out] at hD0
    go_enter Tryz.func82, Tryz.ntmps82
    go_wp2_with fail
    refine (trim64_any _ _ _ _ _ hD0).mono ?_
    rintro e w' ⟨rfl, rfl⟩
    go_wp2_with fail
    refine (one64_any _).mono ?_
    rintro e w' ⟨rfl, rfl⟩
    have H3 := fun cs => Lib.hid (three_blocks w cs n.natAbs (by omega))
    rw [← hnn.out] at H3
    go_wp2
    exact ret_rat rfl rfl (H3 _).out.1 rfl ⟨_, rfl, ⟨_, _, rfl, NV.mk (H3 _).out.2.1.tr (nrm_tr _) (show _ = _ by rw [vl_tr]; simp [vl]) (by have := tl_le [n.natAbs]; simpa using this), NV.mk (H3 _).out.2.2.1 nrm_lit1 (vl_lit1 _) (by omega)⟩, (H3 _).out.2.2.2⟩
end Go.Proofs.YtbgihlfblmilmaaGreatDoor.Fr

/- General lemmas on structs of digits. -/
namespace Go.Proofs.YtbgihlfblmilmaaGreatDoor.Fr
open Go.RowKit Num

theorem cell_set3 (w : World) (g : Nat) (a b d : Value) (p : Addr) (h : p.block ≠ g) : (((w.setCell ⟨g, 0, none⟩ a).setCell ⟨g, 1, none⟩ b).setCell ⟨g, 2, none⟩ d).cell? p = w.cell? p := by
  rw [World.cell?_setCell_other _ _ _ _ (fun e => h (by rw [← e])), World.cell?_setCell_other _ _ _ _ (fun e => h (by rw [← e])), World.cell?_setCell_other _ _ _ _ (fun e => h (by rw [← e]))]

theorem Dg.farp {k : IntKind} {w : World} {A : Option Addr} {n c : Nat} {xs : List Nat} (h : Dg k w A n c xs) {g : Nat} (hf : 0 < n → ∀ ad, A = some ad → ad.block ≠ g) (i : Nat) (u : Value) : Dg k (w.setCell ⟨g, i, none⟩ u) A n c xs :=
  ⟨h.len, h.cap, h.top, h.ok, fun hp => by
    obtain ⟨ad, e, hc⟩ := h.cell hp
    refine ⟨ad, e, fun j x hx => ?_⟩
    rw [World.cell?_setCell_other w _ _ u (fun e2 => by have h2 := congrArg Addr.block e2; rw [block_of_add] at h2; exact hf hp ad e h2.symm)]
    exact hc j x hx⟩
/-- digits do not lie in a block that holds a struct of a sign and two lists -/
theorem Dg.nob {k : IntKind} {w : World} {A : Option Addr} {n c : Nat} {xs : List Nat} (h : Dg k w A n c xs) {g : Nat} {t : TypeId} {a : Bool} {p1 q1 : Option Addr} {p2 p3 q2 q3 : Nat}
    (hB : Blk w g t #[.bool a, .slice p1 p2 p3, .slice q1 q2 q3]) : 0 < n → ∀ ad, A = some ad → ad.block ≠ g := by
  intro hp ad he hg
  obtain ⟨ad', x, e2, hc, _⟩ := h.at_ hp
  rw [he] at e2
  injection e2 with e2
  subst e2
  unfold Blk at hB
  rw [← hg] at hB
  rw [show ad.add 0 = ad from rfl] at hc
  simp only [World.cell?, hB] at hc
  have h3 : ∀ i : Nat, ∀ v, (#[Value.bool a, .slice p1 p2 p3, .slice q1 q2 q3] : Array Value)[i]? = some v → (∃ b, v = .bool b) ∨ ∃ x y z, v = .slice x y z := by
    intro i v hv
    match i, hv with
    | 0, hv => simp at hv; exact .inl ⟨_, hv.symm⟩
    | 1, hv => simp at hv; exact .inr ⟨_, _, _, hv.symm⟩
    | 2, hv => simp at hv; exact .inr ⟨_, _, _, hv.symm⟩
    | (i + 3), hv => simp at hv
  split at hc
  · cases hc
  · rcases h3 _ _ hc with ⟨b, hv⟩ | ⟨x1, y1, z1, hv⟩ <;> cases hv

theorem nv_set3 {k : IntKind} {w : World} {v : Value} {x L : Nat} (h : NV k w v x L) {g : Nat} {t : TypeId} {a : Bool} {p1 q1 : Option Addr} {p2 p3 q2 q3 : Nat} (hB : Blk w g t #[.bool a, .slice p1 p2 p3, .slice q1 q2 q3]) (x1 x2 x3 : Value) :
    NV k (((w.setCell ⟨g, 0, none⟩ x1).setCell ⟨g, 1, none⟩ x2).setCell ⟨g, 2, none⟩ x3) v x L := by
  obtain ⟨A, m, c, us, e, hD, h1, h2, h3⟩ := h
  have hn := hD.nob hB
  exact ⟨A, m, c, us, e, ((hD.farp hn 0 _).farp hn 1 _).farp hn 2 _, h1, h2, h3⟩

/-- a return of a number and an error -/
theorem ret_frac2 {fn : Func} {R : Ending → World → Prop} {act : Act} {W : World} {g p u : Nat} {a b c : Value} (hr : fn.results = #[.cell p 24, .tmp u]) (hs : act.tmps.getD p undef = .pointer (some ⟨g, 0, none⟩))
    (hB : Blk W g 24 #[a, b, c]) (hd : act.defers = []) (hR : R (.returned (.tuple #[.agg #[a, b, c], act.tmps.getD u undef])) W) : bodyPost Tryz.prog fn R .ret act W :=
  bodyPost_ret (v := .tuple #[.agg #[a, b, c], act.tmps.getD u undef]) (by rw [results_cell_tmp hr, hs]; simp [asAddr, load_frac hB]) hd hR

end Go.Proofs.YtbgihlfblmilmaaGreatDoor.Fr

namespace Go.Proofs.YtbgihlfblmilmaaGreatDoor.Fr
open Go.RowKit Num

/-- the denominator that is written: none for 1 -/
def dw (D : Nat) : Nat := if D = 1 then 0 else D

set_option maxHeartbeats 3200000 in
set_option maxRecDepth 100000 in
theorem keep_any (s : Bool) (A A' : Option Addr) (n c n' c' : Nat) (xs ys : List Nat) (w : World) (h : Dg .u64 w A n c xs) (h' : Dg .u64 w A' n' c' ys) (hN : Nrm xs) (hN' : Nrm ys) (X Y : Nat) (hX : Hid (vl (bs .u64) xs = X)) (hY : Hid (vl (bs .u64) ys = Y)) (hn : n ≤ 100000) (hn' : n' ≤ 100000) :
    Calls Tryz.prog 85 #[.agg #[.bool s, .slice A n c, .slice A' n' c']] w
      fun e w' => ∃ v, e = .returned v ∧ FV w' v s X (dw Y) (2 * max n n') ∧ Below w.heap.size w w' := by
  have B1 := (Blk.new w 67 #[.bool s, .slice A n c, .slice A' n' c']).alloc (.cells #[.bool false, .slice none 0 0, .slice none 0 0] 24)
  have B2 := Blk.new (w.alloc (.cells #[.bool s, .slice A n c, .slice A' n' c'] 67)) 24 #[.bool false, .slice none 0 0, .slice none 0 0]
  have e1 : (w.alloc (.cells #[.bool s, .slice A n c, .slice A' n' c'] 67)).heap.size = w.heap.size + 1 := by simp
  have hw0 := ((Below.refl w.heap.size w).alloc (Nat.le_refl _) (.cells #[.bool s, .slice A n c, .slice A' n' c'] 67)).alloc (by rw [e1]; omega) (.cells #[.bool false, .slice none 0 0, .slice none 0 0] 24)
  rw [e1] at B2
  clear e1
  have h1 := h.below hw0
  have h2 := h'.below hw0
  go_enter Tryz.func85, Tryz.ntmps85
  go_upto_region 1 with fail
  generalize (w.alloc (.cells #[.bool s, .slice A n c, .slice A' n' c'] 67)).alloc (.cells #[.bool false, .slice none 0 0, .slice none 0 0] 24) = w1 at *
  have k0 : w1.cell? ⟨w.heap.size, 0, none⟩ = some (.bool s) := B1.cell 0
  have k1 : w1.cell? ⟨w.heap.size, 1, none⟩ = some (.slice A n c) := B1.cell 1
  have hB2lt := B2.lt
  go_cut [3] (fun v wx => ∃ g A5 m5 c5 us5, v = .pointer (some ⟨g, 0, none⟩) ∧ Blk wx g 24 #[.bool s, .slice A5 m5 c5, .slice none 0 0] ∧ Dg .u32 wx A5 m5 c5 us5 ∧ Nrm us5 ∧ Hid (vl (bs .u32) us5 = X) ∧ m5 ≤ 2 * n ∧
    Blk wx w.heap.size 67 #[.bool s, .slice A n c, .slice A' n' c'] ∧ Blk wx (w.heap.size + 1) 24 #[.bool false, .slice none 0 0, .slice none 0 0] ∧ w.heap.size + 1 < g ∧ Below w.heap.size w wx ∧
    Hid ((∀ ad, A5 = some ad → w.heap.size + 1 < ad.block) ∧ (0 < m5 → ∀ ad, A5 = some ad → ad.block ≠ g)) ∧ Dg .u64 wx A' n' c' ys)
  case first =>
    go_region_held3 (fun wx => wx.cell? ⟨w.heap.size, 0, none⟩ = some (.bool s) ∧ wx.cell? ⟨w.heap.size, 1, none⟩ = some (.slice A n c))
      (first | exact ⟨k0, k1⟩ | exact K5 | exact K8.out _ _ _ | go_keep)
      (first
        | (go_at_call 126; refine (digits_any _ _ _ _ _ (h1.drew) hN (by omega) X hX).mono ?_; rintro e w5 ⟨A5, m5, c5, us5, rfl, hD5, hN5, hv5, hm5, hb5, hf5⟩; have P1 := B1.drew.below hb5; have K5 : w5.cell? ⟨w.heap.size, 0, none⟩ = some (.bool s) ∧ w5.cell? ⟨w.heap.size, 1, none⟩ = some (.slice A n c) := ⟨P1.cell 0, P1.cell 1⟩; have tok1 : True := trivial)
        | (go_at_call 126; refine (digits_any _ _ _ _ _ ((h1.alloc (.cells #[.bool false, .slice none 0 0, .slice none 0 0] 24)).drew) hN (by omega) X hX).mono ?_; rintro e w5 ⟨A5, m5, c5, us5, rfl, hD5, hN5, hv5, hm5, hb5, hf5⟩; have P1 := (B1.alloc (.cells #[.bool false, .slice none 0 0, .slice none 0 0] 24)).drew.below hb5; have K5 : w5.cell? ⟨w.heap.size, 0, none⟩ = some (.bool s) ∧ w5.cell? ⟨w.heap.size, 1, none⟩ = some (.slice A n c) := ⟨P1.cell 0, P1.cell 1⟩; have P3 := (Blk.new w1 24 #[.bool false, .slice none 0 0, .slice none 0 0]).drew.below hb5; have r0 := P3.cell 0; have r1 := P3.cell 1; have r2 := P3.cell 2; have f0 := P3.frozen 0; have f1 := P3.frozen 1; have f2 := P3.frozen 2; have K8 := Lib.hid (show ∀ a b d, (((w5.setCell ⟨w1.heap.size, 0, none⟩ a).setCell ⟨w1.heap.size, 1, none⟩ b).setCell ⟨w1.heap.size, 2, none⟩ d).cell? ⟨w.heap.size, 0, none⟩ = some (.bool s) ∧ (((w5.setCell ⟨w1.heap.size, 0, none⟩ a).setCell ⟨w1.heap.size, 1, none⟩ b).setCell ⟨w1.heap.size, 2, none⟩ d).cell? ⟨w.heap.size, 1, none⟩ = some (.slice A n c) from fun a b d => ⟨(cell_set3 _ _ _ _ _ _ (by show w.heap.size ≠ _; omega)).trans K5.1, (cell_set3 _ _ _ _ _ _ (by show w.heap.size ≠ _; omega)).trans K5.2⟩); have tok2 : True := trivial))
    all_goals first
      | (have _t := tok1
         have hw5 := hw0.drew.trans (hb5.mono hw0.size)
         have hlt5 := hb5.size
         have hE := Lib.hid (show (∀ ad, A5 = some ad → w.heap.size + 1 < ad.block) ∧ (0 < m5 → ∀ ad, A5 = some ad → ad.block ≠ w5.heap.size) from ⟨fun ad he => Nat.lt_of_lt_of_le hB2lt (hf5.out ad he), fun hp ad he => Nat.ne_of_lt (hD5.blt hp ad he)⟩)
         have hg : w.heap.size + 1 < w5.heap.size := Nat.lt_of_lt_of_le hB2lt hlt5
         go_wp2_with fail
         go_meet
         exact ⟨_, A5, m5, c5, us5, rfl, Blk.new _ _ _, hD5.alloc _, hN5, hv5, hm5, P1.alloc _, (B2.drew.below hb5).alloc _, hg, hw5.alloc hw5.size _, hE, (h2.drew.below hb5).alloc _⟩)
      | (have _t := tok2
         have hwz := hw0.alloc hw0.size (.cells #[.bool false, .slice none 0 0, .slice none 0 0] 24)
         have hw5 := hwz.drew.trans (hb5.mono hwz.size)
         have hsz : (w1.alloc (.cells #[.bool false, .slice none 0 0, .slice none 0 0] 24)).heap.size = w1.heap.size + 1 := by simp
         have hfa := Lib.hid (show ∀ ad, A5 = some ad → w1.heap.size < ad.block from fun ad he => by have h9 := hf5.out ad he; rw [show (w1.alloc (.cells #[.bool false, .slice none 0 0, .slice none 0 0] 24)).drew.heap.size = (w1.alloc (.cells #[.bool false, .slice none 0 0, .slice none 0 0] 24)).heap.size from rfl, hsz] at h9; omega)
         have hE := Lib.hid (show (∀ ad, A5 = some ad → w.heap.size + 1 < ad.block) ∧ (0 < m5 → ∀ ad, A5 = some ad → ad.block ≠ w1.heap.size) from ⟨fun ad he => Nat.lt_trans hB2lt (hfa.out ad he), fun _ ad he => by have h9 := hfa.out ad he; omega⟩)
         have P2 := (B2.alloc (.cells #[.bool false, .slice none 0 0, .slice none 0 0] 24)).drew.below hb5
         have hD2 := (h2.alloc (.cells #[.bool false, .slice none 0 0, .slice none 0 0] 24)).drew.below hb5
         have hnA : w.heap.size ≠ w1.heap.size := by omega
         have hnB : w.heap.size + 1 ≠ w1.heap.size := by omega
         have hne2 := Lib.hid (show 0 < n' → ∀ ad, A' = some ad → ad.block ≠ w1.heap.size from fun hp ad he => Nat.ne_of_lt (h2.blt hp ad he))
         go_wp2_with fail
         go_meet
         exact ⟨_, A5, m5, c5, us5, rfl, ((P3.set_ 0 _).set_ 1 _).set_ 2 _, ((hD5.far hfa.out 0 _).far hfa.out 1 _).far hfa.out 2 _, hN5, hv5, hm5, ((P1.far (p := ⟨w1.heap.size, 0, none⟩) hnA _).far (p := ⟨w1.heap.size, 1, none⟩) hnA _).far (p := ⟨w1.heap.size, 2, none⟩) hnA _,
           ((P2.far (p := ⟨w1.heap.size, 0, none⟩) hnB _).far (p := ⟨w1.heap.size, 1, none⟩) hnB _).far (p := ⟨w1.heap.size, 2, none⟩) hnB _, hB2lt, bel_set3 hw5 (by omega) _ _ _, hE, ((hD2.farp hne2.out 0 _).farp hne2.out 1 _).farp hne2.out 2 _⟩)
  case rest =>
    clear h1 h2 k0 k1 B1 B2 hB2lt hw0 h h'
    obtain ⟨g, A5, m5, c5, us5, rfl, G1, D5, N5, V5, M5, P1, P2, hlt, hwc, hf, D2⟩ := hcut
    have p2 : wc.cell? ⟨w.heap.size, 2, none⟩ = some (.slice A' n' c') := P1.cell 2
    by_cases hY1 : Y = 1
    · have HY1 := Lib.hid hY1
      clear hY1
      go_wp2_with fail
      refine (isOne_any _ _ _ _ _ D2 hN' Y hY true (decide_eq_true HY1.out)).mono ?_
      rintro e w' ⟨rfl, rfl⟩
      have g0 : wc.cell? ⟨g, 0, none⟩ = some (.bool s) := G1.cell 0
      have g1 : wc.cell? ⟨g, 1, none⟩ = some (.slice A5 m5 c5) := G1.cell 1
      have g2 : wc.cell? ⟨g, 2, none⟩ = some (.slice none 0 0) := G1.cell 2
      have r0 := P2.cell 0
      have r1 := P2.cell 1
      have r2 := P2.cell 2
      have f0 := P2.frozen 0
      have f1 := P2.frozen 1
      have f2 := P2.frozen 2
      go_wp2
      exact ret_frac rfl rfl (((P2.set_ 0 _).set_ 1 _).set_ 2 _) rfl ⟨_, rfl, ⟨_, _, rfl, nv_far3 D5 N5 V5 (by omega) hf.out.1 _ _ _, by unfold dw; rw [if_pos HY1.out]; exact NV.mk (Dg.nil _ _) Nrm.nil rfl (Nat.zero_le _)⟩, bel_set3 hwc (by omega) _ _ _⟩
    · have HY1 := Lib.hid hY1
      clear hY1
      go_wp2_with fail
      refine (isOne_any _ _ _ _ _ D2 hN' Y hY false (decide_eq_false HY1.out)).mono ?_
      rintro e w' ⟨rfl, rfl⟩
      go_wp2_with fail
      refine (digits_any _ _ _ _ _ D2 hN' (by omega) Y hY).mono ?_
      rintro e w6 ⟨A6, m6, c6, us6, rfl, hD6, hN6, hv6, hm6, hb6, hf6⟩
      have G2 := G1.below hb6
      have P3 := P2.below hb6
      have D6 := D5.below hb6
      have hw6 := hwc.trans (hb6.mono hwc.size)
      have hgl := G1.lt
      have g0 : w6.cell? ⟨g, 0, none⟩ = some (.bool s) := G2.cell 0
      have g1 : w6.cell? ⟨g, 1, none⟩ = some (.slice A5 m5 c5) := G2.cell 1
      have g2 : w6.cell? ⟨g, 2, none⟩ = some (.slice none 0 0) := G2.cell 2
      have fg := G2.frozen 2
      have r0 := P3.cell 0
      have r1 := P3.cell 1
      have r2 := P3.cell 2
      have f0 := P3.frozen 0
      have f1 := P3.frozen 1
      have f2 := P3.frozen 2
      have hne : w.heap.size + 1 ≠ g := by omega
      have hfg := Lib.hid (show ∀ ad, A6 = some ad → g < ad.block ∧ w.heap.size + 1 < ad.block from fun ad he => by have h9 := hf6.out ad he; omega)
      go_wp2
      exact ret_frac rfl rfl ((((P3.far (p := ⟨g, 2, none⟩) hne _).set_ 0 _).set_ 1 _).set_ 2 _) rfl ⟨_, rfl, ⟨_, _, rfl, nv_far3 (D6.farp hf.out.2 2 _) N5 V5 (by omega) hf.out.1 _ _ _, by unfold dw; rw [if_neg HY1.out]; exact nv_far3 (hD6.far (fun ad he => (hfg.out ad he).1) 2 _) hN6 hv6 (by omega) (fun ad he => (hfg.out ad he).2) _ _ _⟩, bel_set3 (hw6.setCell (p := ⟨g, 2, none⟩) (by show _ ≤ g; omega) _) (by omega) _ _ _⟩
end Go.Proofs.YtbgihlfblmilmaaGreatDoor.Fr

namespace Go.Proofs.YtbgihlfblmilmaaGreatDoor.Fr
open Go.RowKit Num

/-- what math/bits.Div64 returns for hi < y -/
def DivSaid : Prop := ∀ (hi lo y : Nat) (w : World), hi < y → lo ≤ 18446744073709551615 → y ≤ 18446744073709551615 →
  Calls Tryz.prog 150 #[.int .u64 (hi : Int), .int .u64 (lo : Int), .int .u64 (y : Int)] w fun e w' => ∃ m, e = .returned (.tuple #[.int .u64 (((hi * bs .u64 + lo) / y : Nat) : Int), .int .u64 (((hi * bs .u64 + lo) % y : Nat) : Int)]) ∧ w' = w.drewN m

theorem div64_zero (lo y : Nat) (hlo : lo ≤ 18446744073709551615) (hy : 1 ≤ y) (hyb : y ≤ 18446744073709551615) (w : World) :
    Calls Tryz.prog 150 #[.int .u64 0, .int .u64 (lo : Int), .int .u64 (y : Int)] w fun e w' => ∃ m, e = .returned (.tuple #[.int .u64 ((lo / y : Nat) : Int), .int .u64 ((lo % y : Nat) : Int)]) ∧ w' = w.drewN m := by
  have h0 : ((y : Int) == 0) = false := by rw [beq_eq_false_iff_ne]; omega
  have h1 : ¬ (y : Int) ≤ 0 := by omega
  have e1 : ((lo / y : Nat) : Int) = (lo : Int) / (y : Int) := by rw [Int.natCast_ediv]
  have e2 : ((lo % y : Nat) : Int) = (lo : Int) % (y : Int) := by rw [Int.natCast_emod]
  have H1 := Lib.hid e1
  have H2 := Lib.hid e2
  clear e1 e2
  rw [H1.out, H2.out]
  have hw : IntKind.u64.wrap ((lo : Int) / (y : Int)) = (lo : Int) / (y : Int) := IntWalk.u64_in _ ⟨Int.ediv_nonneg (by omega) (by omega), by have := Int.ediv_le_self (a := (lo : Int)) (y : Int) (by omega); omega⟩
  go_enter Tryz.func150, Tryz.ntmps150
  go_wp2
  go_quiet (fail)
  go_wp2
  go_ret2
  exact ⟨_, rfl, rfl⟩

structure ShrRel (w : World) (g n y : Nat) (cur0 : List Nat) (rv iv : Value) (wr : World) (k r : Nat) (cur : List Nat) : Prop where
  i : iv = .int .i64 ((k : Int) - 1)
  rv : rv = .int .u64 r
  kb : k ≤ n
  hr : Hid (r = vl (bs .u64) (cur0.drop k) % y)
  rb : r < y
  len : Hid (cur.length = n)
  ok : Okd (bs .u64) cur
  own : Mk wr g 82 .u64 cur
  val : Hid (vl (bs .u64) (cur.drop k) = vl (bs .u64) (cur0.drop k) / y)
  tk : Hid (cur.take k = cur0.take k)
  onl : Onl g w wr

set_option maxHeartbeats 1600000 in
set_option maxRecDepth 100000 in
theorem shrink_any (HD : Hid DivSaid) (g n ca y : Nat) (cur0 : List Nat) (w : World) (hM : Mk w g 82 .u64 cur0) (hok : Okd (bs .u64) cur0) (hl : Hid (cur0.length = n)) (hn : n ≤ 2000000) (hy : 1 ≤ y) (hyb : y ≤ 18446744073709551615) :
    Calls Tryz.prog 133 #[.slice (some ⟨g, 0, none⟩) n ca, .int .u64 (y : Int)] w fun e w' => ∃ (r : Nat) (cur : List Nat), e = .returned (.int .u64 (r : Int)) ∧ Hid (r = vl (bs .u64) cur0 % y) ∧ r < y ∧
      Mk w' g 82 .u64 cur ∧ Okd (bs .u64) cur ∧ Hid (cur.length = n) ∧ Hid (vl (bs .u64) cur = vl (bs .u64) cur0 / y) ∧ Onl g w w' := by
  go_enter Tryz.func133, Tryz.ntmps133
  go_wp2
  go_loopw [5, 6] (fun rv iv wr => ∃ k r cur, ShrRel w g n y cur0 rv iv wr k r cur) (fun _ iv _ => (intOf iv + 1).toNat)
  case atStart =>
    have e : cur0.drop n = [] := List.drop_eq_nil_of_le (by have := hl.out; omega)
    exact ⟨n, 0, cur0, rfl, rfl, Nat.le_refl _, show _ = _ by rw [e]; simp [vl], by omega, hl, hok, hM, show _ = _ by rw [e]; simp [vl], rfl, Onl.refl _ _⟩
  case round =>
    clear hM hok
    obtain ⟨k, r, cur, hi, rfl, hkb, hr, hry, hcl, hco, hown, hval, htk, hon⟩ := hrel
    rcases idx_cases hi with ⟨rfl, rfl⟩ | ⟨j, rfl, rfl⟩
    · clear hi
      go_wp2
      go_ret
      exact ⟨r, cur, rfl, hr, hry, hown, hco, hcl, hval, hon⟩
    · clear hi
      have hT := Lib.hid (take_set_getD (d := (r * bs .u64 + cur0.getD j 0) / y) htk.out (by rw [hcl.out]; omega) (by rw [hl.out]; omega))
      obtain ⟨x, hx⟩ : ∃ x, cur0.getD j 0 = x := ⟨_, rfl⟩
      have hcc := hown.cell (i := j) (by rw [hcl.out]; omega)
      rw [hT.out.1, hx] at hcc
      have hcf := hown.frozen j
      have hxb : x ≤ 18446744073709551615 := by rw [← hx, ← hT.out.1]; exact Nat.le_of_lt_succ (hco.getD (by decide) _)
      have HS := Lib.hid (shrink_step hcl.out hl.out (by omega) hx hy hr.out hval.out)
      have Hq := Lib.hid (div1_lt_b (b := bs .u64) (x := x) hry (Nat.lt_succ_of_le hxb))
      rw [hx] at hT
      have Hx := Lib.hid hx
      clear hx
      go_wp2_with fail
      refine (HD.out r x y wr hry hxb hyb).mono ?_
      rintro e w2 ⟨m, rfl, rfl⟩
      have hrm : (r * bs .u64 + x) % y < y := Nat.mod_lt _ hy
      generalize (r * bs .u64 + x) / y = qd at *
      generalize (r * bs .u64 + x) % y = r2 at *
      go_wp2
      go_roundw
      case rel =>
        exact ⟨j, r2, cur.set j qd, rfl, rfl, by omega, HS.out.2, hrm, show _ = _ by rw [List.length_set]; exact hcl.out, hco.set _ Hq.out, (hown.drewN m).set_ _ _, HS.out.1, hT.out.2, (hon.drewN m).set_ _ _⟩
      case measure => simp [intOf]
end Go.Proofs.YtbgihlfblmilmaaGreatDoor.Fr
