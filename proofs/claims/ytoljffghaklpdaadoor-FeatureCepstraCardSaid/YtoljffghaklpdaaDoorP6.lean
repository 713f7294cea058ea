import Derived.Test.YtoljffghaklpdaaDoorNum
import Derived.Deep.RegionHeld3
import Derived.StillTailTactics
import Derived.Deep.RegionWith

namespace Go.Proofs.YtoljffghaklpdaaDoor.Fr
open Go.RowKit Num

theorem load_rat {g : Nat} {W : World} {a b c : Value} (h : Blk W g 89 #[a, b, c]) : (loadVar 89 ⟨g, 0, none⟩).run Tryd.prog W = .ok (.agg #[a, b, c]) W := by
  have q0 : W.cell? ⟨g, 0, none⟩ = some a := h.cell 0
  have q1 : W.cell? ⟨g, 1, none⟩ = some b := h.cell 1
  have q2 : W.cell? ⟨g, 2, none⟩ = some c := h.cell 2
  simp [go_sem, q0, q1, q2]
theorem ret_rat {fn : Func} {R : Ending → World → Prop} {act : Act} {W : World} {g p : Nat} {a b c : Value} (hr : fn.results = #[.cell p 89]) (hs : act.tmps.getD p undef = .pointer (some ⟨g, 0, none⟩))
    (hB : Blk W g 89 #[a, b, c]) (hd : act.defers = []) (hR : R (.returned (.agg #[a, b, c])) W) : bodyPost Tryd.prog fn R .ret act W :=
  bodyPost_ret (v := .agg #[a, b, c]) (by rw [results_cell hr, hs]; simp [asAddr, load_rat hB]) hd hR

/-- the value v is the number with the sign neg, the numerator N and the denominator D, in digits of 64 bits -/
def RV (w : World) (v : Value) (neg : Bool) (N D L : Nat) : Prop := ∃ v1 v2, v = .agg #[.bool neg, v1, v2] ∧ NV .u64 w v1 N L ∧ NV .u64 w v2 D L
theorem RV.below {w w' : World} {v : Value} {neg : Bool} {N D L : Nat} (h : RV w v neg N D L) (hb : Below w.heap.size w w') : RV w' v neg N D L := by
  obtain ⟨v1, v2, e, h1, h2⟩ := h
  exact ⟨v1, v2, e, h1.below hb, h2.below hb⟩
def RetR (w : World) (neg : Bool) (N D L : Nat) (e : Ending) (w' : World) : Prop := ∃ v, e = .returned v ∧ RV w' v neg N D L ∧ Below w.heap.size w w'

theorem Dg.lit_one64 (w : World) (t : TypeId) : Dg .u64 (w.alloc (.cells #[.int .u64 1] t)) (some ⟨w.heap.size, 0, none⟩) 1 1 [1] :=
  Mk.dg64 (Mk.new w t .u64 [1]) rfl (by decide : 1 ≤ 9223372036854775807) (by intro x hx; simp at hx; subst hx; decide)

theorem signed_any (neg : Bool) (A A' : Option Addr) (n c n' c' : Nat) (w : World) (hn : n ≤ 9223372036854775807) :
    Calls Tryd.prog 94 #[.bool neg, .slice A n c, .slice A' n' c'] w fun e w' => e = .returned (.agg #[.bool (neg && decide (0 < n)), .slice A n c, .slice A' n' c']) ∧ Below w.heap.size w w' := by
  rcases (show neg = true ∧ 0 < n ∨ (neg = true ∧ n = 0) ∨ neg = false by cases neg <;> simp <;> omega) with ⟨rfl, hp⟩ | ⟨rfl, rfl⟩ | rfl
  · have hf := Lib.hid (show (true && decide (0 < n)) = true by simp [hp])
    go_enter Tryd.func94, Tryd.ntmps94
    go_wp2
    exact ret_rat rfl rfl (Blk.new _ _ _) rfl ⟨by rw [hf.out], (Below.refl _ _).alloc (Nat.le_refl _) _⟩
  · go_enter Tryd.func94, Tryd.ntmps94
    go_wp2
    exact ret_rat rfl rfl (Blk.new _ _ _) rfl ⟨rfl, (Below.refl _ _).alloc (Nat.le_refl _) _⟩
  · go_enter Tryd.func94, Tryd.ntmps94
    go_wp2
    exact ret_rat rfl rfl (Blk.new _ _ _) rfl ⟨rfl, (Below.refl _ _).alloc (Nat.le_refl _) _⟩

theorem nv_pos {k : IntKind} {w : World} {A : Option Addr} {n c : Nat} {xs : List Nat} (hD : Dg k w A n c xs) (hN : Nrm xs) (hb : 0 < bs k) {x : Nat} (hx : Hid (vl (bs k) xs = x)) : decide (0 < n) = decide (0 < x) := by
  rw [← hx.out]
  by_cases h0 : 0 < n
  · rw [decide_eq_true h0, decide_eq_true (hN.pos hb (by rw [hD.len]; exact h0))]
  · have : xs = [] := List.eq_nil_of_length_eq_zero (by rw [hD.len]; omega)
    rw [decide_eq_false h0, this]; rfl

set_option maxHeartbeats 1600000 in
set_option maxRecDepth 100000 in
theorem load_any (neg : Bool) (A A' : Option Addr) (n c n' c' : Nat) (xs ys : List Nat) (w : World) (h : Dg .u32 w A n c xs) (h' : Dg .u32 w A' n' c' ys) (hn : n ≤ 900000) (hn' : n' ≤ 900000) :
    Calls Tryd.prog 90 #[.agg #[.bool neg, .slice A n c, .slice A' n' c']] w
      (RetR w (neg && decide (0 < vl (bs .u32) xs)) (vl (bs .u32) xs) (dn (vl (bs .u32) ys)) (n + n' + 1)) := by
  have hB0 := (Blk.new w 75 #[.bool neg, .slice A n c, .slice A' n' c']).alloc (.cells #[.bool false, .slice none 0 0, .slice none 0 0] 89)
  have hR0 := Blk.new (w.alloc (.cells #[.bool neg, .slice A n c, .slice A' n' c'] 75)) 89 #[.bool false, .slice none 0 0, .slice none 0 0]
  rw [show (w.alloc (.cells #[.bool neg, .slice A n c, .slice A' n' c'] 75)).heap.size = w.heap.size + 1 from by simp] at hR0
  have hw0 := ((Below.refl w.heap.size w).alloc (Nat.le_refl _) (.cells #[.bool neg, .slice A n c, .slice A' n' c'] 75)).alloc (by simp) (.cells #[.bool false, .slice none 0 0, .slice none 0 0] 89)
  have h1 := h.below hw0
  have h1' := h'.below hw0
  go_enter Tryd.func90, Tryd.ntmps90
  go_wp2_with fail
  generalize (w.alloc (.cells #[.bool neg, .slice A n c, .slice A' n' c'] 75)).alloc (.cells #[.bool false, .slice none 0 0, .slice none 0 0] 89) = w1 at *
  refine (fromDigits_any _ _ _ _ _ h1' (by omega)).mono ?_
  rintro e w2 ⟨A2, m2, c2, us2, rfl, hD2, hN2, hv2, hm2, hb2, hf2⟩
  have hB2 := hB0.below hb2
  have hR2 := hR0.below hb2
  have hw2 := hw0.trans (hb2.mono hw0.size)
  have h2 := h1.below hb2
  rcases (show m2 = 0 ∨ 0 < m2 by omega) with hm0 | hm0
  all_goals
    first
      | (have Hd : Hid (dn (vl (bs .u32) ys) = 1) := by
           have h0 := hD2.len
           rw [hm0] at h0
           have h1 := hv2.out
           rw [List.eq_nil_of_length_eq_zero h0] at h1
           show dn _ = _
           rw [← h1]; rfl
         have hme : ((m2 : Int) == 0) = true := by rw [beq_iff_eq]; omega
         clear hm0
         go_wp2_with fail
         refine (one64_any _).mono ?_
         rintro e w3 ⟨rfl, rfl⟩
         have hD3 := Dg.lit_one64 w2 107
         have hN3 := nrm_lit1
         have hv3 : Hid (vl (bs .u64) [1] = dn (vl (bs .u32) ys)) := by rw [Hd.out]; exact vl_lit1 _
         have hB3 := hB2.alloc (.cells #[.int .u64 1] 107)
         have hR3 := hR2.alloc (.cells #[.int .u64 1] 107)
         have hw3 := hw2.alloc hw2.size (.cells #[.int .u64 1] 107)
         have h3 := h2.alloc (.cells #[.int .u64 1] 107)
         have hm3 : 1 ≤ n + n' + 1 := by omega
         have hfd : Hid (∀ ad, (some ⟨w2.heap.size, 0, none⟩ : Option Addr) = some ad → w.heap.size + 1 < ad.block) := fun ad he => by injection he with he; subst he; exact hR2.lt
         go_upto_region 4 with fail
         generalize (w2.alloc (.cells #[.int .u64 1] 107)) = w3 at *)
      | (have hme : ((m2 : Int) == 0) = false := by rw [beq_eq_false_iff_ne]; omega
         have hv3 : Hid (vl (bs .u64) us2 = dn (vl (bs .u32) ys)) := by
           have h0 := hN2.pos (b := bs .u64) (by decide) (by rw [hD2.len]; exact hm0)
           rw [hv2.out] at h0
           rw [dn_pos h0]; exact hv2
         have hD3 := hD2
         have hN3 := hN2
         have hB3 := hB2
         have hR3 := hR2
         have hw3 := hw2
         have h3 := h2
         have hm3 : m2 ≤ n + n' + 1 := by omega
         have hfd : Hid (∀ ad, A2 = some ad → w.heap.size + 1 < ad.block) := fun ad he => Nat.lt_of_lt_of_le hR0.lt (hf2.out ad he)
         go_upto_region 4 with fail
         obtain ⟨w3, rfl⟩ : ∃ w3 : World, w3 = w2 := ⟨_, rfl⟩)
  all_goals
    have c0 : w3.cell? ⟨w.heap.size, 0, none⟩ = some (.bool neg) := hB3.cell 0
    have c1 : w3.cell? ⟨w.heap.size, 1, none⟩ = some (.slice A n c) := hB3.cell 1
    go_region_held3 (fun wx => wx.cell? ⟨w.heap.size, 0, none⟩ = some (.bool neg) ∧ wx.cell? ⟨w.heap.size, 1, none⟩ = some (.slice A n c)) (first | exact ⟨c0, c1⟩ | exact ⟨e0, e1⟩ | exact ⟨i0, i1⟩ | go_keep)
      (first
        | (go_at_call 105; refine (fromDigits_any _ _ _ _ _ h3.drew (by omega)).mono ?_; rintro e w5 ⟨A5, m5, c5, us5, rfl, hD5, hN5, hv5, hm5, hb5, hf5⟩; have hB5 := hB3.drew.below hb5; have e0 : w5.cell? ⟨w.heap.size, 0, none⟩ = some (.bool neg) := hB5.cell 0; have e1 : w5.cell? ⟨w.heap.size, 1, none⟩ = some (.slice A n c) := hB5.cell 1)
        | (go_at_call 94; refine (signed_any _ _ _ _ _ _ _ _ (by omega)).mono ?_; rintro e w6 ⟨rfl, hb6⟩; have hB6 := hB5.below hb6; have i0 : w6.cell? ⟨w.heap.size, 0, none⟩ = some (.bool neg) := hB6.cell 0; have i1 : w6.cell? ⟨w.heap.size, 1, none⟩ = some (.slice A n c) := hB6.cell 1; have hR6 := (hR3.drew.below hb5).below hb6; have r0 := hR6.cell 0; have r1 := hR6.cell 1; have r2 := hR6.cell 2; have f0 := hR6.frozen 0; have f1 := hR6.frozen 1; have f2 := hR6.frozen 2))
    all_goals
      have hw5 := (hw3.drew).trans (hb5.mono hw3.size)
      have hw6 := hw5.trans (hb6.mono hw5.size)
      have hD6 := hD5.below hb6
      have hE6 := ((hD3.drew).below hb5).below hb6
      have hf6 := Lib.hid (show ∀ ad, A5 = some ad → w.heap.size + 1 < ad.block from fun ad he => Nat.lt_of_lt_of_le hR3.lt (hf5.out ad he))
      go_wp2
      exact ret_rat rfl rfl (((hR6.set_ 0 _).set_ 1 _).set_ 2 _) rfl ⟨_, rfl, ⟨_, _, by rw [nv_pos hD5 hN5 (by decide) hv5], NV.mk (((hD6.far hf6.out 0 _).far hf6.out 1 _).far hf6.out 2 _) hN5 hv5 (by omega), NV.mk (((hE6.far hfd.out 0 _).far hfd.out 1 _).far hfd.out 2 _) hN3 hv3 hm3⟩, bel_set3 hw6 (by omega) _ _ _⟩
end Go.Proofs.YtoljffghaklpdaaDoor.Fr
