/- The chapter's examples, which every law runs. -/
import Derived.Test.YtobobbhifajhmaaK2
import Derived.Test.YtobobbhifajhmaaV7
namespace Go.Proofs.Ytobobbhifajhmaa
open Go.RowKit

theorem load_gate {g : Nat} {W : World} {a0 a1 a2 a3 a4 a5 a6 : Value} (h : Blk W g 65 #[a0, a1, a2, a3, a4, a5, a6]) : (loadVar 65 ⟨g, 0, none⟩).run Try.prog W = .ok (.agg #[a0, a1, a2, a3, a4, a5, a6]) W := by
  have q0 : W.cell? ⟨g, 0, none⟩ = some a0 := h.cell 0
  have q1 : W.cell? ⟨g, 1, none⟩ = some a1 := h.cell 1
  have q2 : W.cell? ⟨g, 2, none⟩ = some a2 := h.cell 2
  have q3 : W.cell? ⟨g, 3, none⟩ = some a3 := h.cell 3
  have q4 : W.cell? ⟨g, 4, none⟩ = some a4 := h.cell 4
  have q5 : W.cell? ⟨g, 5, none⟩ = some a5 := h.cell 5
  have q6 : W.cell? ⟨g, 6, none⟩ = some a6 := h.cell 6
  simp [go_sem, q0, q1, q2, q3, q4, q5, q6]
theorem gate_any (w : World) : Calls Try.prog 61 #[] w fun e w' => e = .returned (gtV 1 50 10 2 2 0 100) ∧ Below w.heap.size w w' := by
  unfold gtV
  go_enter Try.func61, Try.ntmps61
  go_wp2
  exact bodyPost_ret (v := .agg #[.int .i64 1, .int .i64 50, .int .i64 10, .int .i64 2, .int .i64 2, .int .i64 0, .int .i64 100]) (by have := load_gate (Blk.new w 65 #[.int .i64 1, .int .i64 50, .int .i64 10, .int .i64 2, .int .i64 2, .int .i64 0, .int .i64 100]); simp [results, Try.results61, go_sem]) rfl ⟨rfl, (Below.refl _ _).alloc (Nat.le_refl _) _⟩

def Gk : Gt := ⟨1, 50, 10, 2, 2, 0, 100⟩
theorem Gk_ok : Gk.Ok := ⟨by decide, by decide, by decide, by decide, by decide, by decide, by decide, by decide, by decide, by decide, by decide, by decide, by decide, by decide⟩

theorem ex1 : rsC 2 [0, 4] 2 1 = 0 ∧ rsR 2 [0, 4] 2 1 = 4 ∧ rsL 2 [0, 4] 2 1 = [0, 2, 4, 4] := by decide +kernel
theorem ex2 : rsC 4 [1, 2, 3, 4] 1 2 = 0 ∧ rsR 4 [1, 2, 3, 4] 1 2 = 2 ∧ rsL 4 [1, 2, 3, 4] 1 2 = [2, 4] := by decide +kernel
theorem ex3 : emC false [10, 10, -7] 1 2 = 0 ∧ emL false [10, 10, -7] 1 2 = [10, 5, -12] := by decide +kernel
theorem ex4 : wgC [100, 100, -3] 2 = 0 ∧ wgL [100, 100, -3] 2 = [50, 100, -2] := by decide +kernel
theorem ex5 : segs Gk [0, 0, 9, 9, 9, 0, 0, 9] ++ lastS Gk [0, 0, 9, 9, 9, 0, 0, 9] = [(2, 5)] := by decide +kernel

theorem sl_lit (w : World) (t : TypeId) (xs : List Int) (n : Nat) (hn : xs.length = n) (ht : n ≤ 140737488355328) (cs : Array Value) (hc : (ivs .i64 xs).toArray = cs) : Sl .i64 (w.alloc (.cells cs t)) (some ⟨w.heap.size, 0, none⟩) n n xs := by
  subst hc
  exact (Mk.new w t .i64 xs).sl hn ht

theorem sg_lit (w : World) (a b : Int) : Sg (w.alloc (.cells #[.int .i64 a, .int .i64 b] 84)) (some ⟨w.heap.size, 0, none⟩) 1 1 [(a, b)] :=
  ⟨rfl, Nat.le_refl _, by decide, fun _ => ⟨_, rfl, fun j p h => by
    cases j with
    | zero =>
      simp at h
      subst h
      exact ⟨(Blk.new w 84 #[.int .i64 a, .int .i64 b]).cell 0, (Blk.new w 84 #[.int .i64 a, .int .i64 b]).cell 1⟩
    | succ j => simp at h⟩⟩

set_option maxHeartbeats 4000000 in
set_option maxRecDepth 100000 in
theorem known_any (w : World) : Calls Try.prog 22 #[] w fun e w' => e = .returned (.bool true) ∧ Below w.heap.size w w' := by
  go_enter Try.func22, Try.ntmps22
  go_wp2_with fail
  have hb1 := (Below.refl w.heap.size w).alloc (Nat.le_refl _) (.cells #[.int .i64 0, .int .i64 4] 3)
  refine (Resample_any 2 _ 2 2 [0, 4] 2 1 _ (sl_lit w 3 [0, 4] 2 rfl (by decide) _ rfl)).mono ?_
  rintro e w2 ⟨A1, m1, c1, he, hS1, hb2⟩
  rw [ex1.1, ex1.2.1] at he
  rw [ex1.2.2] at hS1
  subst he
  have hw2 := hb1.trans (hb2.mono hb1.size)
  clear hb1 hb2
  go_wp2_with fail
  have hR2 := Blk.new w2 24 #[.int .i64 4, .slice A1 m1 c1]
  have hS2 := hS1.alloc (.cells #[.int .i64 4, .slice A1 m1 c1] 24)
  have hw3 := hw2.alloc hw2.size (.cells #[.int .i64 4, .slice A1 m1 c1] 24)
  have hq3 : (w2.alloc (.cells #[.int .i64 4, .slice A1 m1 c1] 24)).heap.size = w2.heap.size + 1 := by simp
  generalize w2.alloc (.cells #[.int .i64 4, .slice A1 m1 c1] 24) = w3 at *
  rw [← hq3]
  have hq3' := Lib.hid hq3
  clear hq3
  have hb4 := (Below.refl w3.heap.size w3).alloc (Nat.le_refl _) (.cells #[.int .i64 1, .int .i64 2, .int .i64 3, .int .i64 4] 3)
  refine (Resample_any 4 _ 4 4 [1, 2, 3, 4] 1 2 _ (sl_lit w3 3 [1, 2, 3, 4] 4 rfl (by decide) _ rfl)).mono ?_
  rintro e w5 ⟨A5, m5, c5, he, hS5, hb5⟩
  rw [ex2.1, ex2.2.1] at he
  rw [ex2.2.2] at hS5
  subst he
  have hb35 := hb4.trans (hb5.mono hb4.size)
  have hR5 := hR2.below hb35
  have hSa := hS2.below hb35
  have hw5 := hw3.trans (hb35.mono hw3.size)
  clear hb4 hb5 hb35
  go_wp2_with fail
  have hR1 := hR5.alloc (.cells #[.int .i64 2, .slice A5 m5 c5] 24)
  have hR2 := Blk.new w5 24 #[.int .i64 2, .slice A5 m5 c5]
  have hSa := hSa.alloc (.cells #[.int .i64 2, .slice A5 m5 c5] 24)
  have hSb := hS5.alloc (.cells #[.int .i64 2, .slice A5 m5 c5] 24)
  have hw6 := hw5.alloc hw5.size (.cells #[.int .i64 2, .slice A5 m5 c5] 24)
  have hq6 : (w5.alloc (.cells #[.int .i64 2, .slice A5 m5 c5] 24)).heap.size = w5.heap.size + 1 := by simp
  generalize w5.alloc (.cells #[.int .i64 2, .slice A5 m5 c5] 24) = w6 at *
  rw [← hq6]
  have hq6' := Lib.hid hq6
  clear hq6
  have hb7 := (Below.refl w6.heap.size w6).alloc (Nat.le_refl _) (.cells #[.int .i64 10, .int .i64 10, .int .i64 (-7)] 3)
  refine (Emphasize_any _ 3 3 [10, 10, -7] 1 2 _ (sl_lit w6 3 [10, 10, -7] 3 rfl (by decide) _ rfl)).mono ?_
  rintro e w7 ⟨A7, m7, c7, he, hSc, hb8⟩
  rw [ex3.1] at he
  rw [ex3.2] at hSc
  subst he
  have hb := hb7.trans (hb8.mono hb7.size)
  have hR1 := hR1.below hb
  have hR2 := hR2.below hb
  have hSa := hSa.below hb
  have hSb := hSb.below hb
  have hw7 := hw6.trans (hb.mono hw6.size)
  clear hb7 hb8 hb
  go_wp2_with fail
  have hb8 := (Below.refl w7.heap.size w7).alloc (Nat.le_refl _) (.cells #[.int .i64 100, .int .i64 100, .int .i64 (-3)] 3)
  refine (Weigh_any _ 3 3 [100, 100, -3] 2 _ (sl_lit w7 3 [100, 100, -3] 3 rfl (by decide) _ rfl)).mono ?_
  rintro e w8 ⟨A8, m8, c8, he, hSd, hb9⟩
  rw [ex4.1] at he
  rw [ex4.2] at hSd
  subst he
  have hb := hb8.trans (hb9.mono hb8.size)
  have hR1 := hR1.below hb
  have hR2 := hR2.below hb
  have hSa := hSa.below hb
  have hSb := hSb.below hb
  have hSc := hSc.below hb
  have hw8 := hw7.trans (hb.mono hw7.size)
  clear hb8 hb9 hb
  go_wp2_with fail
  have hb9 := (Below.refl w8.heap.size w8).alloc (Nat.le_refl _) (.cells #[.int .i64 0, .int .i64 0, .int .i64 9, .int .i64 9, .int .i64 9, .int .i64 0, .int .i64 0, .int .i64 9] 3)
  have hSl := sl_lit w8 3 [0, 0, 9, 9, 9, 0, 0, 9] 8 rfl (by decide) _ rfl
  refine (gate_any _).mono ?_
  rintro e w9 ⟨he, hb10⟩
  subst he
  go_wp2_with fail
  refine (Segments_ok Gk Gk_ok _ 8 8 [0, 0, 9, 9, 9, 0, 0, 9] _ (hSl.below hb10) (by decide) (by decide)).mono ?_
  rintro e w10 ⟨A10, m10, c10, he, hSe, hb11⟩
  rw [ex5] at hSe
  subst he
  have hb := (hb9.trans (hb10.mono hb9.size)).trans (hb11.mono (Nat.le_trans hb9.size hb10.size))
  have hR1 := hR1.below hb
  have hR2 := hR2.below hb
  have hSa := hSa.below hb
  have hSb := hSb.below hb
  have hSc := hSc.below hb
  have hSd := hSd.below hb
  have hw10 := hw8.trans (hb.mono hw8.size)
  clear hb9 hb10 hb11 hb hSl
  have k0 := hR1.cell 0
  have k1 := hR1.cell 1
  have k2 := hR2.cell 0
  have k3 := hR2.cell 1
  go_wp2_with fail
  have hbx := (Below.refl w10.heap.size w10).alloc (Nat.le_refl _) (.cells #[.int .i64 0, .int .i64 2, .int .i64 4, .int .i64 4] 3)
  refine (Same_any _ _ _ _ _ _ _ _ _ (hSa.alloc _) (sl_lit w10 3 [0, 2, 4, 4] 4 rfl (by decide) _ rfl)).mono ?_
  rintro e w11 ⟨i11, he, hwx⟩
  rw [sameB_yes rfl] at he
  subst he
  have hbx : Below w10.heap.size w10 w11 := by rw [hwx]; exact bel_drewN hbx i11
  clear hwx
  have hR1 := hR1.below hbx
  have hR2 := hR2.below hbx
  have hSa := hSa.below hbx
  have hSb := hSb.below hbx
  have hSc := hSc.below hbx
  have hSd := hSd.below hbx
  have hSe := hSe.below hbx
  have hw11 := hw10.trans (hbx.mono hw10.size)
  clear hbx k0 k1 k2 k3
  have k0 := hR1.cell 0
  have k1 := hR1.cell 1
  have k2 := hR2.cell 0
  have k3 := hR2.cell 1
  go_wp2_with fail
  have hbx := (Below.refl w11.heap.size w11).alloc (Nat.le_refl _) (.cells #[.int .i64 2, .int .i64 4] 3)
  refine (Same_any _ _ _ _ _ _ _ _ _ (hSb.alloc _) (sl_lit w11 3 [2, 4] 2 rfl (by decide) _ rfl)).mono ?_
  rintro e w12 ⟨i12, he, hwx⟩
  rw [sameB_yes rfl] at he
  subst he
  have hbx : Below w11.heap.size w11 w12 := by rw [hwx]; exact bel_drewN hbx i12
  clear hwx
  have hR1 := hR1.below hbx
  have hR2 := hR2.below hbx
  have hSa := hSa.below hbx
  have hSb := hSb.below hbx
  have hSc := hSc.below hbx
  have hSd := hSd.below hbx
  have hSe := hSe.below hbx
  have hw12 := hw11.trans (hbx.mono hw11.size)
  clear hbx k0 k1 k2 k3
  have k0 := hR1.cell 0
  have k1 := hR1.cell 1
  have k2 := hR2.cell 0
  have k3 := hR2.cell 1
  go_wp2_with fail
  have hbx := (Below.refl w12.heap.size w12).alloc (Nat.le_refl _) (.cells #[.int .i64 10, .int .i64 5, .int .i64 (-12)] 3)
  refine (Same_any _ _ _ _ _ _ _ _ _ (hSc.alloc _) (sl_lit w12 3 [10, 5, -12] 3 rfl (by decide) _ rfl)).mono ?_
  rintro e w13 ⟨i13, he, hwx⟩
  rw [sameB_yes rfl] at he
  subst he
  have hbx : Below w12.heap.size w12 w13 := by rw [hwx]; exact bel_drewN hbx i13
  clear hwx
  have hR1 := hR1.below hbx
  have hR2 := hR2.below hbx
  have hSa := hSa.below hbx
  have hSb := hSb.below hbx
  have hSc := hSc.below hbx
  have hSd := hSd.below hbx
  have hSe := hSe.below hbx
  have hw13 := hw12.trans (hbx.mono hw12.size)
  clear hbx k0 k1 k2 k3
  have k0 := hR1.cell 0
  have k1 := hR1.cell 1
  have k2 := hR2.cell 0
  have k3 := hR2.cell 1
  go_wp2_with fail
  have hbx := (Below.refl w13.heap.size w13).alloc (Nat.le_refl _) (.cells #[.int .i64 50, .int .i64 100, .int .i64 (-2)] 3)
  refine (Same_any _ _ _ _ _ _ _ _ _ (hSd.alloc _) (sl_lit w13 3 [50, 100, -2] 3 rfl (by decide) _ rfl)).mono ?_
  rintro e w14 ⟨i14, he, hwx⟩
  rw [sameB_yes rfl] at he
  subst he
  have hbx : Below w13.heap.size w13 w14 := by rw [hwx]; exact bel_drewN hbx i14
  clear hwx
  have hR1 := hR1.below hbx
  have hR2 := hR2.below hbx
  have hSa := hSa.below hbx
  have hSb := hSb.below hbx
  have hSc := hSc.below hbx
  have hSd := hSd.below hbx
  have hSe := hSe.below hbx
  have hw14 := hw13.trans (hbx.mono hw13.size)
  clear hbx k0 k1 k2 k3
  have k0 := hR1.cell 0
  have k1 := hR1.cell 1
  have k2 := hR2.cell 0
  have k3 := hR2.cell 1
  go_wp2_with fail
  have hbx := (Below.refl w14.heap.size w14).alloc (Nat.le_refl _) (.cells #[.int .i64 2, .int .i64 5] 84)
  refine (SameSegments_any _ _ _ _ _ _ _ _ _ (hSe.alloc _) (sg_lit w14 2 5)).mono ?_
  rintro e w15 ⟨i15, he, hwx⟩
  rw [sameP_yes rfl] at he
  subst he
  have hbx : Below w14.heap.size w14 w15 := by rw [hwx]; exact bel_drewN hbx i15
  clear hwx
  go_wp2
  go_ret
  exact ⟨rfl, hw14.trans (hbx.mono hw14.size)⟩
end Go.Proofs.Ytobobbhifajhmaa
