/- The reference's integers, sums and products of lists. -/
import Derived.Test.YtbgihlfblmilmaaGreatDoorHC
import Derived.Test.YtbgihlfblmilmaaGreatDoorGU
namespace Go.Proofs.YtbgihlfblmilmaaGreatDoor.Fr
open Go.RowKit Num

set_option maxHeartbeats 1600000 in
theorem refOfQ (n : Int) (w : World) (hr : -9223372036854775808 ≤ n ∧ n ≤ 9223372036854775807) :
    Calls Tryz.prog 31 #[.int .i64 n] w (RetFQ w (n : Rat) 3) := by
  have B2 := Blk.new w 24 #[.bool false, .slice none 0 0, .slice none 0 0]
  have hw0 := (Below.refl w.heap.size w).alloc (Nat.le_refl _) (.cells #[.bool false, .slice none 0 0, .slice none 0 0] 24)
  have hfi := Lib.hid (fq_int n)
  go_enter Tryz.func31, Tryz.ntmps31
  go_upto_region 1 with fail
  generalize w.alloc (.cells #[.bool false, .slice none 0 0, .slice none 0 0] 24) = w1 at *
  go_wp2_with fail
  refine (size_any n _ hr).mono ?_
  rintro e w2 ⟨rfl, rfl⟩
  go_wp2_with fail
  refine (natural_any n.natAbs _ (by omega)).mono ?_
  rintro e w3 ⟨A3, m3, c3, y3, rfl, D3, N3, V3, M3, hb3⟩
  have hw3 := hw0.trans (hb3.mono hw0.size)
  have C3 := B2.below hb3
  go_wp2_with fail
  refine (make1Q _ _ _ _ _ _ _ _ _ _ D3 (Dg.nil .u32 w3) (by omega) (by omega)).mono ?_
  rintro e w9 ⟨v9, rfl, hq9, hb9⟩
  have hq9' : FQ w9 v9 (n : Rat) 3 := by
    have h := hq9
    rw [V3.out, show dn (vl (bs .u32) []) = 1 from rfl, hfi.out] at h
    exact h.le (by omega)
  clear hq9
  have C9 := C3.below hb9
  have hw9 := hw3.trans (hb9.mono hw3.size)
  obtain ⟨s9, A9, n9, c9, A10, n10, c10, rfl⟩ := hq9'.form
  have r0 := C9.cell 0
  have r1 := C9.cell 1
  have r2 := C9.cell 2
  have f0 := C9.frozen 0
  have f1 := C9.frozen 1
  have f2 := C9.frozen 2
  go_wp2
  exact ret_frac rfl rfl (((C9.set_ 0 _).set_ 1 _).set_ 2 _) rfl ⟨_, rfl, hq9'.set3 C9 _ _ _, bel_set3 hw9 (by omega) _ _ _⟩

/-- a variable that holds a number -/
def Bx (w : World) (g : Nat) (q : Rat) (L : Nat) : Prop := ∃ s A m c A' m' c', Blk w g 24 #[.bool s, .slice A m c, .slice A' m' c'] ∧ FQ w (.agg #[.bool s, .slice A m c, .slice A' m' c']) q L
theorem Bx.below {w w' : World} {g L : Nat} {q : Rat} (h : Bx w g q L) (hb : Below w.heap.size w w') : Bx w' g q L := by
  obtain ⟨s, A, m, c, A', m', c', h1, h2⟩ := h
  exact ⟨s, A, m, c, A', m', c', h1.below hb, h2.below hb⟩
theorem Bx.mk {w : World} {g L : Nat} {q : Rat} {a : Bool} {p1 q1 : Option Addr} {p2 p3 q2 q3 : Nat} (hB : Blk w g 24 #[.bool a, .slice p1 p2 p3, .slice q1 q2 q3]) {s : Bool} {A A' : Option Addr} {m c m' c' : Nat} (h : FQ w (.agg #[.bool s, .slice A m c, .slice A' m' c']) q L) :
    Bx (((w.setCell ⟨g, 0, none⟩ (.bool s)).setCell ⟨g, 1, none⟩ (.slice A m c)).setCell ⟨g, 2, none⟩ (.slice A' m' c')) g q L :=
  ⟨s, A, m, c, A', m', c', ((hB.set_ 0 _).set_ 1 _).set_ 2 _, h.set3 hB _ _ _⟩
theorem fold_take {f : Rat → Rat → Rat} {qs : List Rat} {k : Nat} {a q : Rat} (hq : qs[k]? = some q) : (qs.take (k + 1)).foldl f a = f ((qs.take k).foldl f a) q := by
  rw [List.take_add_one, hq, List.foldl_append]; rfl

set_option maxHeartbeats 6400000 in
set_option maxRecDepth 100000 in
theorem refSumQ (A : Option Addr) (n c L : Nat) (qs : List Rat) (w : World) (h : Ls AF w A n c L qs) (hn : n ≤ 1000) (hL : 3 + n * (L + 3) + L ≤ 20000) :
    Calls Tryz.prog 53 #[.slice A n c] w (RetFQ w (qs.foldl (· + ·) 0) (3 + n * (L + 3))) := by
  have hc1 := h.cap
  have hc2 := h.top
  have hlen := Lib.hid h.len
  have hmono := Lib.hid (fun (k : Nat) (hk : k ≤ n) => Nat.mul_le_mul_right (L + 3) hk)
  have B2 := Blk.new w 24 #[.bool false, .slice none 0 0, .slice none 0 0]
  have hw0 := (Below.refl w.heap.size w).alloc (Nat.le_refl _) (.cells #[.bool false, .slice none 0 0, .slice none 0 0] 24)
  go_enter Tryz.func53, Tryz.ntmps53
  go_upto_region 1 with fail
  have hgl := B2.lt
  generalize w.alloc (.cells #[.bool false, .slice none 0 0, .slice none 0 0] 24) = w1 at *
  have h := h.below bels_af hw0
  have hbx : Bx (w1.alloc (.cells #[.bool false, .slice none 0 0, .slice none 0 0] 24)) w1.heap.size (([] : List Rat).foldl (· + ·) 0) (3 + 0 * (L + 3)) := ⟨_, _, _, _, _, _, _, Blk.new w1 24 #[.bool false, .slice none 0 0, .slice none 0 0], (FQ.zero _).le (by omega)⟩
  have hbw := (Below.refl w1.heap.size w1).alloc (Nat.le_refl _) (.cells #[.bool false, .slice none 0 0, .slice none 0 0] 24)
  have hlw : Below w1.heap.size w1 w1 := Below.refl _ _
  go_wp2
  generalize w1.alloc (.cells #[.bool false, .slice none 0 0, .slice none 0 0] 24) = w2 at *
  go_loopw [4] (fun iv wr => ∃ k : Nat, iv = .int .i64 k ∧ k ≤ n ∧ Bx wr w1.heap.size ((qs.take k).foldl (· + ·) 0) (3 + k * (L + 3)) ∧ Below w1.heap.size w1 wr) (fun iv _ => n - (intOf iv).toNat)
  case atStart => exact ⟨0, rfl, Nat.zero_le _, hbx, hbw⟩
  case round =>
    clear hbx hbw
    obtain ⟨k, rfl, hkn, hX, hb⟩ := hrel
    by_cases hlt : k < n
    · obtain ⟨ad, s, A1, m1, c1, A2, m2, c2, q, rfl, hq, k0, k1, k2, hv⟩ := ((h.below bels_af hlw).below bels_af hb).af hlt
      obtain ⟨s3, A3, m3, c3, A4, m4, c4, X1, X2⟩ := hX
      have hstep := Lib.hid (fold_take (f := (· + ·)) (a := 0) hq)
      have hm1 := hmono.out k (Nat.le_of_lt hlt)
      have hkk : 3 + (k + 1) * (L + 3) = 3 + k * (L + 3) + L + 3 := by rw [Nat.add_mul]; omega
      have y0 := X1.cell 0
      have y1 := X1.cell 1
      have y2 := X1.cell 2
      have hcall := Lib.hid (refAddQ _ _ ((qs.take k).foldl (· + ·) 0) q (3 + k * (L + 3)) L wr.drew (X2.af.below (Below.refl _ _).drew) (hv.below (Below.refl _ _).drew) (by omega))
      clear hq hv X2
      go_upto_region 5 with fail
      go_region_with (go_at_call 37; refine hcall.out.mono ?_; rintro e w6 ⟨_, rfl, hq6, hb6⟩; obtain ⟨s6, A6, m6, c6, A7, m7, c7, rfl⟩ := hq6.form; have C6 := X1.drew.below hb6; have r0 := C6.cell 0; have r1 := C6.cell 1; have r2 := C6.cell 2; have f0 := C6.frozen 0; have f1 := C6.frozen 1; have f2 := C6.frozen 2)
      all_goals (have hb7 := ((((hb.drew).trans (hb6.mono hb.drew.size)).setCell (p := ⟨w1.heap.size, 0, none⟩) (Nat.le_refl _) (.bool s6)).setCell (p := ⟨w1.heap.size, 1, none⟩) (Nat.le_refl _) (.slice A6 m6 c6)).setCell (p := ⟨w1.heap.size, 2, none⟩) (Nat.le_refl _) (.slice A7 m7 c7))
      all_goals (have hX7 := Bx.mk C6 hq6)
      all_goals go_wp2
      all_goals go_roundw
      all_goals first
        | (simp [intOf]; omega)
        | exact ⟨k + 1, by go_num, hlt, by rw [hstep.out, hkk]; exact hX7, hb7⟩
    · obtain rfl : k = n := by omega
      rw [List.take_of_length_le (by rw [hlen.out]; exact Nat.le_refl _)] at hX
      obtain ⟨s3, A3, m3, c3, A4, m4, c4, X1, X2⟩ := hX
      have y0 := X1.cell 0
      have y1 := X1.cell 1
      have y2 := X1.cell 2
      have C9 := (B2.below hlw).below hb
      have hw9 := (hw0.trans (hlw.mono hw0.size)).trans (hb.mono (hw0.trans (hlw.mono hw0.size)).size)
      have r0 := C9.cell 0
      have r1 := C9.cell 1
      have r2 := C9.cell 2
      have f0 := C9.frozen 0
      have f1 := C9.frozen 1
      have f2 := C9.frozen 2
      go_wp2
      exact ret_frac rfl rfl (((C9.set_ 0 _).set_ 1 _).set_ 2 _) rfl ⟨_, rfl, X2.set3 C9 _ _ _, bel_set3 hw9 (by omega) _ _ _⟩

set_option maxHeartbeats 6400000 in
set_option maxRecDepth 100000 in
theorem refProductQ (A : Option Addr) (n c L : Nat) (qs : List Rat) (w : World) (h : Ls AF w A n c L qs) (hn : n ≤ 1000) (hL : 3 + n * (L + 3) + L ≤ 20000) :
    Calls Tryz.prog 55 #[.slice A n c] w (RetFQ w (qs.foldl (· * ·) 1) (3 + n * (L + 3))) := by
  have hc1 := h.cap
  have hc2 := h.top
  have hlen := Lib.hid h.len
  have hmono := Lib.hid (fun (k : Nat) (hk : k ≤ n) => Nat.mul_le_mul_right (L + 3) hk)
  have B2 := Blk.new w 24 #[.bool false, .slice none 0 0, .slice none 0 0]
  have hw0 := (Below.refl w.heap.size w).alloc (Nat.le_refl _) (.cells #[.bool false, .slice none 0 0, .slice none 0 0] 24)
  go_enter Tryz.func55, Tryz.ntmps55
  go_upto_region 1 with fail
  have hgl := B2.lt
  generalize w.alloc (.cells #[.bool false, .slice none 0 0, .slice none 0 0] 24) = w1 at *
  have h := h.below bels_af hw0
  go_wp2_with fail
  refine (refOfQ 1 w1 (by decide)).mono ?_
  rintro e w2 ⟨_, rfl, hq2, hlw⟩
  obtain ⟨s2, A2, m2, c2, A3, m3, c3, rfl⟩ := hq2.form
  have hlt2 := hlw.size
  have hbx : Bx (w2.alloc (.cells #[.bool s2, .slice A2 m2 c2, .slice A3 m3 c3] 24)) w2.heap.size (([] : List Rat).foldl (· * ·) 1) (3 + 0 * (L + 3)) := ⟨_, _, _, _, _, _, _, Blk.new w2 24 #[.bool s2, .slice A2 m2 c2, .slice A3 m3 c3], (hq2.below ((Below.refl w2.heap.size w2).alloc (Nat.le_refl _) (.cells #[.bool s2, .slice A2 m2 c2, .slice A3 m3 c3] 24))).le (by omega)⟩
  have hbw := (Below.refl w2.heap.size w2).alloc (Nat.le_refl _) (.cells #[.bool s2, .slice A2 m2 c2, .slice A3 m3 c3] 24)
  clear hq2
  go_wp2
  generalize w2.alloc (.cells #[.bool s2, .slice A2 m2 c2, .slice A3 m3 c3] 24) = w3 at *
  go_loopw [4] (fun iv wr => ∃ k : Nat, iv = .int .i64 k ∧ k ≤ n ∧ Bx wr w2.heap.size ((qs.take k).foldl (· * ·) 1) (3 + k * (L + 3)) ∧ Below w2.heap.size w2 wr) (fun iv _ => n - (intOf iv).toNat)
  case atStart => exact ⟨0, rfl, Nat.zero_le _, hbx, hbw⟩
  case round =>
    clear hbx hbw
    obtain ⟨k, rfl, hkn, hX, hb⟩ := hrel
    by_cases hlt : k < n
    · obtain ⟨ad, s, A1, m1, c1, A2, m2, c2, q, rfl, hq, k0, k1, k2, hv⟩ := ((h.below bels_af hlw).below bels_af hb).af hlt
      obtain ⟨s3, A3, m3, c3, A4, m4, c4, X1, X2⟩ := hX
      have hstep := Lib.hid (fold_take (f := (· * ·)) (a := 1) hq)
      have hm1 := hmono.out k (Nat.le_of_lt hlt)
      have hkk : 3 + (k + 1) * (L + 3) = 3 + k * (L + 3) + L + 3 := by rw [Nat.add_mul]; omega
      have y0 := X1.cell 0
      have y1 := X1.cell 1
      have y2 := X1.cell 2
      have hcall := Lib.hid (refMulQ _ _ ((qs.take k).foldl (· * ·) 1) q (3 + k * (L + 3)) L wr.drew (X2.af.below (Below.refl _ _).drew) (hv.below (Below.refl _ _).drew) (by omega))
      clear hq hv X2
      go_upto_region 5 with fail
      go_region_with (go_at_call 44; refine hcall.out.mono ?_; rintro e w6 ⟨_, rfl, hq6, hb6⟩; obtain ⟨s6, A6, m6, c6, A7, m7, c7, rfl⟩ := hq6.form; have C6 := X1.drew.below hb6; have r0 := C6.cell 0; have r1 := C6.cell 1; have r2 := C6.cell 2; have f0 := C6.frozen 0; have f1 := C6.frozen 1; have f2 := C6.frozen 2)
      all_goals (have hb7 := ((((hb.drew).trans (hb6.mono hb.drew.size)).setCell (p := ⟨w2.heap.size, 0, none⟩) (Nat.le_refl _) (.bool s6)).setCell (p := ⟨w2.heap.size, 1, none⟩) (Nat.le_refl _) (.slice A6 m6 c6)).setCell (p := ⟨w2.heap.size, 2, none⟩) (Nat.le_refl _) (.slice A7 m7 c7))
      all_goals (have hX7 := Bx.mk C6 hq6)
      all_goals go_wp2
      all_goals go_roundw
      all_goals first
        | (simp [intOf]; omega)
        | exact ⟨k + 1, by go_num, hlt, by rw [hstep.out, hkk]; exact hX7, hb7⟩
    · obtain rfl : k = n := by omega
      rw [List.take_of_length_le (by rw [hlen.out]; exact Nat.le_refl _)] at hX
      obtain ⟨s3, A3, m3, c3, A4, m4, c4, X1, X2⟩ := hX
      have y0 := X1.cell 0
      have y1 := X1.cell 1
      have y2 := X1.cell 2
      have C9 := (B2.below hlw).below hb
      have hw9 := (hw0.trans (hlw.mono hw0.size)).trans (hb.mono (hw0.trans (hlw.mono hw0.size)).size)
      have r0 := C9.cell 0
      have r1 := C9.cell 1
      have r2 := C9.cell 2
      have f0 := C9.frozen 0
      have f1 := C9.frozen 1
      have f2 := C9.frozen 2
      go_wp2
      exact ret_frac rfl rfl (((C9.set_ 0 _).set_ 1 _).set_ 2 _) rfl ⟨_, rfl, X2.set3 C9 _ _ _, bel_set3 hw9 (by omega) _ _ _⟩

theorem Bx.le {w : World} {g L L' : Nat} {q : Rat} (h : Bx w g q L) (hl : L ≤ L') : Bx w g q L' := by
  obtain ⟨s, A, m, c, A', m', c', h1, h2⟩ := h
  exact ⟨s, A, m, c, A', m', c', h1, h2.le hl⟩
/-- a variable that holds some form of a number -/
def Ba (w : World) (g : Nat) (q : Rat) (L : Nat) : Prop := ∃ s A m c A' m' c', Blk w g 24 #[.bool s, .slice A m c, .slice A' m' c'] ∧ Hid (AF w (.agg #[.bool s, .slice A m c, .slice A' m' c']) q L)

set_option maxHeartbeats 6400000 in
set_option maxRecDepth 100000 in
theorem refPowQ (v1 : Value) (q1 : Rat) (n L : Nat) (w : World) (h1 : AF w v1 q1 L) (hn : n ≤ 10000) (hL : 3 + n * (L + 5) + L ≤ 40000) :
    Calls Tryz.prog 49 #[v1, .int .i64 (n : Int)] w (RetFQ w (q1 ^ n) (3 + n * (L + 5))) := by
  obtain ⟨s1, A1, n1, c1, A2, n2, c2, rfl⟩ := h1.form
  have hmono := Lib.hid (fun (k : Nat) (hk : k ≤ n) => Nat.mul_le_mul_right (L + 5) hk)
  obtain ⟨B1, B2, hw0⟩ := two_blk w 24 #[.bool s1, .slice A1 n1 c1, .slice A2 n2 c2] #[.bool false, .slice none 0 0, .slice none 0 0]
  have h1 := h1.below hw0
  have hgl := B2.lt
  go_enter Tryz.func49, Tryz.ntmps49
  go_upto_region 1 with fail
  generalize (w.alloc (.cells #[.bool s1, .slice A1 n1 c1, .slice A2 n2 c2] 24)).alloc (.cells #[.bool false, .slice none 0 0, .slice none 0 0] 24) = w1 at *
  have hneg : decide ((n : Int) < 0) = false := decide_eq_false (by omega)
  go_wp2_with fail
  refine (refOfQ 1 w1 (by decide)).mono ?_
  rintro e w3 ⟨_, rfl, hq2, hlw⟩
  obtain ⟨s2, A7, m7, c7, A8, m8, c8, rfl⟩ := hq2.form
  have hlt2 := hlw.size
  have hbw := (Below.refl w3.heap.size w3).alloc (Nat.le_refl _) (.cells #[.bool s2, .slice A7 m7 c7, .slice A8 m8 c8] 24)
  have hbx : Bx (w3.alloc (.cells #[.bool s2, .slice A7 m7 c7, .slice A8 m8 c8] 24)) w3.heap.size (q1 ^ 0) (3 + 0 * (L + 5)) := ⟨_, _, _, _, _, _, _, Blk.new w3 24 #[.bool s2, .slice A7 m7 c7, .slice A8 m8 c8], by rw [Rat.pow_zero]; exact (hq2.below hbw).le (by omega)⟩
  have hw3 := hw0.trans (hlw.mono hw0.size)
  have B1 := B1.below hlw
  have B2 := B2.below hlw
  have h1 := (h1.below hlw).le (show L ≤ L + 2 by omega)
  clear hq2
  go_wp2
  generalize w3.alloc (.cells #[.bool s2, .slice A7 m7 c7, .slice A8 m8 c8] 24) = w4 at *

  go_loopw [6] (fun iv wr => ∃ k : Nat, iv = .int .i64 k ∧ k ≤ n ∧ Bx wr w3.heap.size (q1 ^ k) (3 + k * (L + 5)) ∧ Below w3.heap.size w3 wr) (fun iv _ => n - (intOf iv).toNat)
  case atStart => exact ⟨0, rfl, Nat.zero_le _, hbx, hbw⟩
  case round =>
    clear hbx hbw
    obtain ⟨k, rfl, hkn, hX, hb⟩ := hrel
    by_cases hlt : k < n
    · obtain ⟨s3, A3, m3, c3, A4, m4, c4, X1, X2⟩ := hX
      have Z1 := B1.below hb
      have Z2 := h1.below hb
      have hstep := Lib.hid (Rat.pow_succ q1 k)
      have hm1 := hmono.out k (Nat.le_of_lt hlt)
      have hkk : 3 + (k + 1) * (L + 5) = 3 + k * (L + 5) + L + 5 := by rw [Nat.add_mul]; omega
      have y0 := X1.cell 0
      have y1 := X1.cell 1
      have y2 := X1.cell 2
      have y3 := Z1.cell 0
      have y4 := Z1.cell 1
      have y5 := Z1.cell 2
      go_wp2_with fail
      refine (refMulQ _ _ (q1 ^ k) q1 (3 + k * (L + 5)) (L + 2) _ X2.af Z2 (by omega)).mono ?_
      rintro e w6 ⟨_, rfl, hq6, hb6⟩
      obtain ⟨s6, A7, m7, c7, A8, m8, c8, rfl⟩ := hq6.form
      have C6 := X1.below hb6
      have hX7 := Bx.mk C6 hq6
      have hb7 := (((hb.trans (hb6.mono hb.size)).setCell (p := ⟨w3.heap.size, 0, none⟩) (Nat.le_refl _) (.bool s6)).setCell (p := ⟨w3.heap.size, 1, none⟩) (Nat.le_refl _) (.slice A7 m7 c7)).setCell (p := ⟨w3.heap.size, 2, none⟩) (Nat.le_refl _) (.slice A8 m8 c8)
      have r0 := C6.cell 0
      have r1 := C6.cell 1
      have r2 := C6.cell 2
      have f0 := C6.frozen 0
      have f1 := C6.frozen 1
      have f2 := C6.frozen 2
      clear y0 y1 y2 y3 y4 y5 hq6 C6 X2 Z2
      go_wp2
      go_roundw
      case rel => exact ⟨k + 1, by go_num, hlt, by rw [hstep.out, hkk]; exact hX7.le (by omega), hb7⟩
      case measure => simp [intOf]; omega
    · obtain rfl : k = n := by omega
      obtain ⟨s3, A3, m3, c3, A4, m4, c4, X1, X2⟩ := hX
      have y0 := X1.cell 0
      have y1 := X1.cell 1
      have y2 := X1.cell 2
      have C9 := B2.below hb
      have hw9 := hw3.trans (hb.mono hw3.size)
      have r0 := C9.cell 0
      have r1 := C9.cell 1
      have r2 := C9.cell 2
      have f0 := C9.frozen 0
      have f1 := C9.frozen 1
      have f2 := C9.frozen 2
      go_wp2
      exact ret_frac rfl rfl (((C9.set_ 0 _).set_ 1 _).set_ 2 _) rfl ⟨_, rfl, X2.set3 C9 _ _ _, bel_set3 hw9 (by omega) _ _ _⟩
end Go.Proofs.YtbgihlfblmilmaaGreatDoor.Fr
