/- A part of a recording. -/
import Derived.Test.YtnkkbohfhinemaaC2
import Derived.Test.YtnkkbohfhinemaaV7
namespace Go.Proofs.Ytnkkbohfhinemaa
open Go.RowKit

set_option maxHeartbeats 1600000 in
set_option maxRecDepth 100000 in
theorem Clip_bad (rate : Int) (A : Option Addr) (n c : Nat) (xs : List Int) (a b : Int) (w : World) (h : Sl .i64 w A n c xs) (k : Int) (hk : chkR rate xs = k) (h0 : (k == 0) = false) :
    Calls Try.prog 59 #[.agg #[.int .i64 rate, .slice A n c], .agg #[.int .i64 a, .int .i64 b]] w (RetRec w 0 [] k) := by
  have hB0 := ((Blk.new w 24 #[.int .i64 rate, .slice A n c]).alloc (.cells #[.int .i64 a, .int .i64 b] 84)).alloc (.cells #[.int .i64 0, .slice none 0 0] 24)
  have hG0 := (Blk.new (w.alloc (.cells #[.int .i64 rate, .slice A n c] 24)) 84 #[.int .i64 a, .int .i64 b]).alloc (.cells #[.int .i64 0, .slice none 0 0] 24)
  have hR0 := Blk.new ((w.alloc (.cells #[.int .i64 rate, .slice A n c] 24)).alloc (.cells #[.int .i64 a, .int .i64 b] 84)) 24 #[.int .i64 0, .slice none 0 0]
  rw [show (w.alloc (.cells #[.int .i64 rate, .slice A n c] 24)).heap.size = w.heap.size + 1 from by simp] at hG0
  rw [show ((w.alloc (.cells #[.int .i64 rate, .slice A n c] 24)).alloc (.cells #[.int .i64 a, .int .i64 b] 84)).heap.size = w.heap.size + 1 + 1 from by simp] at hR0
  have hw0 := (((Below.refl w.heap.size w).alloc (Nat.le_refl _) (.cells #[.int .i64 rate, .slice A n c] 24)).alloc (by simp) (.cells #[.int .i64 a, .int .i64 b] 84)).alloc (by simp; omega) (.cells #[.int .i64 0, .slice none 0 0] 24)
  have h1 := h.below hw0
  have hl := Lib.hid h.len
  have hcap := h.cap
  have htop := h.top
  have hk := Lib.hid hk
  go_enter Try.func59, Try.ntmps59
  go_wp2_with fail
  generalize ((w.alloc (.cells #[.int .i64 rate, .slice A n c] 24)).alloc (.cells #[.int .i64 a, .int .i64 b] 84)).alloc (.cells #[.int .i64 0, .slice none 0 0] 24) = w1 at *
  refine (checkRecording_any _ _ _ _ _ _ h1).mono ?_
  rintro e w2 ⟨he, hb2⟩
  rw [hk.out] at he
  subst he
  have hR2 := hR0.below hb2
  have hB2 := hB0.below hb2
  have hG2 := hG0.below hb2
  have h2 := h1.below hb2
  have b0 := hB2.cell 0
  have b1 := hB2.cell 1
  have g0 := hG2.cell 0
  have g1 := hG2.cell 1
  have f0 := hR2.frozen 0
  have f1 := hR2.frozen 1
  have c0 := hR2.cell 0
  have c1 := hR2.cell 1
  have hsz := hb2.size
  have hsz0 := hw0.size
  go_wp2
  exact ret_rec2 rfl rfl ((hR2.set_ 0 _).set_ 1 _) rfl ⟨none, 0, 0, rfl, Sl.nil _ _, ((hw0.trans (hb2.mono hsz0)).setCell (p := ⟨w.heap.size + 1 + 1, 0, none⟩) (by simp; omega) _).setCell (p := ⟨w.heap.size + 1 + 1, 1, none⟩) (by simp; omega) _⟩

set_option maxHeartbeats 1600000 in
set_option maxRecDepth 100000 in
theorem Clip_far (rate : Int) (A : Option Addr) (n c : Nat) (xs : List Int) (a b : Int) (w : World) (h : Sl .i64 w A n c xs) (hk : chkR rate xs = 0) (hb : okB 0 n b = false) :
    Calls Try.prog 59 #[.agg #[.int .i64 rate, .slice A n c], .agg #[.int .i64 a, .int .i64 b]] w (RetRec w 0 [] 2) := by
  have hB0 := ((Blk.new w 24 #[.int .i64 rate, .slice A n c]).alloc (.cells #[.int .i64 a, .int .i64 b] 84)).alloc (.cells #[.int .i64 0, .slice none 0 0] 24)
  have hG0 := (Blk.new (w.alloc (.cells #[.int .i64 rate, .slice A n c] 24)) 84 #[.int .i64 a, .int .i64 b]).alloc (.cells #[.int .i64 0, .slice none 0 0] 24)
  have hR0 := Blk.new ((w.alloc (.cells #[.int .i64 rate, .slice A n c] 24)).alloc (.cells #[.int .i64 a, .int .i64 b] 84)) 24 #[.int .i64 0, .slice none 0 0]
  rw [show (w.alloc (.cells #[.int .i64 rate, .slice A n c] 24)).heap.size = w.heap.size + 1 from by simp] at hG0
  rw [show ((w.alloc (.cells #[.int .i64 rate, .slice A n c] 24)).alloc (.cells #[.int .i64 a, .int .i64 b] 84)).heap.size = w.heap.size + 1 + 1 from by simp] at hR0
  have hw0 := (((Below.refl w.heap.size w).alloc (Nat.le_refl _) (.cells #[.int .i64 rate, .slice A n c] 24)).alloc (by simp) (.cells #[.int .i64 a, .int .i64 b] 84)).alloc (by simp; omega) (.cells #[.int .i64 0, .slice none 0 0] 24)
  have h1 := h.below hw0
  have hl := Lib.hid h.len
  have hcap := h.cap
  have htop := h.top
  have hk := Lib.hid hk
  go_enter Try.func59, Try.ntmps59
  go_wp2_with fail
  generalize ((w.alloc (.cells #[.int .i64 rate, .slice A n c] 24)).alloc (.cells #[.int .i64 a, .int .i64 b] 84)).alloc (.cells #[.int .i64 0, .slice none 0 0] 24) = w1 at *
  refine (checkRecording_any _ _ _ _ _ _ h1).mono ?_
  rintro e w2 ⟨he, hb2⟩
  rw [hk.out] at he
  subst he
  have hR2 := hR0.below hb2
  have hB2 := hB0.below hb2
  have hG2 := hG0.below hb2
  have h2 := h1.below hb2
  have b0 := hB2.cell 0
  have b1 := hB2.cell 1
  have g0 := hG2.cell 0
  have g1 := hG2.cell 1
  have f0 := hR2.frozen 0
  have f1 := hR2.frozen 1
  have c0 := hR2.cell 0
  have c1 := hR2.cell 1
  have hsz := hb2.size
  have hsz0 := hw0.size
  go_wp2_with (go_at_call 70; refine (within_any _ _ _ _).mono ?_; rintro e w' ⟨rfl, rfl⟩)
  exact ret_rec2 rfl rfl ((hR2.set_ 0 _).set_ 1 _) rfl ⟨none, 0, 0, rfl, Sl.nil _ _, ((hw0.trans (hb2.mono hsz0)).setCell (p := ⟨w.heap.size + 1 + 1, 0, none⟩) (by simp; omega) _).setCell (p := ⟨w.heap.size + 1 + 1, 1, none⟩) (by simp; omega) _⟩

set_option maxHeartbeats 1600000 in
set_option maxRecDepth 100000 in
theorem Clip_near (rate : Int) (A : Option Addr) (n c : Nat) (xs : List Int) (a b : Int) (w : World) (h : Sl .i64 w A n c xs) (hk : chkR rate xs = 0) (hb : okB 0 n b = true) (ha : okB 0 b a = false) :
    Calls Try.prog 59 #[.agg #[.int .i64 rate, .slice A n c], .agg #[.int .i64 a, .int .i64 b]] w (RetRec w 0 [] 2) := by
  have hB0 := ((Blk.new w 24 #[.int .i64 rate, .slice A n c]).alloc (.cells #[.int .i64 a, .int .i64 b] 84)).alloc (.cells #[.int .i64 0, .slice none 0 0] 24)
  have hG0 := (Blk.new (w.alloc (.cells #[.int .i64 rate, .slice A n c] 24)) 84 #[.int .i64 a, .int .i64 b]).alloc (.cells #[.int .i64 0, .slice none 0 0] 24)
  have hR0 := Blk.new ((w.alloc (.cells #[.int .i64 rate, .slice A n c] 24)).alloc (.cells #[.int .i64 a, .int .i64 b] 84)) 24 #[.int .i64 0, .slice none 0 0]
  rw [show (w.alloc (.cells #[.int .i64 rate, .slice A n c] 24)).heap.size = w.heap.size + 1 from by simp] at hG0
  rw [show ((w.alloc (.cells #[.int .i64 rate, .slice A n c] 24)).alloc (.cells #[.int .i64 a, .int .i64 b] 84)).heap.size = w.heap.size + 1 + 1 from by simp] at hR0
  have hw0 := (((Below.refl w.heap.size w).alloc (Nat.le_refl _) (.cells #[.int .i64 rate, .slice A n c] 24)).alloc (by simp) (.cells #[.int .i64 a, .int .i64 b] 84)).alloc (by simp; omega) (.cells #[.int .i64 0, .slice none 0 0] 24)
  have h1 := h.below hw0
  have hl := Lib.hid h.len
  have hcap := h.cap
  have htop := h.top
  have hk := Lib.hid hk
  go_enter Try.func59, Try.ntmps59
  go_wp2_with fail
  generalize ((w.alloc (.cells #[.int .i64 rate, .slice A n c] 24)).alloc (.cells #[.int .i64 a, .int .i64 b] 84)).alloc (.cells #[.int .i64 0, .slice none 0 0] 24) = w1 at *
  refine (checkRecording_any _ _ _ _ _ _ h1).mono ?_
  rintro e w2 ⟨he, hb2⟩
  rw [hk.out] at he
  subst he
  have hR2 := hR0.below hb2
  have hB2 := hB0.below hb2
  have hG2 := hG0.below hb2
  have h2 := h1.below hb2
  have b0 := hB2.cell 0
  have b1 := hB2.cell 1
  have g0 := hG2.cell 0
  have g1 := hG2.cell 1
  have f0 := hR2.frozen 0
  have f1 := hR2.frozen 1
  have c0 := hR2.cell 0
  have c1 := hR2.cell 1
  have hsz := hb2.size
  have hsz0 := hw0.size
  go_wp2_with (go_at_call 70; refine (within_any _ _ _ _).mono ?_; rintro e w' ⟨rfl, rfl⟩)
  exact ret_rec2 rfl rfl ((hR2.set_ 0 _).set_ 1 _) rfl ⟨none, 0, 0, rfl, Sl.nil _ _, ((hw0.trans (hb2.mono hsz0)).setCell (p := ⟨w.heap.size + 1 + 1, 0, none⟩) (by simp; omega) _).setCell (p := ⟨w.heap.size + 1 + 1, 1, none⟩) (by simp; omega) _⟩

set_option maxHeartbeats 1600000 in
set_option maxRecDepth 100000 in
theorem Clip_some (rate : Int) (ad : Addr) (n c : Nat) (xs : List Int) (i j : Nat) (w : World) (h : Sl .i64 w (some ad) n c xs) (hij : i ≤ j) (hjn : j ≤ n) (hci : ¬ c = i) (hn : n ≤ 200000) (hk : chkR rate xs = 0) :
    Calls Try.prog 59 #[.agg #[.int .i64 rate, .slice (some ad) n c], .agg #[.int .i64 (i : Int), .int .i64 (j : Int)]] w (RetRec w rate ((xs.take j).drop i) 0) := by
  have hB0 := ((Blk.new w 24 #[.int .i64 rate, .slice (some ad) n c]).alloc (.cells #[.int .i64 (i : Int), .int .i64 (j : Int)] 84)).alloc (.cells #[.int .i64 0, .slice none 0 0] 24)
  have hG0 := (Blk.new (w.alloc (.cells #[.int .i64 rate, .slice (some ad) n c] 24)) 84 #[.int .i64 (i : Int), .int .i64 (j : Int)]).alloc (.cells #[.int .i64 0, .slice none 0 0] 24)
  have hR0 := Blk.new ((w.alloc (.cells #[.int .i64 rate, .slice (some ad) n c] 24)).alloc (.cells #[.int .i64 (i : Int), .int .i64 (j : Int)] 84)) 24 #[.int .i64 0, .slice none 0 0]
  rw [show (w.alloc (.cells #[.int .i64 rate, .slice (some ad) n c] 24)).heap.size = w.heap.size + 1 from by simp] at hG0
  rw [show ((w.alloc (.cells #[.int .i64 rate, .slice (some ad) n c] 24)).alloc (.cells #[.int .i64 (i : Int), .int .i64 (j : Int)] 84)).heap.size = w.heap.size + 1 + 1 from by simp] at hR0
  have hw0 := (((Below.refl w.heap.size w).alloc (Nat.le_refl _) (.cells #[.int .i64 rate, .slice (some ad) n c] 24)).alloc (by simp) (.cells #[.int .i64 (i : Int), .int .i64 (j : Int)] 84)).alloc (by simp; omega) (.cells #[.int .i64 0, .slice none 0 0] 24)
  have h1 := h.below hw0
  have hl := Lib.hid h.len
  have hcap := h.cap
  have htop := h.top
  have hk := Lib.hid hk
  have ok1 : okB 0 (n : Int) (j : Int) = true := okB_mk (by omega) (by omega)
  have ok2 : okB 0 (j : Int) (i : Int) = true := okB_mk (by omega) (by omega)
  go_enter Try.func59, Try.ntmps59
  go_wp2_with fail
  generalize ((w.alloc (.cells #[.int .i64 rate, .slice (some ad) n c] 24)).alloc (.cells #[.int .i64 (i : Int), .int .i64 (j : Int)] 84)).alloc (.cells #[.int .i64 0, .slice none 0 0] 24) = w1 at *
  refine (checkRecording_any _ _ _ _ _ _ h1).mono ?_
  rintro e w2 ⟨he, hb2⟩
  rw [hk.out] at he
  subst he
  have hR2 := hR0.below hb2
  have hB2 := hB0.below hb2
  have hG2 := hG0.below hb2
  have h2 := h1.below hb2
  have b0 := hB2.cell 0
  have b1 := hB2.cell 1
  have g0 := hG2.cell 0
  have g1 := hG2.cell 1
  have f0 := hR2.frozen 0
  have f1 := hR2.frozen 1
  have c0 := hR2.cell 0
  have c1 := hR2.cell 1
  have hsz := hb2.size
  have hsz0 := hw0.size
  have hKeep := Lib.hid (fun (wx : World) (hb : Below w1.heap.size w1 wx) => show wx.cell? ⟨w.heap.size, 0, none⟩ = some (.int .i64 rate) ∧ wx.cell? ⟨w.heap.size, 1, none⟩ = some (.slice (some ad) n c) ∧ wx.cell? ⟨w.heap.size + 1, 0, none⟩ = some (.int .i64 (i : Int)) ∧ wx.cell? ⟨w.heap.size + 1, 1, none⟩ = some (.int .i64 (j : Int)) from ⟨(hB0.below hb).cell 0, (hB0.below hb).cell 1, (hG0.below hb).cell 0, (hG0.below hb).cell 1⟩)
  have hKeep2 := Lib.hid (fun (wy : World) (hb : Below w1.heap.size w1 wy) (u v : Value) => show (fun wx => wx.cell? ⟨w.heap.size, 0, none⟩ = some (.int .i64 rate) ∧ wx.cell? ⟨w.heap.size, 1, none⟩ = some (.slice (some ad) n c) ∧ wx.cell? ⟨w.heap.size + 1, 0, none⟩ = some (.int .i64 (i : Int)) ∧ wx.cell? ⟨w.heap.size + 1, 1, none⟩ = some (.int .i64 (j : Int))) ((wy.setCell ⟨w.heap.size + 1 + 1, 0, none⟩ u).setCell ⟨w.heap.size + 1 + 1, 1, none⟩ v) from ⟨(((hB0.below hb).far (p := ⟨w.heap.size + 1 + 1, 0, none⟩) (by simp; omega) u).far (p := ⟨w.heap.size + 1 + 1, 1, none⟩) (by simp; omega) v).cell 0, (((hB0.below hb).far (p := ⟨w.heap.size + 1 + 1, 0, none⟩) (by simp; omega) u).far (p := ⟨w.heap.size + 1 + 1, 1, none⟩) (by simp; omega) v).cell 1, (((hG0.below hb).far (p := ⟨w.heap.size + 1 + 1, 0, none⟩) (by simp) u).far (p := ⟨w.heap.size + 1 + 1, 1, none⟩) (by simp) v).cell 0, (((hG0.below hb).far (p := ⟨w.heap.size + 1 + 1, 0, none⟩) (by simp) u).far (p := ⟨w.heap.size + 1 + 1, 1, none⟩) (by simp) v).cell 1⟩)
  have hsub := ((h2.take (m := j) (by omega)).cut (m := i) (by omega)).drewN 1
  rw [if_neg hci] at hsub
  have hb2d : Below w1.heap.size w1 (w2.drewN 1) := bel_drewN hb2 1
  have hRl : w.heap.size + 1 + 1 < w1.heap.size := hR0.lt
  have hi1 : (i : Int) ≤ (j : Int) := by omega
  have hj1 : (j : Int) ≤ (c : Int) := by omega
  go_wp2_with (go_at_call 70; refine (within_any _ _ _ _).mono ?_; rintro e w' ⟨rfl, rfl⟩)
  go_region_held3 (fun wx => wx.cell? ⟨w.heap.size, 0, none⟩ = some (.int .i64 rate) ∧ wx.cell? ⟨w.heap.size, 1, none⟩ = some (.slice (some ad) n c) ∧ wx.cell? ⟨w.heap.size + 1, 0, none⟩ = some (.int .i64 (i : Int)) ∧ wx.cell? ⟨w.heap.size + 1, 1, none⟩ = some (.int .i64 (j : Int))) (first | exact hKeep.out _ hb2 | exact hKeep.out _ hb2d | exact hKeep.out _ hb13 | exact hKeep2.out _ hb13 _ _ | go_keep)
    (first | (go_at_call 92; refine (Clone_any _ _ _ _ _ hsub (by omega)).mono ?_; rintro e w3 ⟨A3, c3, rfl, hS3, hb3, hfr⟩; have hb13 : Below w1.heap.size w1 w3 := hb2d.trans (hb3.mono hsz); have hR3 := hR0.below hb13; have f0 := hR3.frozen 0; have f1 := hR3.frozen 1; have c0 := hR3.cell 0; have c1 := hR3.cell 1))
  all_goals
    go_wp2
    exact ret_rec2 rfl rfl ((hR3.set_ 0 _).set_ 1 _) rfl ⟨A3, _, c3, rfl, (hS3.farn (fun _ ad e => by have := hfr ad e; have : w1.heap.size ≤ ad.block := Nat.le_trans hsz this; omega) 0 _).farn (fun _ ad e => by have := hfr ad e; have : w1.heap.size ≤ ad.block := Nat.le_trans hsz this; omega) 1 _, ((hw0.trans (hb13.mono hsz0)).setCell (p := ⟨w.heap.size + 1 + 1, 0, none⟩) (by simp; omega) _).setCell (p := ⟨w.heap.size + 1 + 1, 1, none⟩) (by simp; omega) _⟩

set_option maxHeartbeats 1600000 in
set_option maxRecDepth 100000 in
theorem Clip_end (rate : Int) (ad : Addr) (n : Nat) (xs : List Int) (w : World) (h : Sl .i64 w (some ad) n n xs) (hn : n ≤ 200000) (hk : chkR rate xs = 0) :
    Calls Try.prog 59 #[.agg #[.int .i64 rate, .slice (some ad) n n], .agg #[.int .i64 (n : Int), .int .i64 (n : Int)]] w (RetRec w rate ((xs.take n).drop n) 0) := by
  have hB0 := ((Blk.new w 24 #[.int .i64 rate, .slice (some ad) n n]).alloc (.cells #[.int .i64 (n : Int), .int .i64 (n : Int)] 84)).alloc (.cells #[.int .i64 0, .slice none 0 0] 24)
  have hG0 := (Blk.new (w.alloc (.cells #[.int .i64 rate, .slice (some ad) n n] 24)) 84 #[.int .i64 (n : Int), .int .i64 (n : Int)]).alloc (.cells #[.int .i64 0, .slice none 0 0] 24)
  have hR0 := Blk.new ((w.alloc (.cells #[.int .i64 rate, .slice (some ad) n n] 24)).alloc (.cells #[.int .i64 (n : Int), .int .i64 (n : Int)] 84)) 24 #[.int .i64 0, .slice none 0 0]
  rw [show (w.alloc (.cells #[.int .i64 rate, .slice (some ad) n n] 24)).heap.size = w.heap.size + 1 from by simp] at hG0
  rw [show ((w.alloc (.cells #[.int .i64 rate, .slice (some ad) n n] 24)).alloc (.cells #[.int .i64 (n : Int), .int .i64 (n : Int)] 84)).heap.size = w.heap.size + 1 + 1 from by simp] at hR0
  have hw0 := (((Below.refl w.heap.size w).alloc (Nat.le_refl _) (.cells #[.int .i64 rate, .slice (some ad) n n] 24)).alloc (by simp) (.cells #[.int .i64 (n : Int), .int .i64 (n : Int)] 84)).alloc (by simp; omega) (.cells #[.int .i64 0, .slice none 0 0] 24)
  have h1 := h.below hw0
  have hl := Lib.hid h.len
  have hcap := h.cap
  have htop := h.top
  have hk := Lib.hid hk
  have ok1 : okB 0 (n : Int) (n : Int) = true := okB_mk (by omega) (by omega)
  have ok2 : okB 0 (n : Int) (n : Int) = true := okB_mk (by omega) (by omega)
  go_enter Try.func59, Try.ntmps59
  go_wp2_with fail
  generalize ((w.alloc (.cells #[.int .i64 rate, .slice (some ad) n n] 24)).alloc (.cells #[.int .i64 (n : Int), .int .i64 (n : Int)] 84)).alloc (.cells #[.int .i64 0, .slice none 0 0] 24) = w1 at *
  refine (checkRecording_any _ _ _ _ _ _ h1).mono ?_
  rintro e w2 ⟨he, hb2⟩
  rw [hk.out] at he
  subst he
  have hR2 := hR0.below hb2
  have hB2 := hB0.below hb2
  have hG2 := hG0.below hb2
  have h2 := h1.below hb2
  have b0 := hB2.cell 0
  have b1 := hB2.cell 1
  have g0 := hG2.cell 0
  have g1 := hG2.cell 1
  have f0 := hR2.frozen 0
  have f1 := hR2.frozen 1
  have c0 := hR2.cell 0
  have c1 := hR2.cell 1
  have hsz := hb2.size
  have hsz0 := hw0.size
  have hKeep := Lib.hid (fun (wx : World) (hb : Below w1.heap.size w1 wx) => show wx.cell? ⟨w.heap.size, 0, none⟩ = some (.int .i64 rate) ∧ wx.cell? ⟨w.heap.size, 1, none⟩ = some (.slice (some ad) n n) ∧ wx.cell? ⟨w.heap.size + 1, 0, none⟩ = some (.int .i64 (n : Int)) ∧ wx.cell? ⟨w.heap.size + 1, 1, none⟩ = some (.int .i64 (n : Int)) from ⟨(hB0.below hb).cell 0, (hB0.below hb).cell 1, (hG0.below hb).cell 0, (hG0.below hb).cell 1⟩)
  have hKeep2 := Lib.hid (fun (wy : World) (hb : Below w1.heap.size w1 wy) (u v : Value) => show (fun wx => wx.cell? ⟨w.heap.size, 0, none⟩ = some (.int .i64 rate) ∧ wx.cell? ⟨w.heap.size, 1, none⟩ = some (.slice (some ad) n n) ∧ wx.cell? ⟨w.heap.size + 1, 0, none⟩ = some (.int .i64 (n : Int)) ∧ wx.cell? ⟨w.heap.size + 1, 1, none⟩ = some (.int .i64 (n : Int))) ((wy.setCell ⟨w.heap.size + 1 + 1, 0, none⟩ u).setCell ⟨w.heap.size + 1 + 1, 1, none⟩ v) from ⟨(((hB0.below hb).far (p := ⟨w.heap.size + 1 + 1, 0, none⟩) (by simp; omega) u).far (p := ⟨w.heap.size + 1 + 1, 1, none⟩) (by simp; omega) v).cell 0, (((hB0.below hb).far (p := ⟨w.heap.size + 1 + 1, 0, none⟩) (by simp; omega) u).far (p := ⟨w.heap.size + 1 + 1, 1, none⟩) (by simp; omega) v).cell 1, (((hG0.below hb).far (p := ⟨w.heap.size + 1 + 1, 0, none⟩) (by simp) u).far (p := ⟨w.heap.size + 1 + 1, 1, none⟩) (by simp) v).cell 0, (((hG0.below hb).far (p := ⟨w.heap.size + 1 + 1, 0, none⟩) (by simp) u).far (p := ⟨w.heap.size + 1 + 1, 1, none⟩) (by simp) v).cell 1⟩)
  have hsub := ((h2.take (m := n) (by omega)).cut (m := n) (by omega)).drewN 1
  rw [if_pos rfl, Nat.sub_self] at hsub
  have hb2d : Below w1.heap.size w1 (w2.drewN 1) := bel_drewN hb2 1
  have hRl : w.heap.size + 1 + 1 < w1.heap.size := hR0.lt
  have hi1 : (n : Int) ≤ (n : Int) := by omega
  have hj1 : (n : Int) ≤ (n : Int) := by omega
  go_wp2_with (go_at_call 70; refine (within_any _ _ _ _).mono ?_; rintro e w' ⟨rfl, rfl⟩)
  go_region_held3 (fun wx => wx.cell? ⟨w.heap.size, 0, none⟩ = some (.int .i64 rate) ∧ wx.cell? ⟨w.heap.size, 1, none⟩ = some (.slice (some ad) n n) ∧ wx.cell? ⟨w.heap.size + 1, 0, none⟩ = some (.int .i64 (n : Int)) ∧ wx.cell? ⟨w.heap.size + 1, 1, none⟩ = some (.int .i64 (n : Int))) (first | exact hKeep.out _ hb2 | exact hKeep.out _ hb2d | exact hKeep.out _ hb13 | exact hKeep2.out _ hb13 _ _ | go_keep)
    (first | (go_at_call 92; refine (Clone_any _ _ _ _ _ hsub (by omega)).mono ?_; rintro e w3 ⟨A3, c3, rfl, hS3, hb3, hfr⟩; have hb13 : Below w1.heap.size w1 w3 := hb2d.trans (hb3.mono hsz); have hR3 := hR0.below hb13; have f0 := hR3.frozen 0; have f1 := hR3.frozen 1; have c0 := hR3.cell 0; have c1 := hR3.cell 1))
  all_goals
    go_wp2
    exact ret_rec2 rfl rfl ((hR3.set_ 0 _).set_ 1 _) rfl ⟨A3, _, c3, rfl, (hS3.farn (fun _ ad e => by have := hfr ad e; have : w1.heap.size ≤ ad.block := Nat.le_trans hsz this; omega) 0 _).farn (fun _ ad e => by have := hfr ad e; have : w1.heap.size ≤ ad.block := Nat.le_trans hsz this; omega) 1 _, ((hw0.trans (hb13.mono hsz0)).setCell (p := ⟨w.heap.size + 1 + 1, 0, none⟩) (by simp; omega) _).setCell (p := ⟨w.heap.size + 1 + 1, 1, none⟩) (by simp; omega) _⟩

set_option maxHeartbeats 1600000 in
set_option maxRecDepth 100000 in
theorem Clip_none (rate : Int) (n c : Nat) (xs : List Int) (i j : Nat) (w : World) (h : Sl .i64 w none n c xs) (hij : i ≤ j) (hjn : j ≤ n) (hn : n ≤ 200000) (hk : chkR rate xs = 0) :
    Calls Try.prog 59 #[.agg #[.int .i64 rate, .slice none n c], .agg #[.int .i64 (i : Int), .int .i64 (j : Int)]] w (RetRec w rate ((xs.take j).drop i) 0) := by
  have hB0 := ((Blk.new w 24 #[.int .i64 rate, .slice none n c]).alloc (.cells #[.int .i64 (i : Int), .int .i64 (j : Int)] 84)).alloc (.cells #[.int .i64 0, .slice none 0 0] 24)
  have hG0 := (Blk.new (w.alloc (.cells #[.int .i64 rate, .slice none n c] 24)) 84 #[.int .i64 (i : Int), .int .i64 (j : Int)]).alloc (.cells #[.int .i64 0, .slice none 0 0] 24)
  have hR0 := Blk.new ((w.alloc (.cells #[.int .i64 rate, .slice none n c] 24)).alloc (.cells #[.int .i64 (i : Int), .int .i64 (j : Int)] 84)) 24 #[.int .i64 0, .slice none 0 0]
  rw [show (w.alloc (.cells #[.int .i64 rate, .slice none n c] 24)).heap.size = w.heap.size + 1 from by simp] at hG0
  rw [show ((w.alloc (.cells #[.int .i64 rate, .slice none n c] 24)).alloc (.cells #[.int .i64 (i : Int), .int .i64 (j : Int)] 84)).heap.size = w.heap.size + 1 + 1 from by simp] at hR0
  have hw0 := (((Below.refl w.heap.size w).alloc (Nat.le_refl _) (.cells #[.int .i64 rate, .slice none n c] 24)).alloc (by simp) (.cells #[.int .i64 (i : Int), .int .i64 (j : Int)] 84)).alloc (by simp; omega) (.cells #[.int .i64 0, .slice none 0 0] 24)
  have h1 := h.below hw0
  have hl := Lib.hid h.len
  have hcap := h.cap
  have htop := h.top
  have hk := Lib.hid hk
  have ok1 : okB 0 (n : Int) (j : Int) = true := okB_mk (by omega) (by omega)
  have ok2 : okB 0 (j : Int) (i : Int) = true := okB_mk (by omega) (by omega)
  go_enter Try.func59, Try.ntmps59
  go_wp2_with fail
  generalize ((w.alloc (.cells #[.int .i64 rate, .slice none n c] 24)).alloc (.cells #[.int .i64 (i : Int), .int .i64 (j : Int)] 84)).alloc (.cells #[.int .i64 0, .slice none 0 0] 24) = w1 at *
  refine (checkRecording_any _ _ _ _ _ _ h1).mono ?_
  rintro e w2 ⟨he, hb2⟩
  rw [hk.out] at he
  subst he
  have hR2 := hR0.below hb2
  have hB2 := hB0.below hb2
  have hG2 := hG0.below hb2
  have h2 := h1.below hb2
  have b0 := hB2.cell 0
  have b1 := hB2.cell 1
  have g0 := hG2.cell 0
  have g1 := hG2.cell 1
  have f0 := hR2.frozen 0
  have f1 := hR2.frozen 1
  have c0 := hR2.cell 0
  have c1 := hR2.cell 1
  have hsz := hb2.size
  have hsz0 := hw0.size
  have hKeep := Lib.hid (fun (wx : World) (hb : Below w1.heap.size w1 wx) => show wx.cell? ⟨w.heap.size, 0, none⟩ = some (.int .i64 rate) ∧ wx.cell? ⟨w.heap.size, 1, none⟩ = some (.slice none n c) ∧ wx.cell? ⟨w.heap.size + 1, 0, none⟩ = some (.int .i64 (i : Int)) ∧ wx.cell? ⟨w.heap.size + 1, 1, none⟩ = some (.int .i64 (j : Int)) from ⟨(hB0.below hb).cell 0, (hB0.below hb).cell 1, (hG0.below hb).cell 0, (hG0.below hb).cell 1⟩)
  have hKeep2 := Lib.hid (fun (wy : World) (hb : Below w1.heap.size w1 wy) (u v : Value) => show (fun wx => wx.cell? ⟨w.heap.size, 0, none⟩ = some (.int .i64 rate) ∧ wx.cell? ⟨w.heap.size, 1, none⟩ = some (.slice none n c) ∧ wx.cell? ⟨w.heap.size + 1, 0, none⟩ = some (.int .i64 (i : Int)) ∧ wx.cell? ⟨w.heap.size + 1, 1, none⟩ = some (.int .i64 (j : Int))) ((wy.setCell ⟨w.heap.size + 1 + 1, 0, none⟩ u).setCell ⟨w.heap.size + 1 + 1, 1, none⟩ v) from ⟨(((hB0.below hb).far (p := ⟨w.heap.size + 1 + 1, 0, none⟩) (by simp; omega) u).far (p := ⟨w.heap.size + 1 + 1, 1, none⟩) (by simp; omega) v).cell 0, (((hB0.below hb).far (p := ⟨w.heap.size + 1 + 1, 0, none⟩) (by simp; omega) u).far (p := ⟨w.heap.size + 1 + 1, 1, none⟩) (by simp; omega) v).cell 1, (((hG0.below hb).far (p := ⟨w.heap.size + 1 + 1, 0, none⟩) (by simp) u).far (p := ⟨w.heap.size + 1 + 1, 1, none⟩) (by simp) v).cell 0, (((hG0.below hb).far (p := ⟨w.heap.size + 1 + 1, 0, none⟩) (by simp) u).far (p := ⟨w.heap.size + 1 + 1, 1, none⟩) (by simp) v).cell 1⟩)
  have hsub := ((h2.take (m := j) (by omega)).cut (m := i) (by omega)).drewN 1
  rw [show (if c = i then (none : Option Addr) else Option.map (fun q : Addr => q.add i) none) = none by split <;> rfl] at hsub
  have hb2d : Below w1.heap.size w1 (w2.drewN 1) := bel_drewN hb2 1
  have hRl : w.heap.size + 1 + 1 < w1.heap.size := hR0.lt
  have hi1 : (i : Int) ≤ (j : Int) := by omega
  have hj1 : (j : Int) ≤ (c : Int) := by omega
  go_wp2_with (go_at_call 70; refine (within_any _ _ _ _).mono ?_; rintro e w' ⟨rfl, rfl⟩)
  go_region_held3 (fun wx => wx.cell? ⟨w.heap.size, 0, none⟩ = some (.int .i64 rate) ∧ wx.cell? ⟨w.heap.size, 1, none⟩ = some (.slice none n c) ∧ wx.cell? ⟨w.heap.size + 1, 0, none⟩ = some (.int .i64 (i : Int)) ∧ wx.cell? ⟨w.heap.size + 1, 1, none⟩ = some (.int .i64 (j : Int))) (first | exact hKeep.out _ hb2 | exact hKeep.out _ hb2d | exact hKeep.out _ hb13 | exact hKeep2.out _ hb13 _ _ | go_keep)
    (first | (go_at_call 92; refine (Clone_any _ _ _ _ _ hsub (by omega)).mono ?_; rintro e w3 ⟨A3, c3, rfl, hS3, hb3, hfr⟩; have hb13 : Below w1.heap.size w1 w3 := hb2d.trans (hb3.mono hsz); have hR3 := hR0.below hb13; have f0 := hR3.frozen 0; have f1 := hR3.frozen 1; have c0 := hR3.cell 0; have c1 := hR3.cell 1))
  all_goals
    go_wp2
    exact ret_rec2 rfl rfl ((hR3.set_ 0 _).set_ 1 _) rfl ⟨A3, _, c3, rfl, (hS3.farn (fun _ ad e => by have := hfr ad e; have : w1.heap.size ≤ ad.block := Nat.le_trans hsz this; omega) 0 _).farn (fun _ ad e => by have := hfr ad e; have : w1.heap.size ≤ ad.block := Nat.le_trans hsz this; omega) 1 _, ((hw0.trans (hb13.mono hsz0)).setCell (p := ⟨w.heap.size + 1 + 1, 0, none⟩) (by simp; omega) _).setCell (p := ⟨w.heap.size + 1 + 1, 1, none⟩) (by simp; omega) _⟩
end Go.Proofs.Ytnkkbohfhinemaa
