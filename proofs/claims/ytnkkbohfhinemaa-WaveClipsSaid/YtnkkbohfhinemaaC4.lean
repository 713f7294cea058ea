/- A part of a recording: the law's walk. -/
import Derived.Test.YtnkkbohfhinemaaC3
import Derived.Test.YtnkkbohfhinemaaK3
namespace Go.Proofs.Ytnkkbohfhinemaa
open Go.RowKit

abbrev YesC (w : World) (e : Ending) (w' : World) : Prop := e = .returned (.bool true) ∧ Below w.heap.size w w'

set_option maxHeartbeats 3200000 in
set_option maxRecDepth 100000 in
theorem cl_skip (rate : Int) (A : Option Addr) (n c : Nat) (xs : List Int) (a b : Int) (w : World) (h : Sl .i64 w A n c xs) (hn : shB n = false) :
    Calls Try.prog 19 #[.agg #[.int .i64 rate, .slice A n c], .agg #[.int .i64 a, .int .i64 b]] w (YesC w) := by
  have hs := Lib.hid hn
  clear hn
  have hcap := h.cap
  have htop := h.top
  have hl := Lib.hid h.len
  have hB1 := (Blk.new w 24 #[.int .i64 rate, .slice A n c]).alloc (.cells #[.int .i64 a, .int .i64 b] 84)
  have hG1 := Blk.new (w.alloc (.cells #[.int .i64 rate, .slice A n c] 24)) 84 #[.int .i64 a, .int .i64 b]
  rw [show (w.alloc (.cells #[.int .i64 rate, .slice A n c] 24)).heap.size = w.heap.size + 1 from by simp] at hG1
  have hb1 := ((Below.refl w.heap.size w).alloc (Nat.le_refl _) (.cells #[.int .i64 rate, .slice A n c] 24)).alloc (by simp) (.cells #[.int .i64 a, .int .i64 b] 84)
  have h1 := h.below hb1
  go_enter Try.func19, Try.ntmps19
  go_wp2_with fail
  change Calls _ _ _ ((w.alloc (.cells #[.int .i64 rate, .slice A n c] 24)).alloc (.cells #[.int .i64 a, .int .i64 b] 84)) _
  generalize (w.alloc (.cells #[.int .i64 rate, .slice A n c] 24)).alloc (.cells #[.int .i64 a, .int .i64 b] 84) = w1 at *
  refine (short_any _ _).mono ?_
  rintro e w2 ⟨he, rfl⟩
  rw [hs.out] at he
  subst he
  go_wp2_with fail
  refine (known_any _).mono ?_
  rintro e w7 ⟨rfl, hb7⟩
  go_wp2
  go_ret
  exact ⟨rfl, hb1.trans (hb7.mono hb1.size)⟩

set_option maxHeartbeats 3200000 in
set_option maxRecDepth 100000 in
theorem cl_bad (rate : Int) (A : Option Addr) (n c : Nat) (xs : List Int) (a b : Int) (w : World) (h : Sl .i64 w A n c xs) (hn : shB n = true) (k : Int) (hk : chkR rate xs = k) (h0 : (k == 0) = false) :
    Calls Try.prog 19 #[.agg #[.int .i64 rate, .slice A n c], .agg #[.int .i64 a, .int .i64 b]] w (YesC w) := by
  have hs := Lib.hid hn
  clear hn
  have hcap := h.cap
  have htop := h.top
  have hl := Lib.hid h.len
  have hk := Lib.hid hk
  have hB1 := (Blk.new w 24 #[.int .i64 rate, .slice A n c]).alloc (.cells #[.int .i64 a, .int .i64 b] 84)
  have hG1 := Blk.new (w.alloc (.cells #[.int .i64 rate, .slice A n c] 24)) 84 #[.int .i64 a, .int .i64 b]
  rw [show (w.alloc (.cells #[.int .i64 rate, .slice A n c] 24)).heap.size = w.heap.size + 1 from by simp] at hG1
  have hb1 := ((Below.refl w.heap.size w).alloc (Nat.le_refl _) (.cells #[.int .i64 rate, .slice A n c] 24)).alloc (by simp) (.cells #[.int .i64 a, .int .i64 b] 84)
  have h1 := h.below hb1
  go_enter Try.func19, Try.ntmps19
  go_wp2_with fail
  change Calls _ _ _ ((w.alloc (.cells #[.int .i64 rate, .slice A n c] 24)).alloc (.cells #[.int .i64 a, .int .i64 b] 84)) _
  generalize (w.alloc (.cells #[.int .i64 rate, .slice A n c] 24)).alloc (.cells #[.int .i64 a, .int .i64 b] 84) = w1 at *
  refine (short_any _ _).mono ?_
  rintro e w2 ⟨he, rfl⟩
  rw [hs.out] at he
  subst he
  have r0 := hB1.cell 0
  have r1 := hB1.cell 1
  have s0 := hG1.cell 0
  have s1 := hG1.cell 1
  go_wp2_with fail
  refine (Clip_bad rate A n c xs a b w1 h1 k hk.out h0).mono ?_
  rintro e w2 ⟨A2, m2, c2, rfl, hS2, hb2⟩
  have hm2 := hS2.len
  clear r0 r1 s0 s1
  have hB2 := hB1.below hb2
  have hG2 := hG1.below hb2
  have h2 := h1.below hb2
  have hb12 := hb1.trans (hb2.mono hb1.size)
  have hC3 := Blk.new w2 24 #[.int .i64 0, .slice A2 m2 c2]
  have hB3 := hB2.alloc (.cells #[.int .i64 0, .slice A2 m2 c2] 24)
  have hG3 := hG2.alloc (.cells #[.int .i64 0, .slice A2 m2 c2] 24)
  have h3 := h2.alloc (.cells #[.int .i64 0, .slice A2 m2 c2] 24)
  have hS3 := hS2.alloc (.cells #[.int .i64 0, .slice A2 m2 c2] 24)
  have hb3 := hb12.alloc hb12.size (.cells #[.int .i64 0, .slice A2 m2 c2] 24)
  have r0 : (w2.alloc (.cells #[.int .i64 0, .slice A2 m2 c2] 24)).cell? ⟨w.heap.size, 0, none⟩ = some (.int .i64 rate) := hB3.cell 0
  have r1 : (w2.alloc (.cells #[.int .i64 0, .slice A2 m2 c2] 24)).cell? ⟨w.heap.size, 1, none⟩ = some (.slice A n c) := hB3.cell 1
  go_wp2_with fail
  generalize w2.alloc (.cells #[.int .i64 0, .slice A2 m2 c2] 24) = w3 at *
  refine (RWrong_any _ _ _ _ _ _ h3).mono ?_
  rintro e w4 ⟨he, hb4⟩
  rw [hk.out] at he
  subst he
  clear r0 r1
  have hB4 := hB3.below hb4
  have hG4 := hG3.below hb4
  have hC4 := hC3.below hb4
  have h4 := h3.below hb4
  have hS4 := hS3.below hb4
  have hb14 := hb3.trans (hb4.mono hb3.size)
  have r0 := hB4.cell 0
  have r1 := hB4.cell 1
  have s0 := hG4.cell 0
  have s1 := hG4.cell 1
  have q0 := hC4.cell 0
  have q1 := hC4.cell 1
  have hm0 : m2 = 0 := hm2.symm
  subst hm0
  go_wp2_with fail
  refine (known_any _).mono ?_
  rintro e w7 ⟨rfl, hb7⟩
  go_wp2
  go_ret
  exact ⟨rfl, hb14.trans (hb7.mono hb14.size)⟩

set_option maxHeartbeats 3200000 in
set_option maxRecDepth 100000 in
theorem cl_seg1 (rate : Int) (A : Option Addr) (n c : Nat) (xs : List Int) (a b : Int) (w : World) (h : Sl .i64 w A n c xs) (hn : shB n = true) (hk : chkR rate xs = 0) (hc : okB 0 n b = false ∨ (okB 0 n b = true ∧ okB 0 b a = false)) (h5 : a < 0) :
    Calls Try.prog 19 #[.agg #[.int .i64 rate, .slice A n c], .agg #[.int .i64 a, .int .i64 b]] w (YesC w) := by
  have hs := Lib.hid hn
  clear hn
  have hcap := h.cap
  have htop := h.top
  have hl := Lib.hid h.len
  have hclip := Lib.hid (fun (w9 : World) (h9 : Sl .i64 w9 A n c xs) => show Calls Try.prog 59 #[.agg #[.int .i64 rate, .slice A n c], .agg #[.int .i64 a, .int .i64 b]] w9 (RetRec w9 0 [] 2) from by
    rcases hc with hc | ⟨hc, hc2⟩
    · exact Clip_far rate A n c xs a b w9 h9 hk hc
    · exact Clip_near rate A n c xs a b w9 h9 hk hc hc2)
  clear hc
  have hk := Lib.hid hk
  have hB1 := (Blk.new w 24 #[.int .i64 rate, .slice A n c]).alloc (.cells #[.int .i64 a, .int .i64 b] 84)
  have hG1 := Blk.new (w.alloc (.cells #[.int .i64 rate, .slice A n c] 24)) 84 #[.int .i64 a, .int .i64 b]
  rw [show (w.alloc (.cells #[.int .i64 rate, .slice A n c] 24)).heap.size = w.heap.size + 1 from by simp] at hG1
  have hb1 := ((Below.refl w.heap.size w).alloc (Nat.le_refl _) (.cells #[.int .i64 rate, .slice A n c] 24)).alloc (by simp) (.cells #[.int .i64 a, .int .i64 b] 84)
  have h1 := h.below hb1
  go_enter Try.func19, Try.ntmps19
  go_wp2_with fail
  change Calls _ _ _ ((w.alloc (.cells #[.int .i64 rate, .slice A n c] 24)).alloc (.cells #[.int .i64 a, .int .i64 b] 84)) _
  generalize (w.alloc (.cells #[.int .i64 rate, .slice A n c] 24)).alloc (.cells #[.int .i64 a, .int .i64 b] 84) = w1 at *
  refine (short_any _ _).mono ?_
  rintro e w2 ⟨he, rfl⟩
  rw [hs.out] at he
  subst he
  have r0 := hB1.cell 0
  have r1 := hB1.cell 1
  have s0 := hG1.cell 0
  have s1 := hG1.cell 1
  go_wp2_with fail
  refine (hclip.out _ h1).mono ?_
  rintro e w2 ⟨A2, m2, c2, rfl, hS2, hb2⟩
  have hm2 := hS2.len
  clear r0 r1 s0 s1
  have hB2 := hB1.below hb2
  have hG2 := hG1.below hb2
  have h2 := h1.below hb2
  have hb12 := hb1.trans (hb2.mono hb1.size)
  have hC3 := Blk.new w2 24 #[.int .i64 0, .slice A2 m2 c2]
  have hB3 := hB2.alloc (.cells #[.int .i64 0, .slice A2 m2 c2] 24)
  have hG3 := hG2.alloc (.cells #[.int .i64 0, .slice A2 m2 c2] 24)
  have h3 := h2.alloc (.cells #[.int .i64 0, .slice A2 m2 c2] 24)
  have hS3 := hS2.alloc (.cells #[.int .i64 0, .slice A2 m2 c2] 24)
  have hb3 := hb12.alloc hb12.size (.cells #[.int .i64 0, .slice A2 m2 c2] 24)
  have r0 : (w2.alloc (.cells #[.int .i64 0, .slice A2 m2 c2] 24)).cell? ⟨w.heap.size, 0, none⟩ = some (.int .i64 rate) := hB3.cell 0
  have r1 : (w2.alloc (.cells #[.int .i64 0, .slice A2 m2 c2] 24)).cell? ⟨w.heap.size, 1, none⟩ = some (.slice A n c) := hB3.cell 1
  go_wp2_with fail
  generalize w2.alloc (.cells #[.int .i64 0, .slice A2 m2 c2] 24) = w3 at *
  refine (RWrong_any _ _ _ _ _ _ h3).mono ?_
  rintro e w4 ⟨he, hb4⟩
  rw [hk.out] at he
  subst he
  clear r0 r1
  have hB4 := hB3.below hb4
  have hG4 := hG3.below hb4
  have hC4 := hC3.below hb4
  have h4 := h3.below hb4
  have hS4 := hS3.below hb4
  have hb14 := hb3.trans (hb4.mono hb3.size)
  have r0 := hB4.cell 0
  have r1 := hB4.cell 1
  have s0 := hG4.cell 0
  have s1 := hG4.cell 1
  have q0 := hC4.cell 0
  have q1 := hC4.cell 1
  have hm0 : m2 = 0 := hm2.symm
  subst hm0
  have d1 := decide_eq_true h5
  go_wp2_with fail
  refine (known_any _).mono ?_
  rintro e w7 ⟨rfl, hb7⟩
  go_wp2
  go_ret
  exact ⟨rfl, hb14.trans (hb7.mono hb14.size)⟩

set_option maxHeartbeats 3200000 in
set_option maxRecDepth 100000 in
theorem cl_seg2 (rate : Int) (A : Option Addr) (n c : Nat) (xs : List Int) (a b : Int) (w : World) (h : Sl .i64 w A n c xs) (hn : shB n = true) (hk : chkR rate xs = 0) (hc : okB 0 n b = false ∨ (okB 0 n b = true ∧ okB 0 b a = false)) (h5 : ¬ a < 0) (h6 : b < a) :
    Calls Try.prog 19 #[.agg #[.int .i64 rate, .slice A n c], .agg #[.int .i64 a, .int .i64 b]] w (YesC w) := by
  have hs := Lib.hid hn
  clear hn
  have hcap := h.cap
  have htop := h.top
  have hl := Lib.hid h.len
  have hclip := Lib.hid (fun (w9 : World) (h9 : Sl .i64 w9 A n c xs) => show Calls Try.prog 59 #[.agg #[.int .i64 rate, .slice A n c], .agg #[.int .i64 a, .int .i64 b]] w9 (RetRec w9 0 [] 2) from by
    rcases hc with hc | ⟨hc, hc2⟩
    · exact Clip_far rate A n c xs a b w9 h9 hk hc
    · exact Clip_near rate A n c xs a b w9 h9 hk hc hc2)
  clear hc
  have hk := Lib.hid hk
  have hB1 := (Blk.new w 24 #[.int .i64 rate, .slice A n c]).alloc (.cells #[.int .i64 a, .int .i64 b] 84)
  have hG1 := Blk.new (w.alloc (.cells #[.int .i64 rate, .slice A n c] 24)) 84 #[.int .i64 a, .int .i64 b]
  rw [show (w.alloc (.cells #[.int .i64 rate, .slice A n c] 24)).heap.size = w.heap.size + 1 from by simp] at hG1
  have hb1 := ((Below.refl w.heap.size w).alloc (Nat.le_refl _) (.cells #[.int .i64 rate, .slice A n c] 24)).alloc (by simp) (.cells #[.int .i64 a, .int .i64 b] 84)
  have h1 := h.below hb1
  go_enter Try.func19, Try.ntmps19
  go_wp2_with fail
  change Calls _ _ _ ((w.alloc (.cells #[.int .i64 rate, .slice A n c] 24)).alloc (.cells #[.int .i64 a, .int .i64 b] 84)) _
  generalize (w.alloc (.cells #[.int .i64 rate, .slice A n c] 24)).alloc (.cells #[.int .i64 a, .int .i64 b] 84) = w1 at *
  refine (short_any _ _).mono ?_
  rintro e w2 ⟨he, rfl⟩
  rw [hs.out] at he
  subst he
  have r0 := hB1.cell 0
  have r1 := hB1.cell 1
  have s0 := hG1.cell 0
  have s1 := hG1.cell 1
  go_wp2_with fail
  refine (hclip.out _ h1).mono ?_
  rintro e w2 ⟨A2, m2, c2, rfl, hS2, hb2⟩
  have hm2 := hS2.len
  clear r0 r1 s0 s1
  have hB2 := hB1.below hb2
  have hG2 := hG1.below hb2
  have h2 := h1.below hb2
  have hb12 := hb1.trans (hb2.mono hb1.size)
  have hC3 := Blk.new w2 24 #[.int .i64 0, .slice A2 m2 c2]
  have hB3 := hB2.alloc (.cells #[.int .i64 0, .slice A2 m2 c2] 24)
  have hG3 := hG2.alloc (.cells #[.int .i64 0, .slice A2 m2 c2] 24)
  have h3 := h2.alloc (.cells #[.int .i64 0, .slice A2 m2 c2] 24)
  have hS3 := hS2.alloc (.cells #[.int .i64 0, .slice A2 m2 c2] 24)
  have hb3 := hb12.alloc hb12.size (.cells #[.int .i64 0, .slice A2 m2 c2] 24)
  have r0 : (w2.alloc (.cells #[.int .i64 0, .slice A2 m2 c2] 24)).cell? ⟨w.heap.size, 0, none⟩ = some (.int .i64 rate) := hB3.cell 0
  have r1 : (w2.alloc (.cells #[.int .i64 0, .slice A2 m2 c2] 24)).cell? ⟨w.heap.size, 1, none⟩ = some (.slice A n c) := hB3.cell 1
  go_wp2_with fail
  generalize w2.alloc (.cells #[.int .i64 0, .slice A2 m2 c2] 24) = w3 at *
  refine (RWrong_any _ _ _ _ _ _ h3).mono ?_
  rintro e w4 ⟨he, hb4⟩
  rw [hk.out] at he
  subst he
  clear r0 r1
  have hB4 := hB3.below hb4
  have hG4 := hG3.below hb4
  have hC4 := hC3.below hb4
  have h4 := h3.below hb4
  have hS4 := hS3.below hb4
  have hb14 := hb3.trans (hb4.mono hb3.size)
  have r0 := hB4.cell 0
  have r1 := hB4.cell 1
  have s0 := hG4.cell 0
  have s1 := hG4.cell 1
  have q0 := hC4.cell 0
  have q1 := hC4.cell 1
  have hm0 : m2 = 0 := hm2.symm
  subst hm0
  have d1 : decide (a < 0) = false := decide_eq_false (by omega)
  have d2 := decide_eq_true h6
  go_wp2_with fail
  refine (known_any _).mono ?_
  rintro e w7 ⟨rfl, hb7⟩
  go_wp2
  go_ret
  exact ⟨rfl, hb14.trans (hb7.mono hb14.size)⟩

set_option maxHeartbeats 3200000 in
set_option maxRecDepth 100000 in
theorem cl_seg3 (rate : Int) (A : Option Addr) (n c : Nat) (xs : List Int) (a b : Int) (w : World) (h : Sl .i64 w A n c xs) (hn : shB n = true) (hk : chkR rate xs = 0) (hc : okB 0 n b = false ∨ (okB 0 n b = true ∧ okB 0 b a = false)) (h5 : ¬ a < 0) (h6 : ¬ b < a) (h7 : (n : Int) < b) :
    Calls Try.prog 19 #[.agg #[.int .i64 rate, .slice A n c], .agg #[.int .i64 a, .int .i64 b]] w (YesC w) := by
  have hs := Lib.hid hn
  clear hn
  have hcap := h.cap
  have htop := h.top
  have hl := Lib.hid h.len
  have hclip := Lib.hid (fun (w9 : World) (h9 : Sl .i64 w9 A n c xs) => show Calls Try.prog 59 #[.agg #[.int .i64 rate, .slice A n c], .agg #[.int .i64 a, .int .i64 b]] w9 (RetRec w9 0 [] 2) from by
    rcases hc with hc | ⟨hc, hc2⟩
    · exact Clip_far rate A n c xs a b w9 h9 hk hc
    · exact Clip_near rate A n c xs a b w9 h9 hk hc hc2)
  clear hc
  have hk := Lib.hid hk
  have hB1 := (Blk.new w 24 #[.int .i64 rate, .slice A n c]).alloc (.cells #[.int .i64 a, .int .i64 b] 84)
  have hG1 := Blk.new (w.alloc (.cells #[.int .i64 rate, .slice A n c] 24)) 84 #[.int .i64 a, .int .i64 b]
  rw [show (w.alloc (.cells #[.int .i64 rate, .slice A n c] 24)).heap.size = w.heap.size + 1 from by simp] at hG1
  have hb1 := ((Below.refl w.heap.size w).alloc (Nat.le_refl _) (.cells #[.int .i64 rate, .slice A n c] 24)).alloc (by simp) (.cells #[.int .i64 a, .int .i64 b] 84)
  have h1 := h.below hb1
  go_enter Try.func19, Try.ntmps19
  go_wp2_with fail
  change Calls _ _ _ ((w.alloc (.cells #[.int .i64 rate, .slice A n c] 24)).alloc (.cells #[.int .i64 a, .int .i64 b] 84)) _
  generalize (w.alloc (.cells #[.int .i64 rate, .slice A n c] 24)).alloc (.cells #[.int .i64 a, .int .i64 b] 84) = w1 at *
  refine (short_any _ _).mono ?_
  rintro e w2 ⟨he, rfl⟩
  rw [hs.out] at he
  subst he
  have r0 := hB1.cell 0
  have r1 := hB1.cell 1
  have s0 := hG1.cell 0
  have s1 := hG1.cell 1
  go_wp2_with fail
  refine (hclip.out _ h1).mono ?_
  rintro e w2 ⟨A2, m2, c2, rfl, hS2, hb2⟩
  have hm2 := hS2.len
  clear r0 r1 s0 s1
  have hB2 := hB1.below hb2
  have hG2 := hG1.below hb2
  have h2 := h1.below hb2
  have hb12 := hb1.trans (hb2.mono hb1.size)
  have hC3 := Blk.new w2 24 #[.int .i64 0, .slice A2 m2 c2]
  have hB3 := hB2.alloc (.cells #[.int .i64 0, .slice A2 m2 c2] 24)
  have hG3 := hG2.alloc (.cells #[.int .i64 0, .slice A2 m2 c2] 24)
  have h3 := h2.alloc (.cells #[.int .i64 0, .slice A2 m2 c2] 24)
  have hS3 := hS2.alloc (.cells #[.int .i64 0, .slice A2 m2 c2] 24)
  have hb3 := hb12.alloc hb12.size (.cells #[.int .i64 0, .slice A2 m2 c2] 24)
  have r0 : (w2.alloc (.cells #[.int .i64 0, .slice A2 m2 c2] 24)).cell? ⟨w.heap.size, 0, none⟩ = some (.int .i64 rate) := hB3.cell 0
  have r1 : (w2.alloc (.cells #[.int .i64 0, .slice A2 m2 c2] 24)).cell? ⟨w.heap.size, 1, none⟩ = some (.slice A n c) := hB3.cell 1
  go_wp2_with fail
  generalize w2.alloc (.cells #[.int .i64 0, .slice A2 m2 c2] 24) = w3 at *
  refine (RWrong_any _ _ _ _ _ _ h3).mono ?_
  rintro e w4 ⟨he, hb4⟩
  rw [hk.out] at he
  subst he
  clear r0 r1
  have hB4 := hB3.below hb4
  have hG4 := hG3.below hb4
  have hC4 := hC3.below hb4
  have h4 := h3.below hb4
  have hS4 := hS3.below hb4
  have hb14 := hb3.trans (hb4.mono hb3.size)
  have r0 := hB4.cell 0
  have r1 := hB4.cell 1
  have s0 := hG4.cell 0
  have s1 := hG4.cell 1
  have q0 := hC4.cell 0
  have q1 := hC4.cell 1
  have hm0 : m2 = 0 := hm2.symm
  subst hm0
  have d1 : decide (a < 0) = false := decide_eq_false (by omega)
  have d2 : decide (b < a) = false := decide_eq_false (by omega)
  have d3 := decide_eq_true h7
  go_wp2_with fail
  refine (known_any _).mono ?_
  rintro e w7 ⟨rfl, hb7⟩
  go_wp2
  go_ret
  exact ⟨rfl, hb14.trans (hb7.mono hb14.size)⟩

set_option maxHeartbeats 3200000 in
set_option maxRecDepth 100000 in
theorem cl_oksome (rate : Int) (ad : Addr) (n c : Nat) (xs : List Int) (i j : Nat) (w : World) (h : Sl .i64 w (some ad) n c xs) (hn : shB n = true) (hk : chkR rate xs = 0) (hij : i ≤ j) (hjn : j ≤ n) (hci : ¬ c = i) (hn2 : n ≤ 200000) :
    Calls Try.prog 19 #[.agg #[.int .i64 rate, .slice (some ad) n c], .agg #[.int .i64 (i : Int), .int .i64 (j : Int)]] w (YesC w) := by
  have hs := Lib.hid hn
  clear hn
  have hcap := h.cap
  have htop := h.top
  have hl := Lib.hid h.len
  have hclip := Lib.hid (fun (w9 : World) (h9 : Sl .i64 w9 (some ad) n c xs) => Clip_some rate ad n c xs i j w9 h9 hij hjn hci hn2 hk)
  have hk := Lib.hid hk
  have hB1 := (Blk.new w 24 #[.int .i64 rate, .slice (some ad) n c]).alloc (.cells #[.int .i64 (i : Int), .int .i64 (j : Int)] 84)
  have hG1 := Blk.new (w.alloc (.cells #[.int .i64 rate, .slice (some ad) n c] 24)) 84 #[.int .i64 (i : Int), .int .i64 (j : Int)]
  rw [show (w.alloc (.cells #[.int .i64 rate, .slice (some ad) n c] 24)).heap.size = w.heap.size + 1 from by simp] at hG1
  have hb1 := ((Below.refl w.heap.size w).alloc (Nat.le_refl _) (.cells #[.int .i64 rate, .slice (some ad) n c] 24)).alloc (by simp) (.cells #[.int .i64 (i : Int), .int .i64 (j : Int)] 84)
  have h1 := h.below hb1
  go_enter Try.func19, Try.ntmps19
  go_wp2_with fail
  change Calls _ _ _ ((w.alloc (.cells #[.int .i64 rate, .slice (some ad) n c] 24)).alloc (.cells #[.int .i64 (i : Int), .int .i64 (j : Int)] 84)) _
  generalize (w.alloc (.cells #[.int .i64 rate, .slice (some ad) n c] 24)).alloc (.cells #[.int .i64 (i : Int), .int .i64 (j : Int)] 84) = w1 at *
  refine (short_any _ _).mono ?_
  rintro e w2 ⟨he, rfl⟩
  rw [hs.out] at he
  subst he
  have r0 := hB1.cell 0
  have r1 := hB1.cell 1
  have s0 := hG1.cell 0
  have s1 := hG1.cell 1
  go_wp2_with fail
  refine (hclip.out _ h1).mono ?_
  rintro e w2 ⟨A2, m2, c2, rfl, hS2, hb2⟩
  have hm2 := hS2.len
  clear r0 r1 s0 s1
  have hB2 := hB1.below hb2
  have hG2 := hG1.below hb2
  have h2 := h1.below hb2
  have hb12 := hb1.trans (hb2.mono hb1.size)
  have hC3 := Blk.new w2 24 #[.int .i64 rate, .slice A2 m2 c2]
  have hB3 := hB2.alloc (.cells #[.int .i64 rate, .slice A2 m2 c2] 24)
  have hG3 := hG2.alloc (.cells #[.int .i64 rate, .slice A2 m2 c2] 24)
  have h3 := h2.alloc (.cells #[.int .i64 rate, .slice A2 m2 c2] 24)
  have hS3 := hS2.alloc (.cells #[.int .i64 rate, .slice A2 m2 c2] 24)
  have hb3 := hb12.alloc hb12.size (.cells #[.int .i64 rate, .slice A2 m2 c2] 24)
  have r0 : (w2.alloc (.cells #[.int .i64 rate, .slice A2 m2 c2] 24)).cell? ⟨w.heap.size, 0, none⟩ = some (.int .i64 rate) := hB3.cell 0
  have r1 : (w2.alloc (.cells #[.int .i64 rate, .slice A2 m2 c2] 24)).cell? ⟨w.heap.size, 1, none⟩ = some (.slice (some ad) n c) := hB3.cell 1
  go_wp2_with fail
  generalize w2.alloc (.cells #[.int .i64 rate, .slice A2 m2 c2] 24) = w3 at *
  refine (RWrong_any _ _ _ _ _ _ h3).mono ?_
  rintro e w4 ⟨he, hb4⟩
  rw [hk.out] at he
  subst he
  clear r0 r1
  have hB4 := hB3.below hb4
  have hG4 := hG3.below hb4
  have hC4 := hC3.below hb4
  have h4 := h3.below hb4
  have hS4 := hS3.below hb4
  have hb14 := hb3.trans (hb4.mono hb3.size)
  have r0 := hB4.cell 0
  have r1 := hB4.cell 1
  have s0 := hG4.cell 0
  have s1 := hG4.cell 1
  have q0 := hC4.cell 0
  have q1 := hC4.cell 1
  have hsub := (h4.take (m := j) (by omega)).cut (m := i) (by omega)
  rw [if_neg hci] at hsub
  have e1 : (i : Int) ≤ (j : Int) := by omega
  have e2 : (j : Int) ≤ (n : Int) := by omega
  have e3 : (j : Int) ≤ (c : Int) := by omega
  have hKeep := Lib.hid (fun (wx : World) (hb : Below w4.heap.size w4 wx) => show wx.cell? ⟨w.heap.size, 0, none⟩ = some (.int .i64 rate) ∧ wx.cell? ⟨w.heap.size, 1, none⟩ = some (.slice (some ad) n c) ∧ wx.cell? ⟨w.heap.size + 1, 0, none⟩ = some (.int .i64 (i : Int)) ∧ wx.cell? ⟨w.heap.size + 1, 1, none⟩ = some (.int .i64 (j : Int)) ∧ wx.cell? ⟨w2.heap.size, 0, none⟩ = some (.int .i64 rate) ∧ wx.cell? ⟨w2.heap.size, 1, none⟩ = some (.slice A2 m2 c2) from ⟨(hB4.below hb).cell 0, (hB4.below hb).cell 1, (hG4.below hb).cell 0, (hG4.below hb).cell 1, (hC4.below hb).cell 0, (hC4.below hb).cell 1⟩)
  have hbd : Below w4.heap.size w4 (w4.drewN 1) := bel_drewN (Below.refl _ _) 1
  have hbr : Below w4.heap.size w4 w4 := Below.refl _ _
  have hSd := hS4.drewN 1
  have hsubd := hsub.drewN 1
  have rr : (rate == rate) = true := beq_self_eq_true rate
  go_wp2_with fail
  go_region_held3 (fun wx => wx.cell? ⟨w.heap.size, 0, none⟩ = some (.int .i64 rate) ∧ wx.cell? ⟨w.heap.size, 1, none⟩ = some (.slice (some ad) n c) ∧ wx.cell? ⟨w.heap.size + 1, 0, none⟩ = some (.int .i64 (i : Int)) ∧ wx.cell? ⟨w.heap.size + 1, 1, none⟩ = some (.int .i64 (j : Int)) ∧ wx.cell? ⟨w2.heap.size, 0, none⟩ = some (.int .i64 rate) ∧ wx.cell? ⟨w2.heap.size, 1, none⟩ = some (.slice A2 m2 c2)) (first | exact hKeep.out _ hbr | exact hKeep.out _ hbd | exact hKeep.out _ hb5 | exact hKeep.out _ hb47 | go_keep)
    (first
      | (go_at_call 30; refine (Same_any _ _ _ _ _ _ _ _ _ hSd hsubd).mono ?_; rintro e w5 ⟨k5, he, rfl⟩; rw [sameB_yes rfl] at he; subst he; have hb5 : Below w4.heap.size w4 (w4.drewN (1 + k5)) := bel_drewN hbr (1 + k5))
      | (go_at_call 22; refine (known_any _).mono ?_; rintro e w7 ⟨rfl, hb7⟩; have hb47 : Below w4.heap.size w4 w7 := hb5.trans (hb7.mono hb5.size)))
  all_goals
    go_wp2
    go_ret
    exact ⟨rfl, hb14.trans (hb47.mono hb14.size)⟩

set_option maxHeartbeats 3200000 in
set_option maxRecDepth 100000 in
theorem cl_okend (rate : Int) (ad : Addr) (n : Nat) (xs : List Int) (w : World) (h : Sl .i64 w (some ad) n n xs) (hn : shB n = true) (hk : chkR rate xs = 0) (hn2 : n ≤ 200000) :
    Calls Try.prog 19 #[.agg #[.int .i64 rate, .slice (some ad) n n], .agg #[.int .i64 (n : Int), .int .i64 (n : Int)]] w (YesC w) := by
  have hs := Lib.hid hn
  clear hn
  have hcap := h.cap
  have htop := h.top
  have hl := Lib.hid h.len
  have hclip := Lib.hid (fun (w9 : World) (h9 : Sl .i64 w9 (some ad) n n xs) => Clip_end rate ad n xs w9 h9 hn2 hk)
  have hk := Lib.hid hk
  have hB1 := (Blk.new w 24 #[.int .i64 rate, .slice (some ad) n n]).alloc (.cells #[.int .i64 (n : Int), .int .i64 (n : Int)] 84)
  have hG1 := Blk.new (w.alloc (.cells #[.int .i64 rate, .slice (some ad) n n] 24)) 84 #[.int .i64 (n : Int), .int .i64 (n : Int)]
  rw [show (w.alloc (.cells #[.int .i64 rate, .slice (some ad) n n] 24)).heap.size = w.heap.size + 1 from by simp] at hG1
  have hb1 := ((Below.refl w.heap.size w).alloc (Nat.le_refl _) (.cells #[.int .i64 rate, .slice (some ad) n n] 24)).alloc (by simp) (.cells #[.int .i64 (n : Int), .int .i64 (n : Int)] 84)
  have h1 := h.below hb1
  go_enter Try.func19, Try.ntmps19
  go_wp2_with fail
  change Calls _ _ _ ((w.alloc (.cells #[.int .i64 rate, .slice (some ad) n n] 24)).alloc (.cells #[.int .i64 (n : Int), .int .i64 (n : Int)] 84)) _
  generalize (w.alloc (.cells #[.int .i64 rate, .slice (some ad) n n] 24)).alloc (.cells #[.int .i64 (n : Int), .int .i64 (n : Int)] 84) = w1 at *
  refine (short_any _ _).mono ?_
  rintro e w2 ⟨he, rfl⟩
  rw [hs.out] at he
  subst he
  have r0 := hB1.cell 0
  have r1 := hB1.cell 1
  have s0 := hG1.cell 0
  have s1 := hG1.cell 1
  go_wp2_with fail
  refine (hclip.out _ h1).mono ?_
  rintro e w2 ⟨A2, m2, c2, rfl, hS2, hb2⟩
  have hm2 := hS2.len
  clear r0 r1 s0 s1
  have hB2 := hB1.below hb2
  have hG2 := hG1.below hb2
  have h2 := h1.below hb2
  have hb12 := hb1.trans (hb2.mono hb1.size)
  have hC3 := Blk.new w2 24 #[.int .i64 rate, .slice A2 m2 c2]
  have hB3 := hB2.alloc (.cells #[.int .i64 rate, .slice A2 m2 c2] 24)
  have hG3 := hG2.alloc (.cells #[.int .i64 rate, .slice A2 m2 c2] 24)
  have h3 := h2.alloc (.cells #[.int .i64 rate, .slice A2 m2 c2] 24)
  have hS3 := hS2.alloc (.cells #[.int .i64 rate, .slice A2 m2 c2] 24)
  have hb3 := hb12.alloc hb12.size (.cells #[.int .i64 rate, .slice A2 m2 c2] 24)
  have r0 : (w2.alloc (.cells #[.int .i64 rate, .slice A2 m2 c2] 24)).cell? ⟨w.heap.size, 0, none⟩ = some (.int .i64 rate) := hB3.cell 0
  have r1 : (w2.alloc (.cells #[.int .i64 rate, .slice A2 m2 c2] 24)).cell? ⟨w.heap.size, 1, none⟩ = some (.slice (some ad) n n) := hB3.cell 1
  go_wp2_with fail
  generalize w2.alloc (.cells #[.int .i64 rate, .slice A2 m2 c2] 24) = w3 at *
  refine (RWrong_any _ _ _ _ _ _ h3).mono ?_
  rintro e w4 ⟨he, hb4⟩
  rw [hk.out] at he
  subst he
  clear r0 r1
  have hB4 := hB3.below hb4
  have hG4 := hG3.below hb4
  have hC4 := hC3.below hb4
  have h4 := h3.below hb4
  have hS4 := hS3.below hb4
  have hb14 := hb3.trans (hb4.mono hb3.size)
  have r0 := hB4.cell 0
  have r1 := hB4.cell 1
  have s0 := hG4.cell 0
  have s1 := hG4.cell 1
  have q0 := hC4.cell 0
  have q1 := hC4.cell 1
  have hsub := (h4.take (m := n) (by omega)).cut (m := n) (by omega)
  rw [if_pos rfl, Nat.sub_self] at hsub
  have e1 : (n : Int) ≤ (n : Int) := by omega
  have e2 : (n : Int) ≤ (n : Int) := by omega
  have e3 : (n : Int) ≤ (n : Int) := by omega
  have hKeep := Lib.hid (fun (wx : World) (hb : Below w4.heap.size w4 wx) => show wx.cell? ⟨w.heap.size, 0, none⟩ = some (.int .i64 rate) ∧ wx.cell? ⟨w.heap.size, 1, none⟩ = some (.slice (some ad) n n) ∧ wx.cell? ⟨w.heap.size + 1, 0, none⟩ = some (.int .i64 (n : Int)) ∧ wx.cell? ⟨w.heap.size + 1, 1, none⟩ = some (.int .i64 (n : Int)) ∧ wx.cell? ⟨w2.heap.size, 0, none⟩ = some (.int .i64 rate) ∧ wx.cell? ⟨w2.heap.size, 1, none⟩ = some (.slice A2 m2 c2) from ⟨(hB4.below hb).cell 0, (hB4.below hb).cell 1, (hG4.below hb).cell 0, (hG4.below hb).cell 1, (hC4.below hb).cell 0, (hC4.below hb).cell 1⟩)
  have hbd : Below w4.heap.size w4 (w4.drewN 1) := bel_drewN (Below.refl _ _) 1
  have hbr : Below w4.heap.size w4 w4 := Below.refl _ _
  have hSd := hS4.drewN 1
  have hsubd := hsub.drewN 1
  have rr : (rate == rate) = true := beq_self_eq_true rate
  go_wp2_with fail
  go_region_held3 (fun wx => wx.cell? ⟨w.heap.size, 0, none⟩ = some (.int .i64 rate) ∧ wx.cell? ⟨w.heap.size, 1, none⟩ = some (.slice (some ad) n n) ∧ wx.cell? ⟨w.heap.size + 1, 0, none⟩ = some (.int .i64 (n : Int)) ∧ wx.cell? ⟨w.heap.size + 1, 1, none⟩ = some (.int .i64 (n : Int)) ∧ wx.cell? ⟨w2.heap.size, 0, none⟩ = some (.int .i64 rate) ∧ wx.cell? ⟨w2.heap.size, 1, none⟩ = some (.slice A2 m2 c2)) (first | exact hKeep.out _ hbr | exact hKeep.out _ hbd | exact hKeep.out _ hb5 | exact hKeep.out _ hb47 | go_keep)
    (first
      | (go_at_call 30; refine (Same_any _ _ _ _ _ _ _ _ _ hSd hsubd).mono ?_; rintro e w5 ⟨k5, he, rfl⟩; rw [sameB_yes rfl] at he; subst he; have hb5 : Below w4.heap.size w4 (w4.drewN (1 + k5)) := bel_drewN hbr (1 + k5))
      | (go_at_call 22; refine (known_any _).mono ?_; rintro e w7 ⟨rfl, hb7⟩; have hb47 : Below w4.heap.size w4 w7 := hb5.trans (hb7.mono hb5.size)))
  all_goals
    go_wp2
    go_ret
    exact ⟨rfl, hb14.trans (hb47.mono hb14.size)⟩

set_option maxHeartbeats 3200000 in
set_option maxRecDepth 100000 in
theorem cl_oknone (rate : Int)  (n c : Nat) (xs : List Int) (i j : Nat) (w : World) (h : Sl .i64 w none n c xs) (hn : shB n = true) (hk : chkR rate xs = 0) (hij : i ≤ j) (hjn : j ≤ n) (hn2 : n ≤ 200000) :
    Calls Try.prog 19 #[.agg #[.int .i64 rate, .slice none n c], .agg #[.int .i64 (i : Int), .int .i64 (j : Int)]] w (YesC w) := by
  have hs := Lib.hid hn
  clear hn
  have hcap := h.cap
  have htop := h.top
  have hl := Lib.hid h.len
  have hclip := Lib.hid (fun (w9 : World) (h9 : Sl .i64 w9 none n c xs) => Clip_none rate n c xs i j w9 h9 hij hjn hn2 hk)
  have hk := Lib.hid hk
  have hB1 := (Blk.new w 24 #[.int .i64 rate, .slice none n c]).alloc (.cells #[.int .i64 (i : Int), .int .i64 (j : Int)] 84)
  have hG1 := Blk.new (w.alloc (.cells #[.int .i64 rate, .slice none n c] 24)) 84 #[.int .i64 (i : Int), .int .i64 (j : Int)]
  rw [show (w.alloc (.cells #[.int .i64 rate, .slice none n c] 24)).heap.size = w.heap.size + 1 from by simp] at hG1
  have hb1 := ((Below.refl w.heap.size w).alloc (Nat.le_refl _) (.cells #[.int .i64 rate, .slice none n c] 24)).alloc (by simp) (.cells #[.int .i64 (i : Int), .int .i64 (j : Int)] 84)
  have h1 := h.below hb1
  go_enter Try.func19, Try.ntmps19
  go_wp2_with fail
  change Calls _ _ _ ((w.alloc (.cells #[.int .i64 rate, .slice none n c] 24)).alloc (.cells #[.int .i64 (i : Int), .int .i64 (j : Int)] 84)) _
  generalize (w.alloc (.cells #[.int .i64 rate, .slice none n c] 24)).alloc (.cells #[.int .i64 (i : Int), .int .i64 (j : Int)] 84) = w1 at *
  refine (short_any _ _).mono ?_
  rintro e w2 ⟨he, rfl⟩
  rw [hs.out] at he
  subst he
  have r0 := hB1.cell 0
  have r1 := hB1.cell 1
  have s0 := hG1.cell 0
  have s1 := hG1.cell 1
  go_wp2_with fail
  refine (hclip.out _ h1).mono ?_
  rintro e w2 ⟨A2, m2, c2, rfl, hS2, hb2⟩
  have hm2 := hS2.len
  clear r0 r1 s0 s1
  have hB2 := hB1.below hb2
  have hG2 := hG1.below hb2
  have h2 := h1.below hb2
  have hb12 := hb1.trans (hb2.mono hb1.size)
  have hC3 := Blk.new w2 24 #[.int .i64 rate, .slice A2 m2 c2]
  have hB3 := hB2.alloc (.cells #[.int .i64 rate, .slice A2 m2 c2] 24)
  have hG3 := hG2.alloc (.cells #[.int .i64 rate, .slice A2 m2 c2] 24)
  have h3 := h2.alloc (.cells #[.int .i64 rate, .slice A2 m2 c2] 24)
  have hS3 := hS2.alloc (.cells #[.int .i64 rate, .slice A2 m2 c2] 24)
  have hb3 := hb12.alloc hb12.size (.cells #[.int .i64 rate, .slice A2 m2 c2] 24)
  have r0 : (w2.alloc (.cells #[.int .i64 rate, .slice A2 m2 c2] 24)).cell? ⟨w.heap.size, 0, none⟩ = some (.int .i64 rate) := hB3.cell 0
  have r1 : (w2.alloc (.cells #[.int .i64 rate, .slice A2 m2 c2] 24)).cell? ⟨w.heap.size, 1, none⟩ = some (.slice none n c) := hB3.cell 1
  go_wp2_with fail
  generalize w2.alloc (.cells #[.int .i64 rate, .slice A2 m2 c2] 24) = w3 at *
  refine (RWrong_any _ _ _ _ _ _ h3).mono ?_
  rintro e w4 ⟨he, hb4⟩
  rw [hk.out] at he
  subst he
  clear r0 r1
  have hB4 := hB3.below hb4
  have hG4 := hG3.below hb4
  have hC4 := hC3.below hb4
  have h4 := h3.below hb4
  have hS4 := hS3.below hb4
  have hb14 := hb3.trans (hb4.mono hb3.size)
  have r0 := hB4.cell 0
  have r1 := hB4.cell 1
  have s0 := hG4.cell 0
  have s1 := hG4.cell 1
  have q0 := hC4.cell 0
  have q1 := hC4.cell 1
  have hsub := (h4.take (m := j) (by omega)).cut (m := i) (by omega)
  rw [show (if c = i then (none : Option Addr) else Option.map (fun q : Addr => q.add i) none) = none by split <;> rfl] at hsub
  have e1 : (i : Int) ≤ (j : Int) := by omega
  have e2 : (j : Int) ≤ (n : Int) := by omega
  have e3 : (j : Int) ≤ (c : Int) := by omega
  have hKeep := Lib.hid (fun (wx : World) (hb : Below w4.heap.size w4 wx) => show wx.cell? ⟨w.heap.size, 0, none⟩ = some (.int .i64 rate) ∧ wx.cell? ⟨w.heap.size, 1, none⟩ = some (.slice none n c) ∧ wx.cell? ⟨w.heap.size + 1, 0, none⟩ = some (.int .i64 (i : Int)) ∧ wx.cell? ⟨w.heap.size + 1, 1, none⟩ = some (.int .i64 (j : Int)) ∧ wx.cell? ⟨w2.heap.size, 0, none⟩ = some (.int .i64 rate) ∧ wx.cell? ⟨w2.heap.size, 1, none⟩ = some (.slice A2 m2 c2) from ⟨(hB4.below hb).cell 0, (hB4.below hb).cell 1, (hG4.below hb).cell 0, (hG4.below hb).cell 1, (hC4.below hb).cell 0, (hC4.below hb).cell 1⟩)
  have hbd : Below w4.heap.size w4 (w4.drewN 1) := bel_drewN (Below.refl _ _) 1
  have hbr : Below w4.heap.size w4 w4 := Below.refl _ _
  have hSd := hS4.drewN 1
  have hsubd := hsub.drewN 1
  have rr : (rate == rate) = true := beq_self_eq_true rate
  go_wp2_with fail
  go_region_held3 (fun wx => wx.cell? ⟨w.heap.size, 0, none⟩ = some (.int .i64 rate) ∧ wx.cell? ⟨w.heap.size, 1, none⟩ = some (.slice none n c) ∧ wx.cell? ⟨w.heap.size + 1, 0, none⟩ = some (.int .i64 (i : Int)) ∧ wx.cell? ⟨w.heap.size + 1, 1, none⟩ = some (.int .i64 (j : Int)) ∧ wx.cell? ⟨w2.heap.size, 0, none⟩ = some (.int .i64 rate) ∧ wx.cell? ⟨w2.heap.size, 1, none⟩ = some (.slice A2 m2 c2)) (first | exact hKeep.out _ hbr | exact hKeep.out _ hbd | exact hKeep.out _ hb5 | exact hKeep.out _ hb47 | go_keep)
    (first
      | (go_at_call 30; refine (Same_any _ _ _ _ _ _ _ _ _ hSd hsubd).mono ?_; rintro e w5 ⟨k5, he, rfl⟩; rw [sameB_yes rfl] at he; subst he; have hb5 : Below w4.heap.size w4 (w4.drewN (1 + k5)) := bel_drewN hbr (1 + k5))
      | (go_at_call 22; refine (known_any _).mono ?_; rintro e w7 ⟨rfl, hb7⟩; have hb47 : Below w4.heap.size w4 w7 := hb5.trans (hb7.mono hb5.size)))
  all_goals
    go_wp2
    go_ret
    exact ⟨rfl, hb14.trans (hb47.mono hb14.size)⟩

theorem clips_any (rate : Int) (A : Option Addr) (n c : Nat) (xs : List Int) (a b : Int) (w : World) (h : Sl .i64 w A n c xs) :
    Calls Try.prog 19 #[.agg #[.int .i64 rate, .slice A n c], .agg #[.int .i64 a, .int .i64 b]] w (YesC w) := by
  cases hn : shB n with
  | false => exact cl_skip rate A n c xs a b w h hn
  | true =>
    rcases chkR_cases rate xs with ⟨hk, hn2, _⟩ | hk | hk
    · rw [h.len] at hn2
      by_cases h5 : a < 0
      · refine cl_seg1 rate A n c xs a b w h hn hk ?_ h5
        cases hc : okB 0 n b with
        | false => exact .inl rfl
        | true => exact .inr ⟨rfl, okB_lo (by omega)⟩
      · by_cases h6 : b < a
        · refine cl_seg2 rate A n c xs a b w h hn hk ?_ h5 h6
          cases hc : okB 0 n b with
          | false => exact .inl rfl
          | true => exact .inr ⟨rfl, okB_hi (by omega)⟩
        · by_cases h7 : (n : Int) < b
          · exact cl_seg3 rate A n c xs a b w h hn hk (.inl (okB_hi (by omega))) h5 h6 h7
          · obtain ⟨i, rfl⟩ : ∃ i : Nat, a = (i : Int) := ⟨a.toNat, by omega⟩
            obtain ⟨j, rfl⟩ : ∃ j : Nat, b = (j : Int) := ⟨b.toNat, by omega⟩
            cases A with
            | none => exact cl_oknone rate n c xs i j w h hn hk (by omega) (by omega) hn2
            | some ad =>
              have hcap := h.cap
              by_cases hci : c = i
              · obtain rfl : n = c := by omega
                obtain rfl : n = i := hci
                obtain rfl : n = j := by omega
                exact cl_okend rate ad n xs w h hn hk hn2
              · exact cl_oksome rate ad n c xs i j w h hn hk (by omega) (by omega) hci hn2
    · exact cl_bad rate A n c xs a b w h hn 2 hk rfl
    · exact cl_bad rate A n c xs a b w h hn 5 hk rfl
end Go.Proofs.Ytnkkbohfhinemaa
