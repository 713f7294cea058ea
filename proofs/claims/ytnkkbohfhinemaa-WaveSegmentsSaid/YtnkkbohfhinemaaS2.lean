/- The segments: the law's walk. -/
import Derived.Test.YtnkkbohfhinemaaS1
import Derived.Test.YtnkkbohfhinemaaF0
import Derived.Test.YtnkkbohfhinemaaS0
import Derived.Test.YtnkkbohfhinemaaK3
namespace Go.Proofs.Ytnkkbohfhinemaa
open Go.RowKit

abbrev Yes (w : World) (e : Ending) (w' : World) : Prop := e = .returned (.bool true) ∧ Below w.heap.size w w'

set_option maxHeartbeats 3200000 in
theorem segs_skip (b h l r f d x : Int) (A : Option Addr) (n c : Nat) (xs : List Int) (w : World) (hS : Sl .i64 w A n c xs) (hn : shB n = false) :
    Calls Try.prog 15 #[.slice A n c, gtV b h l r f d x] w (Yes w) := by
  have hcap := hS.cap
  have htop := hS.top
  have hl := Lib.hid hS.len
  have hs := Lib.hid hn
  clear hn
  unfold gtV
  go_enter Try.func15, Try.ntmps15
  go_wp2_with fail
  have hg : Blk (w.alloc (.cells #[.int .i64 b, .int .i64 h, .int .i64 l, .int .i64 r, .int .i64 f, .int .i64 d, .int .i64 x] 65)) w.heap.size 65 #[.int .i64 b, .int .i64 h, .int .i64 l, .int .i64 r, .int .i64 f, .int .i64 d, .int .i64 x] := Blk.new w _ _
  have hS1 := hS.alloc (.cells #[.int .i64 b, .int .i64 h, .int .i64 l, .int .i64 r, .int .i64 f, .int .i64 d, .int .i64 x] 65)
  have hb1 : Below w.heap.size w (w.alloc (.cells #[.int .i64 b, .int .i64 h, .int .i64 l, .int .i64 r, .int .i64 f, .int .i64 d, .int .i64 x] 65)) := (Below.refl _ _).alloc (Nat.le_refl _) _
  change Calls _ _ _ (w.alloc (.cells #[.int .i64 b, .int .i64 h, .int .i64 l, .int .i64 r, .int .i64 f, .int .i64 d, .int .i64 x] 65)) _
  generalize w.alloc (.cells #[.int .i64 b, .int .i64 h, .int .i64 l, .int .i64 r, .int .i64 f, .int .i64 d, .int .i64 x] 65) = w1 at *
  refine (short_any _ _).mono ?_
  rintro e w2 ⟨he, rfl⟩
  rw [hs.out] at he
  subst he
  have cl0 : w1.cell? ⟨w.heap.size, 0, none⟩ = some (.int .i64 b) := hg.cell 0
  have cl1 : w1.cell? ⟨w.heap.size, 1, none⟩ = some (.int .i64 h) := hg.cell 1
  have cl2 : w1.cell? ⟨w.heap.size, 2, none⟩ = some (.int .i64 l) := hg.cell 2
  have cl3 : w1.cell? ⟨w.heap.size, 3, none⟩ = some (.int .i64 r) := hg.cell 3
  have cl4 : w1.cell? ⟨w.heap.size, 4, none⟩ = some (.int .i64 f) := hg.cell 4
  have cl5 : w1.cell? ⟨w.heap.size, 5, none⟩ = some (.int .i64 d) := hg.cell 5
  have cl6 : w1.cell? ⟨w.heap.size, 6, none⟩ = some (.int .i64 x) := hg.cell 6
  go_wp2_with fail
  refine (known_any _).mono ?_
  rintro e w7 ⟨rfl, hb7⟩
  go_wp2
  go_ret
  exact ⟨rfl, hb1.trans (hb7.mono hb1.size)⟩

set_option maxHeartbeats 3200000 in
theorem segs_long (b h l r f d x : Int) (A : Option Addr) (n c : Nat) (xs : List Int) (w : World) (hS : Sl .i64 w A n c xs) (hn : shB n = true) (hn2 : 200000 < n) :
    Calls Try.prog 15 #[.slice A n c, gtV b h l r f d x] w (Yes w) := by
  have hcap := hS.cap
  have htop := hS.top
  have hl := Lib.hid hS.len
  have hs := Lib.hid hn
  clear hn
  unfold gtV
  go_enter Try.func15, Try.ntmps15
  go_wp2_with fail
  have hg : Blk (w.alloc (.cells #[.int .i64 b, .int .i64 h, .int .i64 l, .int .i64 r, .int .i64 f, .int .i64 d, .int .i64 x] 65)) w.heap.size 65 #[.int .i64 b, .int .i64 h, .int .i64 l, .int .i64 r, .int .i64 f, .int .i64 d, .int .i64 x] := Blk.new w _ _
  have hS1 := hS.alloc (.cells #[.int .i64 b, .int .i64 h, .int .i64 l, .int .i64 r, .int .i64 f, .int .i64 d, .int .i64 x] 65)
  have hb1 : Below w.heap.size w (w.alloc (.cells #[.int .i64 b, .int .i64 h, .int .i64 l, .int .i64 r, .int .i64 f, .int .i64 d, .int .i64 x] 65)) := (Below.refl _ _).alloc (Nat.le_refl _) _
  change Calls _ _ _ (w.alloc (.cells #[.int .i64 b, .int .i64 h, .int .i64 l, .int .i64 r, .int .i64 f, .int .i64 d, .int .i64 x] 65)) _
  generalize w.alloc (.cells #[.int .i64 b, .int .i64 h, .int .i64 l, .int .i64 r, .int .i64 f, .int .i64 d, .int .i64 x] 65) = w1 at *
  refine (short_any _ _).mono ?_
  rintro e w2 ⟨he, rfl⟩
  rw [hs.out] at he
  subst he
  have cl0 : w1.cell? ⟨w.heap.size, 0, none⟩ = some (.int .i64 b) := hg.cell 0
  have cl1 : w1.cell? ⟨w.heap.size, 1, none⟩ = some (.int .i64 h) := hg.cell 1
  have cl2 : w1.cell? ⟨w.heap.size, 2, none⟩ = some (.int .i64 l) := hg.cell 2
  have cl3 : w1.cell? ⟨w.heap.size, 3, none⟩ = some (.int .i64 r) := hg.cell 3
  have cl4 : w1.cell? ⟨w.heap.size, 4, none⟩ = some (.int .i64 f) := hg.cell 4
  have cl5 : w1.cell? ⟨w.heap.size, 5, none⟩ = some (.int .i64 d) := hg.cell 5
  have cl6 : w1.cell? ⟨w.heap.size, 6, none⟩ = some (.int .i64 x) := hg.cell 6
  go_wp2_with fail
  refine (Segments_long _ b h l r f d x rfl A n c xs _ hS1 hn2).mono ?_
  rintro e w3 ⟨A3, n3, c3, rfl, hG3, hb3⟩
  have hg3 := hg.below hb3
  clear cl0 cl1 cl2 cl3 cl4 cl5 cl6
  have cl0 : w3.cell? ⟨w.heap.size, 0, none⟩ = some (.int .i64 b) := hg3.cell 0
  have cl1 : w3.cell? ⟨w.heap.size, 1, none⟩ = some (.int .i64 h) := hg3.cell 1
  have cl2 : w3.cell? ⟨w.heap.size, 2, none⟩ = some (.int .i64 l) := hg3.cell 2
  have cl3 : w3.cell? ⟨w.heap.size, 3, none⟩ = some (.int .i64 r) := hg3.cell 3
  have cl4 : w3.cell? ⟨w.heap.size, 4, none⟩ = some (.int .i64 f) := hg3.cell 4
  have cl5 : w3.cell? ⟨w.heap.size, 5, none⟩ = some (.int .i64 d) := hg3.cell 5
  have cl6 : w3.cell? ⟨w.heap.size, 6, none⟩ = some (.int .i64 x) := hg3.cell 6
  have hS3 := hS1.below hb3
  have hb13 := hb1.trans (hb3.mono hb1.size)
  have hl3 := Lib.hid hG3.len
  have hz : n3 = 0 := hl3.out.symm
  subst hz
  go_wp2_with fail
  refine (known_any _).mono ?_
  rintro e w7 ⟨rfl, hb7⟩
  go_wp2
  go_ret
  exact ⟨rfl, hb13.trans (hb7.mono hb13.size)⟩

set_option maxHeartbeats 3200000 in
theorem segs_gate (b h l r f d x : Int) (A : Option Addr) (n c : Nat) (xs : List Int) (w : World) (hS : Sl .i64 w A n c xs) (hn : shB n = true) (hn2 : n ≤ 200000) (hv : gtB b h l r f d x = false) :
    Calls Try.prog 15 #[.slice A n c, gtV b h l r f d x] w (Yes w) := by
  have hcap := hS.cap
  have htop := hS.top
  have hl := Lib.hid hS.len
  have hs := Lib.hid hn
  clear hn
  have hv2 := Lib.hid hv
  unfold gtV
  go_enter Try.func15, Try.ntmps15
  go_wp2_with fail
  have hg : Blk (w.alloc (.cells #[.int .i64 b, .int .i64 h, .int .i64 l, .int .i64 r, .int .i64 f, .int .i64 d, .int .i64 x] 65)) w.heap.size 65 #[.int .i64 b, .int .i64 h, .int .i64 l, .int .i64 r, .int .i64 f, .int .i64 d, .int .i64 x] := Blk.new w _ _
  have hS1 := hS.alloc (.cells #[.int .i64 b, .int .i64 h, .int .i64 l, .int .i64 r, .int .i64 f, .int .i64 d, .int .i64 x] 65)
  have hb1 : Below w.heap.size w (w.alloc (.cells #[.int .i64 b, .int .i64 h, .int .i64 l, .int .i64 r, .int .i64 f, .int .i64 d, .int .i64 x] 65)) := (Below.refl _ _).alloc (Nat.le_refl _) _
  change Calls _ _ _ (w.alloc (.cells #[.int .i64 b, .int .i64 h, .int .i64 l, .int .i64 r, .int .i64 f, .int .i64 d, .int .i64 x] 65)) _
  generalize w.alloc (.cells #[.int .i64 b, .int .i64 h, .int .i64 l, .int .i64 r, .int .i64 f, .int .i64 d, .int .i64 x] 65) = w1 at *
  refine (short_any _ _).mono ?_
  rintro e w2 ⟨he, rfl⟩
  rw [hs.out] at he
  subst he
  have cl0 : w1.cell? ⟨w.heap.size, 0, none⟩ = some (.int .i64 b) := hg.cell 0
  have cl1 : w1.cell? ⟨w.heap.size, 1, none⟩ = some (.int .i64 h) := hg.cell 1
  have cl2 : w1.cell? ⟨w.heap.size, 2, none⟩ = some (.int .i64 l) := hg.cell 2
  have cl3 : w1.cell? ⟨w.heap.size, 3, none⟩ = some (.int .i64 r) := hg.cell 3
  have cl4 : w1.cell? ⟨w.heap.size, 4, none⟩ = some (.int .i64 f) := hg.cell 4
  have cl5 : w1.cell? ⟨w.heap.size, 5, none⟩ = some (.int .i64 d) := hg.cell 5
  have cl6 : w1.cell? ⟨w.heap.size, 6, none⟩ = some (.int .i64 x) := hg.cell 6
  go_wp2_with fail
  refine (Segments_gate b h l r f d x hv2.out A n c xs _ hS1 hn2).mono ?_
  rintro e w3 ⟨A3, n3, c3, rfl, hG3, hb3⟩
  have hg3 := hg.below hb3
  clear cl0 cl1 cl2 cl3 cl4 cl5 cl6
  have cl0 : w3.cell? ⟨w.heap.size, 0, none⟩ = some (.int .i64 b) := hg3.cell 0
  have cl1 : w3.cell? ⟨w.heap.size, 1, none⟩ = some (.int .i64 h) := hg3.cell 1
  have cl2 : w3.cell? ⟨w.heap.size, 2, none⟩ = some (.int .i64 l) := hg3.cell 2
  have cl3 : w3.cell? ⟨w.heap.size, 3, none⟩ = some (.int .i64 r) := hg3.cell 3
  have cl4 : w3.cell? ⟨w.heap.size, 4, none⟩ = some (.int .i64 f) := hg3.cell 4
  have cl5 : w3.cell? ⟨w.heap.size, 5, none⟩ = some (.int .i64 d) := hg3.cell 5
  have cl6 : w3.cell? ⟨w.heap.size, 6, none⟩ = some (.int .i64 x) := hg3.cell 6
  have hS3 := hS1.below hb3
  have hb13 := hb1.trans (hb3.mono hb1.size)
  have hl3 := Lib.hid hG3.len
  have hz : n3 = 0 := hl3.out.symm
  subst hz
  go_wp2_with fail
  refine (RGate_any b h l r f d x _).mono ?_
  rintro e w4 ⟨he, hb4⟩
  rw [hv2.out] at he
  subst he
  have hb14 := hb13.trans (hb4.mono hb13.size)
  go_wp2_with fail
  refine (known_any _).mono ?_
  rintro e w7 ⟨rfl, hb7⟩
  go_wp2
  go_ret
  exact ⟨rfl, hb14.trans (hb7.mono hb14.size)⟩

set_option maxHeartbeats 3200000 in
theorem segs_bad (b h l r f d x : Int) (A : Option Addr) (n c : Nat) (xs : List Int) (w : World) (hS : Sl .i64 w A n c xs) (hn : shB n = true) (hn2 : n ≤ 200000) (hv : gtB b h l r f d x = true) (hx : allB (-32768) 32767 xs = false) :
    Calls Try.prog 15 #[.slice A n c, gtV b h l r f d x] w (Yes w) := by
  have hcap := hS.cap
  have htop := hS.top
  have hl := Lib.hid hS.len
  have hs := Lib.hid hn
  clear hn
  have hv2 := Lib.hid hv
  have hx2 := Lib.hid hx
  clear hv hx
  unfold gtV
  go_enter Try.func15, Try.ntmps15
  go_wp2_with fail
  have hg : Blk (w.alloc (.cells #[.int .i64 b, .int .i64 h, .int .i64 l, .int .i64 r, .int .i64 f, .int .i64 d, .int .i64 x] 65)) w.heap.size 65 #[.int .i64 b, .int .i64 h, .int .i64 l, .int .i64 r, .int .i64 f, .int .i64 d, .int .i64 x] := Blk.new w _ _
  have hS1 := hS.alloc (.cells #[.int .i64 b, .int .i64 h, .int .i64 l, .int .i64 r, .int .i64 f, .int .i64 d, .int .i64 x] 65)
  have hb1 : Below w.heap.size w (w.alloc (.cells #[.int .i64 b, .int .i64 h, .int .i64 l, .int .i64 r, .int .i64 f, .int .i64 d, .int .i64 x] 65)) := (Below.refl _ _).alloc (Nat.le_refl _) _
  change Calls _ _ _ (w.alloc (.cells #[.int .i64 b, .int .i64 h, .int .i64 l, .int .i64 r, .int .i64 f, .int .i64 d, .int .i64 x] 65)) _
  generalize w.alloc (.cells #[.int .i64 b, .int .i64 h, .int .i64 l, .int .i64 r, .int .i64 f, .int .i64 d, .int .i64 x] 65) = w1 at *
  refine (short_any _ _).mono ?_
  rintro e w2 ⟨he, rfl⟩
  rw [hs.out] at he
  subst he
  have cl0 : w1.cell? ⟨w.heap.size, 0, none⟩ = some (.int .i64 b) := hg.cell 0
  have cl1 : w1.cell? ⟨w.heap.size, 1, none⟩ = some (.int .i64 h) := hg.cell 1
  have cl2 : w1.cell? ⟨w.heap.size, 2, none⟩ = some (.int .i64 l) := hg.cell 2
  have cl3 : w1.cell? ⟨w.heap.size, 3, none⟩ = some (.int .i64 r) := hg.cell 3
  have cl4 : w1.cell? ⟨w.heap.size, 4, none⟩ = some (.int .i64 f) := hg.cell 4
  have cl5 : w1.cell? ⟨w.heap.size, 5, none⟩ = some (.int .i64 d) := hg.cell 5
  have cl6 : w1.cell? ⟨w.heap.size, 6, none⟩ = some (.int .i64 x) := hg.cell 6
  obtain ⟨G, hG, eb, eh, el, er, ef, ed, ex⟩ := gtB_ok hv2.out
  have hcall := Lib.hid (Segments_bad G hG A n c xs _ hS1 hn2 hx2.out)
  unfold gval gtV at hcall
  rw [← eb, ← eh, ← el, ← er, ← ef, ← ed, ← ex] at hcall
  clear eb eh el er ef ed ex
  go_wp2_with fail
  refine (hcall.out).mono ?_
  rintro e w3 ⟨A3, n3, c3, rfl, hG3, hb3⟩
  have hg3 := hg.below hb3
  clear cl0 cl1 cl2 cl3 cl4 cl5 cl6
  have cl0 : w3.cell? ⟨w.heap.size, 0, none⟩ = some (.int .i64 b) := hg3.cell 0
  have cl1 : w3.cell? ⟨w.heap.size, 1, none⟩ = some (.int .i64 h) := hg3.cell 1
  have cl2 : w3.cell? ⟨w.heap.size, 2, none⟩ = some (.int .i64 l) := hg3.cell 2
  have cl3 : w3.cell? ⟨w.heap.size, 3, none⟩ = some (.int .i64 r) := hg3.cell 3
  have cl4 : w3.cell? ⟨w.heap.size, 4, none⟩ = some (.int .i64 f) := hg3.cell 4
  have cl5 : w3.cell? ⟨w.heap.size, 5, none⟩ = some (.int .i64 d) := hg3.cell 5
  have cl6 : w3.cell? ⟨w.heap.size, 6, none⟩ = some (.int .i64 x) := hg3.cell 6
  have hS3 := hS1.below hb3
  have hb13 := hb1.trans (hb3.mono hb1.size)
  have hl3 := Lib.hid hG3.len
  have hz : n3 = 0 := hl3.out.symm
  subst hz
  go_wp2_with fail
  refine (RGate_any b h l r f d x _).mono ?_
  rintro e w4 ⟨he, hb4⟩
  rw [hv2.out] at he
  subst he
  have hb14 := hb13.trans (hb4.mono hb13.size)
  have hS4 := hS3.below hb4
  go_wp2_with fail
  refine (All_any _ _ _ _ _ _ _ hS4).mono ?_
  rintro e w5 ⟨he, rfl⟩
  rw [hx2.out] at he
  subst he
  go_wp2_with fail
  refine (known_any _).mono ?_
  rintro e w7 ⟨rfl, hb7⟩
  go_wp2
  go_ret
  exact ⟨rfl, hb14.trans (hb7.mono hb14.size)⟩

set_option maxHeartbeats 3200000 in
theorem segs_ok (b h l r f d x : Int) (A : Option Addr) (n c : Nat) (xs : List Int) (w : World) (hS : Sl .i64 w A n c xs) (hn : shB n = true) (hn2 : n ≤ 200000) (hv : gtB b h l r f d x = true) (hx : allB (-32768) 32767 xs = true) :
    Calls Try.prog 15 #[.slice A n c, gtV b h l r f d x] w (Yes w) := by
  have hcap := hS.cap
  have htop := hS.top
  have hl := Lib.hid hS.len
  have hs := Lib.hid hn
  clear hn
  have hv2 := Lib.hid hv
  have hx2 := Lib.hid hx
  clear hv hx
  unfold gtV
  go_enter Try.func15, Try.ntmps15
  go_wp2_with fail
  have hg : Blk (w.alloc (.cells #[.int .i64 b, .int .i64 h, .int .i64 l, .int .i64 r, .int .i64 f, .int .i64 d, .int .i64 x] 65)) w.heap.size 65 #[.int .i64 b, .int .i64 h, .int .i64 l, .int .i64 r, .int .i64 f, .int .i64 d, .int .i64 x] := Blk.new w _ _
  have hS1 := hS.alloc (.cells #[.int .i64 b, .int .i64 h, .int .i64 l, .int .i64 r, .int .i64 f, .int .i64 d, .int .i64 x] 65)
  have hb1 : Below w.heap.size w (w.alloc (.cells #[.int .i64 b, .int .i64 h, .int .i64 l, .int .i64 r, .int .i64 f, .int .i64 d, .int .i64 x] 65)) := (Below.refl _ _).alloc (Nat.le_refl _) _
  change Calls _ _ _ (w.alloc (.cells #[.int .i64 b, .int .i64 h, .int .i64 l, .int .i64 r, .int .i64 f, .int .i64 d, .int .i64 x] 65)) _
  generalize w.alloc (.cells #[.int .i64 b, .int .i64 h, .int .i64 l, .int .i64 r, .int .i64 f, .int .i64 d, .int .i64 x] 65) = w1 at *
  refine (short_any _ _).mono ?_
  rintro e w2 ⟨he, rfl⟩
  rw [hs.out] at he
  subst he
  have cl0 : w1.cell? ⟨w.heap.size, 0, none⟩ = some (.int .i64 b) := hg.cell 0
  have cl1 : w1.cell? ⟨w.heap.size, 1, none⟩ = some (.int .i64 h) := hg.cell 1
  have cl2 : w1.cell? ⟨w.heap.size, 2, none⟩ = some (.int .i64 l) := hg.cell 2
  have cl3 : w1.cell? ⟨w.heap.size, 3, none⟩ = some (.int .i64 r) := hg.cell 3
  have cl4 : w1.cell? ⟨w.heap.size, 4, none⟩ = some (.int .i64 f) := hg.cell 4
  have cl5 : w1.cell? ⟨w.heap.size, 5, none⟩ = some (.int .i64 d) := hg.cell 5
  have cl6 : w1.cell? ⟨w.heap.size, 6, none⟩ = some (.int .i64 x) := hg.cell 6
  obtain ⟨G, hG, eb, eh, el, er, ef, ed, ex⟩ := gtB_ok hv2.out
  have hcall := Lib.hid (Segments_ok G hG A n c xs _ hS1 hn2 hx2.out)
  unfold gval gtV at hcall
  rw [← eb, ← eh, ← el, ← er, ← ef, ← ed, ← ex] at hcall
  have hR := Lib.hid (fun (w9 : World) (h9 : Sl .i64 w9 A n c xs) => RSegments_any true G hG A n c xs w9 h9 hn2 (allB_mem hx2.out))
  unfold gval gtV at hR
  rw [← eb, ← eh, ← el, ← er, ← ef, ← ed, ← ex] at hR
  clear eb eh el er ef ed ex
  go_wp2_with fail
  refine (hcall.out).mono ?_
  rintro e w3 ⟨A3, n3, c3, rfl, hG3, hb3⟩
  have hg3 := hg.below hb3
  clear cl0 cl1 cl2 cl3 cl4 cl5 cl6
  have cl0 : w3.cell? ⟨w.heap.size, 0, none⟩ = some (.int .i64 b) := hg3.cell 0
  have cl1 : w3.cell? ⟨w.heap.size, 1, none⟩ = some (.int .i64 h) := hg3.cell 1
  have cl2 : w3.cell? ⟨w.heap.size, 2, none⟩ = some (.int .i64 l) := hg3.cell 2
  have cl3 : w3.cell? ⟨w.heap.size, 3, none⟩ = some (.int .i64 r) := hg3.cell 3
  have cl4 : w3.cell? ⟨w.heap.size, 4, none⟩ = some (.int .i64 f) := hg3.cell 4
  have cl5 : w3.cell? ⟨w.heap.size, 5, none⟩ = some (.int .i64 d) := hg3.cell 5
  have cl6 : w3.cell? ⟨w.heap.size, 6, none⟩ = some (.int .i64 x) := hg3.cell 6
  have hS3 := hS1.below hb3
  have hb13 := hb1.trans (hb3.mono hb1.size)
  have hl3 := Lib.hid hG3.len
  go_wp2_with fail
  refine (RGate_any b h l r f d x _).mono ?_
  rintro e w4 ⟨he, hb4⟩
  rw [hv2.out] at he
  subst he
  have hb14 := hb13.trans (hb4.mono hb13.size)
  have hg4 := hg3.below hb4
  clear cl0 cl1 cl2 cl3 cl4 cl5 cl6
  have cl0 : w4.cell? ⟨w.heap.size, 0, none⟩ = some (.int .i64 b) := hg4.cell 0
  have cl1 : w4.cell? ⟨w.heap.size, 1, none⟩ = some (.int .i64 h) := hg4.cell 1
  have cl2 : w4.cell? ⟨w.heap.size, 2, none⟩ = some (.int .i64 l) := hg4.cell 2
  have cl3 : w4.cell? ⟨w.heap.size, 3, none⟩ = some (.int .i64 r) := hg4.cell 3
  have cl4 : w4.cell? ⟨w.heap.size, 4, none⟩ = some (.int .i64 f) := hg4.cell 4
  have cl5 : w4.cell? ⟨w.heap.size, 5, none⟩ = some (.int .i64 d) := hg4.cell 5
  have cl6 : w4.cell? ⟨w.heap.size, 6, none⟩ = some (.int .i64 x) := hg4.cell 6
  have hG4 := hG3.below hb4
  have hS4 := hS3.below hb4
  go_wp2_with fail
  refine (All_any _ _ _ _ _ _ _ hS4).mono ?_
  rintro e w5 ⟨he, rfl⟩
  rw [hx2.out] at he
  subst he
  go_wp2_with fail
  refine (hR.out _ hS4).mono ?_
  rintro e w6 ⟨V, rfl, hown, hb6⟩
  obtain ⟨A6, c6, rfl, hG6⟩ := Sg.own hown
  have hb16 := hb14.trans (hb6.mono hb14.size)
  have hG46 := hG4.below hb6
  go_wp2_with fail
  refine (SameSegments_any _ _ _ _ _ _ _ _ _ hG46 hG6).mono ?_
  rintro e w8 ⟨k8, he, rfl⟩
  rw [sameP_yes (show segs G xs ++ lastS G xs = rsg true G xs from rfl)] at he
  subst he
  have hb18 := bel_drewN hb16 k8
  generalize w6.drewN k8 = w8 at *
  go_wp2_with fail
  refine (known_any _).mono ?_
  rintro e w7 ⟨rfl, hb7⟩
  go_wp2
  go_ret
  exact ⟨rfl, hb18.trans (hb7.mono hb18.size)⟩

theorem segments_any (A : Option Addr) (n c : Nat) (xs : List Int) (b h l r f d x : Int) (w : World) (hS : Sl .i64 w A n c xs) :
    Calls Try.prog 15 #[.slice A n c, gtV b h l r f d x] w (Yes w) := by
  cases hn : shB n with
  | false => exact segs_skip b h l r f d x A n c xs w hS hn
  | true =>
    rcases Nat.lt_or_ge 200000 n with hn2 | hn2
    · exact segs_long b h l r f d x A n c xs w hS hn hn2
    · cases hv : gtB b h l r f d x with
      | false => exact segs_gate b h l r f d x A n c xs w hS hn hn2 hv
      | true =>
        cases hx : allB (-32768) 32767 xs with
        | false => exact segs_bad b h l r f d x A n c xs w hS hn hn2 hv hx
        | true => exact segs_ok b h l r f d x A n c xs w hS hn hn2 hv hx
end Go.Proofs.Ytnkkbohfhinemaa
