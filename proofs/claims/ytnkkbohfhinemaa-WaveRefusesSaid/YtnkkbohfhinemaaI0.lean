/- A listener that is fed with something that is no sample: the law's walk. -/
import Derived.Test.YtnkkbohfhinemaaA1
import Derived.Test.YtnkkbohfhinemaaK3
import Derived.Deep.RegionHeld3
namespace Go.Proofs.Ytnkkbohfhinemaa
open Go.RowKit

abbrev YesI (w : World) (e : Ending) (w' : World) : Prop := e = .returned (.bool true) ∧ Below w.heap.size w w'

set_option maxHeartbeats 3200000 in
theorem rf_l0 (A0 : Option Addr) (n0 c0 : Nat) (xs : List Int) (A1 : Option Addr) (n1 c1 : Nat) (ws : List Int) (A2 : Option Addr) (n2 c2 : Nat) (ys : List Int) (b h l r f d x : Int) (w : World) (hS0 : Sl .i64 w A0 n0 c0 xs) (hS1 : Sl .i64 w A1 n1 c1 ws) (hS2 : Sl .i64 w A2 n2 c2 ys) (h0 : 500 < n0) :
    Calls Try.prog 17 #[.slice A0 n0 c0, .slice A1 n1 c1, .slice A2 n2 c2, gtV b h l r f d x] w (YesI w) := by
  have hcap0 := hS0.cap
  have htop0 := hS0.top
  have hcap1 := hS1.cap
  have htop1 := hS1.top
  have hcap2 := hS2.cap
  have htop2 := hS2.top
  have hgV := Lib.hid (fun w => RGate_any b h l r f d x w)
  unfold gtV at hgV ⊢
  have hT0 := hS0.alloc (.cells #[.int .i64 b, .int .i64 h, .int .i64 l, .int .i64 r, .int .i64 f, .int .i64 d, .int .i64 x] 65)
  have hT1 := hS1.alloc (.cells #[.int .i64 b, .int .i64 h, .int .i64 l, .int .i64 r, .int .i64 f, .int .i64 d, .int .i64 x] 65)
  have hT2 := hS2.alloc (.cells #[.int .i64 b, .int .i64 h, .int .i64 l, .int .i64 r, .int .i64 f, .int .i64 d, .int .i64 x] 65)
  have hb1 : Below w.heap.size w (w.alloc (.cells #[.int .i64 b, .int .i64 h, .int .i64 l, .int .i64 r, .int .i64 f, .int .i64 d, .int .i64 x] 65)) := (Below.refl _ _).alloc (Nat.le_refl _) _
  go_enter Try.func17, Try.ntmps17
  go_wp2_with fail
  refine (known_any _).mono ?_
  rintro e w7 ⟨rfl, hb7⟩
  go_wp2
  go_ret
  exact ⟨rfl, hb1.trans (hb7.mono hb1.size)⟩

set_option maxHeartbeats 3200000 in
theorem rf_l1 (A0 : Option Addr) (n0 c0 : Nat) (xs : List Int) (A1 : Option Addr) (n1 c1 : Nat) (ws : List Int) (A2 : Option Addr) (n2 c2 : Nat) (ys : List Int) (b h l r f d x : Int) (w : World) (hS0 : Sl .i64 w A0 n0 c0 xs) (hS1 : Sl .i64 w A1 n1 c1 ws) (hS2 : Sl .i64 w A2 n2 c2 ys) (h0 : n0 ≤ 500) (h1 : 500 < n1) :
    Calls Try.prog 17 #[.slice A0 n0 c0, .slice A1 n1 c1, .slice A2 n2 c2, gtV b h l r f d x] w (YesI w) := by
  have hcap0 := hS0.cap
  have htop0 := hS0.top
  have hcap1 := hS1.cap
  have htop1 := hS1.top
  have hcap2 := hS2.cap
  have htop2 := hS2.top
  have hgV := Lib.hid (fun w => RGate_any b h l r f d x w)
  unfold gtV at hgV ⊢
  have hT0 := hS0.alloc (.cells #[.int .i64 b, .int .i64 h, .int .i64 l, .int .i64 r, .int .i64 f, .int .i64 d, .int .i64 x] 65)
  have hT1 := hS1.alloc (.cells #[.int .i64 b, .int .i64 h, .int .i64 l, .int .i64 r, .int .i64 f, .int .i64 d, .int .i64 x] 65)
  have hT2 := hS2.alloc (.cells #[.int .i64 b, .int .i64 h, .int .i64 l, .int .i64 r, .int .i64 f, .int .i64 d, .int .i64 x] 65)
  have hb1 : Below w.heap.size w (w.alloc (.cells #[.int .i64 b, .int .i64 h, .int .i64 l, .int .i64 r, .int .i64 f, .int .i64 d, .int .i64 x] 65)) := (Below.refl _ _).alloc (Nat.le_refl _) _
  go_enter Try.func17, Try.ntmps17
  go_wp2_with fail
  refine (known_any _).mono ?_
  rintro e w7 ⟨rfl, hb7⟩
  go_wp2
  go_ret
  exact ⟨rfl, hb1.trans (hb7.mono hb1.size)⟩

set_option maxHeartbeats 3200000 in
theorem rf_l2 (A0 : Option Addr) (n0 c0 : Nat) (xs : List Int) (A1 : Option Addr) (n1 c1 : Nat) (ws : List Int) (A2 : Option Addr) (n2 c2 : Nat) (ys : List Int) (b h l r f d x : Int) (w : World) (hS0 : Sl .i64 w A0 n0 c0 xs) (hS1 : Sl .i64 w A1 n1 c1 ws) (hS2 : Sl .i64 w A2 n2 c2 ys) (h0 : n0 ≤ 500) (h1 : n1 ≤ 500) (h2 : 500 < n2) :
    Calls Try.prog 17 #[.slice A0 n0 c0, .slice A1 n1 c1, .slice A2 n2 c2, gtV b h l r f d x] w (YesI w) := by
  have hcap0 := hS0.cap
  have htop0 := hS0.top
  have hcap1 := hS1.cap
  have htop1 := hS1.top
  have hcap2 := hS2.cap
  have htop2 := hS2.top
  have hgV := Lib.hid (fun w => RGate_any b h l r f d x w)
  unfold gtV at hgV ⊢
  have hT0 := hS0.alloc (.cells #[.int .i64 b, .int .i64 h, .int .i64 l, .int .i64 r, .int .i64 f, .int .i64 d, .int .i64 x] 65)
  have hT1 := hS1.alloc (.cells #[.int .i64 b, .int .i64 h, .int .i64 l, .int .i64 r, .int .i64 f, .int .i64 d, .int .i64 x] 65)
  have hT2 := hS2.alloc (.cells #[.int .i64 b, .int .i64 h, .int .i64 l, .int .i64 r, .int .i64 f, .int .i64 d, .int .i64 x] 65)
  have hb1 : Below w.heap.size w (w.alloc (.cells #[.int .i64 b, .int .i64 h, .int .i64 l, .int .i64 r, .int .i64 f, .int .i64 d, .int .i64 x] 65)) := (Below.refl _ _).alloc (Nat.le_refl _) _
  go_enter Try.func17, Try.ntmps17
  go_wp2_with fail
  refine (known_any _).mono ?_
  rintro e w7 ⟨rfl, hb7⟩
  go_wp2
  go_ret
  exact ⟨rfl, hb1.trans (hb7.mono hb1.size)⟩

set_option maxHeartbeats 3200000 in
theorem rf_g (A0 : Option Addr) (n0 c0 : Nat) (xs : List Int) (A1 : Option Addr) (n1 c1 : Nat) (ws : List Int) (A2 : Option Addr) (n2 c2 : Nat) (ys : List Int) (b h l r f d x : Int) (w : World) (hS0 : Sl .i64 w A0 n0 c0 xs) (hS1 : Sl .i64 w A1 n1 c1 ws) (hS2 : Sl .i64 w A2 n2 c2 ys) (h0 : n0 ≤ 500) (h1 : n1 ≤ 500) (h2 : n2 ≤ 500) (hv : gtB b h l r f d x = false) :
    Calls Try.prog 17 #[.slice A0 n0 c0, .slice A1 n1 c1, .slice A2 n2 c2, gtV b h l r f d x] w (YesI w) := by
  have hcap0 := hS0.cap
  have htop0 := hS0.top
  have hcap1 := hS1.cap
  have htop1 := hS1.top
  have hcap2 := hS2.cap
  have htop2 := hS2.top
  have hgV := Lib.hid (fun w => RGate_any b h l r f d x w)
  have hv := Lib.hid hv
  unfold gtV at hgV ⊢
  have hT0 := hS0.alloc (.cells #[.int .i64 b, .int .i64 h, .int .i64 l, .int .i64 r, .int .i64 f, .int .i64 d, .int .i64 x] 65)
  have hT1 := hS1.alloc (.cells #[.int .i64 b, .int .i64 h, .int .i64 l, .int .i64 r, .int .i64 f, .int .i64 d, .int .i64 x] 65)
  have hT2 := hS2.alloc (.cells #[.int .i64 b, .int .i64 h, .int .i64 l, .int .i64 r, .int .i64 f, .int .i64 d, .int .i64 x] 65)
  have hb1 : Below w.heap.size w (w.alloc (.cells #[.int .i64 b, .int .i64 h, .int .i64 l, .int .i64 r, .int .i64 f, .int .i64 d, .int .i64 x] 65)) := (Below.refl _ _).alloc (Nat.le_refl _) _
  go_enter Try.func17, Try.ntmps17
  go_wp2_with fail
  refine (hgV.out _).mono ?_
  rintro e w4 ⟨he, hb4⟩
  rw [hv.out] at he
  subst he
  have hb14 := hb1.trans (hb4.mono hb1.size)
  have hU0 := hT0.below hb4
  have hU1 := hT1.below hb4
  have hU2 := hT2.below hb4
  go_wp2_with fail
  refine (known_any _).mono ?_
  rintro e w7 ⟨rfl, hb7⟩
  go_wp2
  go_ret
  exact ⟨rfl, hb14.trans (hb7.mono hb14.size)⟩

set_option maxHeartbeats 3200000 in
theorem rf_x (A0 : Option Addr) (n0 c0 : Nat) (xs : List Int) (A1 : Option Addr) (n1 c1 : Nat) (ws : List Int) (A2 : Option Addr) (n2 c2 : Nat) (ys : List Int) (b h l r f d x : Int) (w : World) (hS0 : Sl .i64 w A0 n0 c0 xs) (hS1 : Sl .i64 w A1 n1 c1 ws) (hS2 : Sl .i64 w A2 n2 c2 ys) (h0 : n0 ≤ 500) (h1 : n1 ≤ 500) (h2 : n2 ≤ 500) (hv : gtB b h l r f d x = true) (hx0 : allB (-32768) 32767 xs = false) :
    Calls Try.prog 17 #[.slice A0 n0 c0, .slice A1 n1 c1, .slice A2 n2 c2, gtV b h l r f d x] w (YesI w) := by
  have hcap0 := hS0.cap
  have htop0 := hS0.top
  have hcap1 := hS1.cap
  have htop1 := hS1.top
  have hcap2 := hS2.cap
  have htop2 := hS2.top
  have hgV := Lib.hid (fun w => RGate_any b h l r f d x w)
  have hv := Lib.hid hv
  have hx0 := Lib.hid hx0
  unfold gtV at hgV ⊢
  have hT0 := hS0.alloc (.cells #[.int .i64 b, .int .i64 h, .int .i64 l, .int .i64 r, .int .i64 f, .int .i64 d, .int .i64 x] 65)
  have hT1 := hS1.alloc (.cells #[.int .i64 b, .int .i64 h, .int .i64 l, .int .i64 r, .int .i64 f, .int .i64 d, .int .i64 x] 65)
  have hT2 := hS2.alloc (.cells #[.int .i64 b, .int .i64 h, .int .i64 l, .int .i64 r, .int .i64 f, .int .i64 d, .int .i64 x] 65)
  have hb1 : Below w.heap.size w (w.alloc (.cells #[.int .i64 b, .int .i64 h, .int .i64 l, .int .i64 r, .int .i64 f, .int .i64 d, .int .i64 x] 65)) := (Below.refl _ _).alloc (Nat.le_refl _) _
  go_enter Try.func17, Try.ntmps17
  go_wp2_with fail
  refine (hgV.out _).mono ?_
  rintro e w4 ⟨he, hb4⟩
  rw [hv.out] at he
  subst he
  have hb14 := hb1.trans (hb4.mono hb1.size)
  have hU0 := hT0.below hb4
  have hU1 := hT1.below hb4
  have hU2 := hT2.below hb4
  go_wp2_with fail
  refine (All_any _ _ _ _ _ _ _ hU0).mono ?_
  rintro e w5 ⟨he, rfl⟩
  rw [hx0.out] at he
  subst he
  go_wp2_with fail
  refine (known_any _).mono ?_
  rintro e w7 ⟨rfl, hb7⟩
  go_wp2
  go_ret
  exact ⟨rfl, hb14.trans (hb7.mono hb14.size)⟩

set_option maxHeartbeats 3200000 in
theorem rf_y (A0 : Option Addr) (n0 c0 : Nat) (xs : List Int) (A1 : Option Addr) (n1 c1 : Nat) (ws : List Int) (A2 : Option Addr) (n2 c2 : Nat) (ys : List Int) (b h l r f d x : Int) (w : World) (hS0 : Sl .i64 w A0 n0 c0 xs) (hS1 : Sl .i64 w A1 n1 c1 ws) (hS2 : Sl .i64 w A2 n2 c2 ys) (h0 : n0 ≤ 500) (h1 : n1 ≤ 500) (h2 : n2 ≤ 500) (hv : gtB b h l r f d x = true) (hx0 : allB (-32768) 32767 xs = true) (hx2 : allB (-32768) 32767 ys = false) :
    Calls Try.prog 17 #[.slice A0 n0 c0, .slice A1 n1 c1, .slice A2 n2 c2, gtV b h l r f d x] w (YesI w) := by
  have hcap0 := hS0.cap
  have htop0 := hS0.top
  have hcap1 := hS1.cap
  have htop1 := hS1.top
  have hcap2 := hS2.cap
  have htop2 := hS2.top
  have hgV := Lib.hid (fun w => RGate_any b h l r f d x w)
  have hv := Lib.hid hv
  have hx0 := Lib.hid hx0
  have hx2 := Lib.hid hx2
  unfold gtV at hgV ⊢
  have hT0 := hS0.alloc (.cells #[.int .i64 b, .int .i64 h, .int .i64 l, .int .i64 r, .int .i64 f, .int .i64 d, .int .i64 x] 65)
  have hT1 := hS1.alloc (.cells #[.int .i64 b, .int .i64 h, .int .i64 l, .int .i64 r, .int .i64 f, .int .i64 d, .int .i64 x] 65)
  have hT2 := hS2.alloc (.cells #[.int .i64 b, .int .i64 h, .int .i64 l, .int .i64 r, .int .i64 f, .int .i64 d, .int .i64 x] 65)
  have hb1 : Below w.heap.size w (w.alloc (.cells #[.int .i64 b, .int .i64 h, .int .i64 l, .int .i64 r, .int .i64 f, .int .i64 d, .int .i64 x] 65)) := (Below.refl _ _).alloc (Nat.le_refl _) _
  go_enter Try.func17, Try.ntmps17
  go_wp2_with fail
  refine (hgV.out _).mono ?_
  rintro e w4 ⟨he, hb4⟩
  rw [hv.out] at he
  subst he
  have hb14 := hb1.trans (hb4.mono hb1.size)
  have hU0 := hT0.below hb4
  have hU1 := hT1.below hb4
  have hU2 := hT2.below hb4
  go_wp2_with fail
  refine (All_any _ _ _ _ _ _ _ hU0).mono ?_
  rintro e w5 ⟨he, rfl⟩
  rw [hx0.out] at he
  subst he
  go_wp2_with fail
  refine (All_any _ _ _ _ _ _ _ hU2).mono ?_
  rintro e w5 ⟨he, rfl⟩
  rw [hx2.out] at he
  subst he
  go_wp2_with fail
  refine (known_any _).mono ?_
  rintro e w7 ⟨rfl, hb7⟩
  go_wp2
  go_ret
  exact ⟨rfl, hb14.trans (hb7.mono hb14.size)⟩

set_option maxHeartbeats 3200000 in
theorem rf_w (A0 : Option Addr) (n0 c0 : Nat) (xs : List Int) (A1 : Option Addr) (n1 c1 : Nat) (ws : List Int) (A2 : Option Addr) (n2 c2 : Nat) (ys : List Int) (b h l r f d x : Int) (w : World) (hS0 : Sl .i64 w A0 n0 c0 xs) (hS1 : Sl .i64 w A1 n1 c1 ws) (hS2 : Sl .i64 w A2 n2 c2 ys) (h0 : n0 ≤ 500) (h1 : n1 ≤ 500) (h2 : n2 ≤ 500) (hv : gtB b h l r f d x = true) (hx0 : allB (-32768) 32767 xs = true) (hx2 : allB (-32768) 32767 ys = true) (hx1 : allB (-32768) 32767 ws = true) :
    Calls Try.prog 17 #[.slice A0 n0 c0, .slice A1 n1 c1, .slice A2 n2 c2, gtV b h l r f d x] w (YesI w) := by
  have hcap0 := hS0.cap
  have htop0 := hS0.top
  have hcap1 := hS1.cap
  have htop1 := hS1.top
  have hcap2 := hS2.cap
  have htop2 := hS2.top
  have hgV := Lib.hid (fun w => RGate_any b h l r f d x w)
  have hv := Lib.hid hv
  have hx0 := Lib.hid hx0
  have hx2 := Lib.hid hx2
  have hx1 := Lib.hid hx1
  unfold gtV at hgV ⊢
  have hT0 := hS0.alloc (.cells #[.int .i64 b, .int .i64 h, .int .i64 l, .int .i64 r, .int .i64 f, .int .i64 d, .int .i64 x] 65)
  have hT1 := hS1.alloc (.cells #[.int .i64 b, .int .i64 h, .int .i64 l, .int .i64 r, .int .i64 f, .int .i64 d, .int .i64 x] 65)
  have hT2 := hS2.alloc (.cells #[.int .i64 b, .int .i64 h, .int .i64 l, .int .i64 r, .int .i64 f, .int .i64 d, .int .i64 x] 65)
  have hb1 : Below w.heap.size w (w.alloc (.cells #[.int .i64 b, .int .i64 h, .int .i64 l, .int .i64 r, .int .i64 f, .int .i64 d, .int .i64 x] 65)) := (Below.refl _ _).alloc (Nat.le_refl _) _
  go_enter Try.func17, Try.ntmps17
  go_wp2_with fail
  refine (hgV.out _).mono ?_
  rintro e w4 ⟨he, hb4⟩
  rw [hv.out] at he
  subst he
  have hb14 := hb1.trans (hb4.mono hb1.size)
  have hU0 := hT0.below hb4
  have hU1 := hT1.below hb4
  have hU2 := hT2.below hb4
  go_wp2_with fail
  refine (All_any _ _ _ _ _ _ _ hU0).mono ?_
  rintro e w5 ⟨he, rfl⟩
  rw [hx0.out] at he
  subst he
  go_wp2_with fail
  refine (All_any _ _ _ _ _ _ _ hU2).mono ?_
  rintro e w5 ⟨he, rfl⟩
  rw [hx2.out] at he
  subst he
  go_wp2_with fail
  refine (All_any _ _ _ _ _ _ _ hU1).mono ?_
  rintro e w5 ⟨he, rfl⟩
  rw [hx1.out] at he
  subst he
  go_wp2_with fail
  refine (known_any _).mono ?_
  rintro e w7 ⟨rfl, hb7⟩
  go_wp2
  go_ret
  exact ⟨rfl, hb14.trans (hb7.mono hb14.size)⟩
end Go.Proofs.Ytnkkbohfhinemaa
