/- What the laws through the layers share: the documents' examples; the segments by any gate. -/
import Derived.Test.YtoljffghaklpdaaGreatDoorEU
import Derived.Test.YtoljffghaklpdaaGreatDoorZP6
import Derived.Test.YtoljffghaklpdaaGreatDoorHA
namespace Go.Proofs.YtoljffghaklpdaaGreatDoor
open Go.RowKit

theorem x03 : emC false [10, 10, -7] 1 2 = 0 ∧ emL false [10, 10, -7] 1 2 = [10, 5, -12] := by decide +kernel
theorem l03 : lg 1000 = 159 := by decide +kernel

/-- the code and the segments, by any gate -/
def sgC (b h l r f d x : Int) : Int := if gtB b h l r f d x then 0 else 2
def sgL (b h l r f d x : Int) (xs : List Int) : List (Int × Int) := if gtB b h l r f d x then segs ⟨b.toNat, h, l, r, f, d, x⟩ xs ++ lastS ⟨b.toNat, h, l, r, f, d, x⟩ xs else []
theorem gt_ok {b h l r f d x : Int} (hv : gtB b h l r f d x = true) : (⟨b.toNat, h, l, r, f, d, x⟩ : Gt).Ok ∧ b = (b.toNat : Int) := by
  unfold gtB at hv
  simp only [Bool.and_eq_true, okB_iff] at hv
  obtain ⟨⟨⟨⟨⟨⟨h1, h2⟩, h3⟩, h4⟩, h5⟩, h6⟩, h7⟩ := hv
  exact ⟨⟨by show 1 ≤ b.toNat; omega, by show b.toNat ≤ 4096; omega, h2.1, h2.2, h3.1, h3.2, h4.1, h4.2, h5.1, h5.2, h6.1, h6.2, h7.1, h7.2⟩, by omega⟩
theorem Segs_any (b h l r f d x : Int) (A : Option Addr) (n c : Nat) (xs : List Int) (w : World) (hS : Sl .i64 w A n c xs) (hn : n ≤ 200000) (hx : allB (-32768) 32767 xs = true) :
    Calls Tryz.prog 37 #[.slice A n c, gtV b h l r f d x] w (RetS_w w (sgL b h l r f d x xs) (sgC b h l r f d x)) := by
  cases hv : gtB b h l r f d x with
  | false =>
    have e1 : sgL b h l r f d x xs = [] := by unfold sgL; rw [hv]; rfl
    have e2 : sgC b h l r f d x = 2 := by unfold sgC; rw [hv]; rfl
    rw [e1, e2]
    exact Segments_gate b h l r f d x hv A n c xs w hS hn
  | true =>
    obtain ⟨hG, hb⟩ := gt_ok hv
    have e1 : sgL b h l r f d x xs = segs ⟨b.toNat, h, l, r, f, d, x⟩ xs ++ lastS ⟨b.toNat, h, l, r, f, d, x⟩ xs := by unfold sgL; rw [hv]; rfl
    have e2 : sgC b h l r f d x = 0 := by unfold sgC; rw [hv]; rfl
    rw [e1, e2]
    have := Segments_ok ⟨b.toNat, h, l, r, f, d, x⟩ hG A n c xs w hS hn hx
    unfold gval at this
    rw [← hb] at this
    exact this

set_option maxHeartbeats 4000000 in
set_option maxRecDepth 100000 in
theorem known03_any (w : World) : Calls Tryz.prog 32 #[] w fun e w' => e = .returned (.bool true) ∧ Below w.heap.size w w' := by
  have hx := Lib.hid x03
  have hg := Lib.hid l03
  go_enter Tryz.func32, Tryz.ntmps32
  go_wp2_with fail
  have hb1 := (Below.refl w.heap.size w).alloc (Nat.le_refl _) (.cells #[.int .i64 10, .int .i64 10, .int .i64 (-7)] 3)
  refine (Emphasize_any _ 3 3 [10, 10, -7] 1 2 _ (sl_lit w 3 [10, 10, -7] 3 rfl (by decide) _ rfl)).mono ?_
  rintro e w2 ⟨A2, m2, c2, rfl, hS2, hb2⟩
  rw [hx.out.2] at hS2
  rw [hx.out.1]
  have hw2 := hb1.trans (hb2.mono hb1.size)
  have hm2 := hS2.len
  have hm2 : m2 = 3 := hm2.symm
  subst hm2
  clear hb1 hb2
  go_wp2_with fail
  refine (Log_any 1000 _ (by decide)).mono ?_
  rw [if_neg (by decide)]
  rintro e w3 ⟨rfl, hb3⟩
  rw [show (1000 : Int).toNat = 1000 from rfl, hg.out]
  have hw3 := hw2.trans (hb3.mono hw2.size)
  have hS3 := hS2.below hb3
  go_wp2_with fail
  have hb4 := (Below.refl w3.heap.size w3).alloc (Nat.le_refl _) (.cells #[.int .i64 10, .int .i64 5, .int .i64 (-12)] 3)
  refine (Same_bel _ _ _ _ _ _ _ _ (hS3.below hb4) (sl_lit w3 3 [10, 5, -12] 3 rfl (by decide) _ rfl)).mono ?_
  rintro e w5 ⟨rfl, hb5⟩
  have hw5 := hw3.trans ((hb4.trans (hb5.mono hb4.size)).mono hw3.size)
  go_wp2
  go_ret
  exact ⟨rfl, hw5⟩
end Go.Proofs.YtoljffghaklpdaaGreatDoor
