/- Energy, changes of sign, peak: the law's walk. -/
import Derived.Test.YtnkkbohfhinemaaM3
import Derived.Test.YtnkkbohfhinemaaK3
namespace Go.Proofs.Ytnkkbohfhinemaa
open Go.RowKit

abbrev YesM (w : World) (e : Ending) (w' : World) : Prop := e = .returned (.bool true) ∧ Below w.heap.size w w'

set_option maxHeartbeats 3200000 in
theorem meas_skip (A : Option Addr) (n c : Nat) (xs : List Int) (w : World) (hS : Sl .i64 w A n c xs) (hn : shB n = false) :
    Calls Try.prog 14 #[.slice A n c] w (YesM w) := by
  have hcap := hS.cap
  have htop := hS.top
  have hl := Lib.hid hS.len
  have hs := Lib.hid hn
  clear hn
  go_enter Try.func14, Try.ntmps14
  go_wp2_with fail
  refine (short_any _ _).mono ?_
  rintro e w2 ⟨he, rfl⟩
  rw [hs.out] at he
  subst he
  go_wp2_with fail
  refine (known_any _).mono ?_
  rintro e w7 ⟨rfl, hb7⟩
  go_wp2
  go_ret
  exact ⟨rfl, hb7⟩

set_option maxHeartbeats 3200000 in
theorem meas_long (A : Option Addr) (n c : Nat) (xs : List Int) (w : World) (hS : Sl .i64 w A n c xs) (hn : shB n = true) (hn2 : 200000 < n) :
    Calls Try.prog 14 #[.slice A n c] w (YesM w) := by
  have hcap := hS.cap
  have htop := hS.top
  have hl := Lib.hid hS.len
  have hs := Lib.hid hn
  clear hn
  have hk5 := Lib.hid (show ∀ lo hi : Int, chk lo hi xs = 5 from fun lo hi => if_pos (by rw [hl.out]; exact hn2))
  have hv := Lib.hid (show enV xs = 0 by unfold enV enC; rw [hk5.out]; rfl)
  have hc := Lib.hid (show enC xs = 5 from hk5.out _ _)
  go_enter Try.func14, Try.ntmps14
  go_wp2_with fail
  refine (short_any _ _).mono ?_
  rintro e w2 ⟨he, rfl⟩
  rw [hs.out] at he
  subst he
  go_wp2_with fail
  refine (Energy_any _ _ _ _ _ hS).mono ?_
  rintro e w3 ⟨he, rfl⟩
  rw [hv.out, hc.out] at he
  subst he
  go_wp2_with fail
  refine (Changes_bad _ _ _ _ 5 _ hS (hk5.out _ _) rfl).mono ?_
  rintro e w3 ⟨rfl, rfl⟩
  go_wp2_with fail
  refine (Peak_bad _ _ _ _ 5 _ hS (hk5.out _ _) rfl).mono ?_
  rintro e w3 ⟨rfl, rfl⟩
  go_wp2_with fail
  refine (known_any _).mono ?_
  rintro e w7 ⟨rfl, hb7⟩
  go_wp2
  go_ret
  exact ⟨rfl, hb7⟩

set_option maxHeartbeats 3200000 in
theorem meas_bad (A : Option Addr) (n c : Nat) (xs : List Int) (w : World) (hS : Sl .i64 w A n c xs) (hn : shB n = true) (hn2 : n ≤ 200000) (hx : valsB xs = false) :
    Calls Try.prog 14 #[.slice A n c] w (YesM w) := by
  have hcap := hS.cap
  have htop := hS.top
  have hl := Lib.hid hS.len
  have hs := Lib.hid hn
  clear hn
  have hv2 := Lib.hid hx
  have hk2 := Lib.hid (show chk (-2147483647) 2147483647 xs = 2 by unfold chk; rw [if_neg (by rw [hl.out]; omega), show allB (-2147483647) 2147483647 xs = false from hx]; rfl)
  have hc := Lib.hid (show enC xs = 2 by
    unfold enC chk
    rw [if_neg (by rw [hl.out]; omega)]
    cases ha : allB (-65536) 65535 xs with
    | false => rfl
    | true => exact absurd (allB_wide (c := -2147483647) (d := 2147483647) ha (by decide) (by decide)) (by rw [show allB (-2147483647) 2147483647 xs = false from hx]; decide))
  have hv := Lib.hid (show enV xs = 0 by unfold enV; rw [hc.out]; rfl)
  clear hx
  go_enter Try.func14, Try.ntmps14
  go_wp2_with fail
  refine (short_any _ _).mono ?_
  rintro e w2 ⟨he, rfl⟩
  rw [hs.out] at he
  subst he
  go_wp2_with fail
  refine (Energy_any _ _ _ _ _ hS).mono ?_
  rintro e w3 ⟨he, rfl⟩
  rw [hv.out, hc.out] at he
  subst he
  go_wp2_with fail
  refine (Changes_bad _ _ _ _ 2 _ hS hk2.out rfl).mono ?_
  rintro e w3 ⟨rfl, rfl⟩
  go_wp2_with fail
  refine (Peak_bad _ _ _ _ 2 _ hS hk2.out rfl).mono ?_
  rintro e w3 ⟨rfl, rfl⟩
  go_wp2_with fail
  refine (Values_any _ _ _ _ _ hS).mono ?_
  rintro e w3 ⟨he, rfl⟩
  rw [hv2.out] at he
  subst he
  go_wp2_with fail
  refine (known_any _).mono ?_
  rintro e w7 ⟨rfl, hb7⟩
  go_wp2
  go_ret
  exact ⟨rfl, hb7⟩

set_option maxHeartbeats 3200000 in
theorem meas_wide (A : Option Addr) (n c : Nat) (xs : List Int) (w : World) (hS : Sl .i64 w A n c xs) (hn : shB n = true) (hn2 : n ≤ 200000) (hx : valsB xs = true) (hy : allB (-65536) 65535 xs = false) :
    Calls Try.prog 14 #[.slice A n c] w (YesM w) := by
  have hcap := hS.cap
  have htop := hS.top
  have hl := Lib.hid hS.len
  have hs := Lib.hid hn
  clear hn
  have hv2 := Lib.hid hx
  have hx2 := Lib.hid (show allB (-2147483647) 2147483647 xs = true from hx)
  have hk2 := Lib.hid (show chk (-2147483647) 2147483647 xs = 0 by unfold chk; rw [if_neg (by rw [hl.out]; omega), hx2.out]; rfl)
  have hy2 := Lib.hid hy
  have hc := Lib.hid (show enC xs = 2 by unfold enC chk; rw [if_neg (by rw [hl.out]; omega), hy]; rfl)
  have hv := Lib.hid (show enV xs = 0 by unfold enV; rw [hc.out]; rfl)
  clear hx hy
  go_enter Try.func14, Try.ntmps14
  go_wp2_with fail
  refine (short_any _ _).mono ?_
  rintro e w2 ⟨he, rfl⟩
  rw [hs.out] at he
  subst he
  go_wp2_with fail
  refine (Energy_any _ _ _ _ _ hS).mono ?_
  rintro e w3 ⟨he, rfl⟩
  rw [hv.out, hc.out] at he
  subst he
  go_wp2_with fail
  refine (Changes_ok _ _ _ _ _ hS hn2 hk2.out).mono ?_
  rintro e w3 ⟨q3, rfl, hw3⟩
  subst hw3
  have hS3 := hS.drewN q3
  have hb3 := bel_drewN (Below.refl w.heap.size w) q3
  generalize w.drewN q3 = w3 at *
  go_wp2_with fail
  refine (Peak_ok _ _ _ _ _ hS3 hn2 hx2.out hk2.out).mono ?_
  rintro e w3 ⟨rfl, rfl⟩
  go_wp2_with fail
  refine (Values_any _ _ _ _ _ hS3).mono ?_
  rintro e w3 ⟨he, rfl⟩
  rw [hv2.out] at he
  subst he
  go_wp2_with fail
  refine (RChanges_any _ _ _ _ _ hS3 (by omega)).mono ?_
  rintro e w4 ⟨q4, rfl, hw4⟩
  subst hw4
  have hS4 := hS3.drewN q4
  have hb4 := bel_drewN hb3 q4
  generalize w3.drewN q4 = w4 at *
  go_wp2_with fail
  refine (RPeak_any _ _ _ _ _ hS4 (by omega) hx2.out).mono ?_
  rintro e w5 ⟨q5, rfl, hw5⟩
  subst hw5
  have hS5 := hS4.drewN q5
  have hb5 := bel_drewN hb4 q5
  generalize w4.drewN q5 = w5 at *
  go_wp2_with fail
  refine (All_any _ _ _ _ _ _ _ hS5).mono ?_
  rintro e w3 ⟨he, rfl⟩
  rw [hy2.out] at he
  subst he
  go_wp2_with fail
  refine (known_any _).mono ?_
  rintro e w7 ⟨rfl, hb7⟩
  go_wp2
  go_ret
  exact ⟨rfl, hb5.trans (hb7.mono hb5.size)⟩

set_option maxHeartbeats 3200000 in
theorem meas_ok (A : Option Addr) (n c : Nat) (xs : List Int) (w : World) (hS : Sl .i64 w A n c xs) (hn : shB n = true) (hn2 : n ≤ 200000) (hx : valsB xs = true) (hy : allB (-65536) 65535 xs = true) :
    Calls Try.prog 14 #[.slice A n c] w (YesM w) := by
  have hcap := hS.cap
  have htop := hS.top
  have hl := Lib.hid hS.len
  have hs := Lib.hid hn
  clear hn
  have hv2 := Lib.hid hx
  have hx2 := Lib.hid (show allB (-2147483647) 2147483647 xs = true from hx)
  have hk2 := Lib.hid (show chk (-2147483647) 2147483647 xs = 0 by unfold chk; rw [if_neg (by rw [hl.out]; omega), hx2.out]; rfl)
  have hy2 := Lib.hid hy
  have hc := Lib.hid (show enC xs = 0 by unfold enC chk; rw [if_neg (by rw [hl.out]; omega), hy]; rfl)
  have hv := Lib.hid (show enV xs = eng xs by unfold enV; rw [hc.out]; rfl)
  have hz := Lib.hid (fun x hx => by have := allB_mem hy x hx; omega : ∀ x ∈ xs, -70000 ≤ x ∧ x ≤ 70000)
  clear hx hy
  go_enter Try.func14, Try.ntmps14
  go_wp2_with fail
  refine (short_any _ _).mono ?_
  rintro e w2 ⟨he, rfl⟩
  rw [hs.out] at he
  subst he
  go_wp2_with fail
  refine (Energy_any _ _ _ _ _ hS).mono ?_
  rintro e w3 ⟨he, rfl⟩
  rw [hv.out, hc.out] at he
  subst he
  go_wp2_with fail
  refine (Changes_ok _ _ _ _ _ hS hn2 hk2.out).mono ?_
  rintro e w3 ⟨q3, rfl, hw3⟩
  subst hw3
  have hS3 := hS.drewN q3
  have hb3 := bel_drewN (Below.refl w.heap.size w) q3
  generalize w.drewN q3 = w3 at *
  go_wp2_with fail
  refine (Peak_ok _ _ _ _ _ hS3 hn2 hx2.out hk2.out).mono ?_
  rintro e w3 ⟨rfl, rfl⟩
  go_wp2_with fail
  refine (Values_any _ _ _ _ _ hS3).mono ?_
  rintro e w3 ⟨he, rfl⟩
  rw [hv2.out] at he
  subst he
  go_wp2_with fail
  refine (RChanges_any _ _ _ _ _ hS3 (by omega)).mono ?_
  rintro e w4 ⟨q4, rfl, hw4⟩
  subst hw4
  have hS4 := hS3.drewN q4
  have hb4 := bel_drewN hb3 q4
  generalize w3.drewN q4 = w4 at *
  go_wp2_with fail
  refine (RPeak_any _ _ _ _ _ hS4 (by omega) hx2.out).mono ?_
  rintro e w5 ⟨q5, rfl, hw5⟩
  subst hw5
  have hS5 := hS4.drewN q5
  have hb5 := bel_drewN hb4 q5
  generalize w4.drewN q5 = w5 at *
  go_wp2_with fail
  refine (All_any _ _ _ _ _ _ _ hS5).mono ?_
  rintro e w3 ⟨he, rfl⟩
  rw [hy2.out] at he
  subst he
  go_wp2_with fail
  refine (REnergy_any _ _ _ _ _ hS5 (by omega) hz.out).mono ?_
  rintro e w6 ⟨q6, rfl, hw6⟩
  subst hw6
  have hb6 := bel_drewN hb5 q6
  generalize w5.drewN q6 = w6 at *
  go_wp2_with fail
  refine (known_any _).mono ?_
  rintro e w7 ⟨rfl, hb7⟩
  go_wp2
  go_ret
  exact ⟨rfl, hb6.trans (hb7.mono hb6.size)⟩

theorem measures_any (A : Option Addr) (n c : Nat) (xs : List Int) (w : World) (hS : Sl .i64 w A n c xs) :
    Calls Try.prog 14 #[.slice A n c] w (YesM w) := by
  cases hn : shB n with
  | false => exact meas_skip A n c xs w hS hn
  | true =>
    rcases Nat.lt_or_ge 200000 n with hn2 | hn2
    · exact meas_long A n c xs w hS hn hn2
    · cases hx : valsB xs with
      | false => exact meas_bad A n c xs w hS hn hn2 hx
      | true =>
        cases hy : allB (-65536) 65535 xs with
        | false => exact meas_wide A n c xs w hS hn hn2 hx hy
        | true => exact meas_ok A n c xs w hS hn hn2 hx hy
end Go.Proofs.Ytnkkbohfhinemaa
