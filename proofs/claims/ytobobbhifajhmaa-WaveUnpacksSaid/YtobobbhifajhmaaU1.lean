/- The document's own recording at another rate. -/
import Derived.Test.YtobobbhifajhmaaU0
import Derived.Test.YtobobbhifajhmaaT0
import Derived.Test.YtobobbhifajhmaaF1
import Derived.IntWalk
import Derived.Deep.RegionHeld3
import Derived.Deep.AppendLies
namespace Go.Proofs.Ytobobbhifajhmaa
open Go.RowKit

/-- a wrong recording -/
theorem RRes_wrong (rate : Int) (A : Option Addr) (n c : Nat) (xs : List Int) (u d : Int) (w : World) (h : Sl .i64 w A n c xs) (k : Int) (hk : chkR rate xs = k) (h0 : (k == 0) = false) :
    Calls Try.prog 32 #[.agg #[.int .i64 rate, .slice A n c], .int .i64 u, .int .i64 d] w (RetRec w 0 [] k) := by
  have hcap := h.cap
  have htop := h.top
  have hk := Lib.hid hk
  have hR0 := Blk.new (w.alloc (.cells #[.int .i64 rate, .slice A n c] 24)) 24 #[.int .i64 0, .slice none 0 0]
  rw [show (w.alloc (.cells #[.int .i64 rate, .slice A n c] 24)).heap.size = w.heap.size + 1 from by simp] at hR0
  have hw0 := ((Below.refl w.heap.size w).alloc (Nat.le_refl _) (.cells #[.int .i64 rate, .slice A n c] 24)).alloc (by simp) (.cells #[.int .i64 0, .slice none 0 0] 24)
  have h1 := h.below hw0
  go_enter Try.func32, Try.ntmps32
  go_wp2_with fail
  generalize (w.alloc (.cells #[.int .i64 rate, .slice A n c] 24)).alloc (.cells #[.int .i64 0, .slice none 0 0] 24) = w1 at *
  refine (RWrong_any _ _ _ _ _ _ h1).mono ?_
  rintro e w2 ⟨he, hb2⟩
  rw [hk.out] at he
  subst he
  have hR2 := hR0.below hb2
  have f0 := hR2.frozen 0
  have f1 := hR2.frozen 1
  have c0 := hR2.cell 0
  have c1 := hR2.cell 1
  have hsz := hb2.size
  have hsz0 := hw0.size
  go_wp2
  exact ret_rec2 rfl rfl ((hR2.set_ 0 _).set_ 1 _) rfl ⟨none, 0, 0, rfl, Sl.nil _ _, ((hw0.trans (hb2.mono hsz0)).setCell (p := ⟨w.heap.size + 1, 0, none⟩) (by simp) _).setCell (p := ⟨w.heap.size + 1, 1, none⟩) (by simp) _⟩

/-- which numbers are refused -/
def rsBad (rate u d : Int) : Prop := u < 1 ∨ 16 < u ∨ d < 1 ∨ 16 < d ∨ rate * u % d ≠ 0 ∨ 192000 < rate * u / d

set_option maxHeartbeats 3200000 in
set_option maxRecDepth 100000 in
theorem RRes_arg (rate : Int) (A : Option Addr) (n c : Nat) (xs : List Int) (u d : Int) (w : World) (h : Sl .i64 w A n c xs) (hk : chkR rate xs = 0) (hr1 : 1 ≤ rate) (hr2 : rate ≤ 192000) (hbad : rsBad rate u d) :
    Calls Try.prog 32 #[.agg #[.int .i64 rate, .slice A n c], .int .i64 u, .int .i64 d] w (RetRec w 0 [] 2) := by
  have hcap := h.cap
  have htop := h.top
  have hk := Lib.hid hk
  have hB0 := (Blk.new w 24 #[.int .i64 rate, .slice A n c]).alloc (.cells #[.int .i64 0, .slice none 0 0] 24)
  have hR0 := Blk.new (w.alloc (.cells #[.int .i64 rate, .slice A n c] 24)) 24 #[.int .i64 0, .slice none 0 0]
  rw [show (w.alloc (.cells #[.int .i64 rate, .slice A n c] 24)).heap.size = w.heap.size + 1 from by simp] at hR0
  have hw0 := ((Below.refl w.heap.size w).alloc (Nat.le_refl _) (.cells #[.int .i64 rate, .slice A n c] 24)).alloc (by simp) (.cells #[.int .i64 0, .slice none 0 0] 24)
  have h1 := h.below hw0
  by_cases c1 : u < 1
  case' neg => by_cases c2 : 16 < u
  case' neg => by_cases c3 : d < 1
  case' neg => by_cases c4 : 16 < d
  case' neg =>
    obtain ⟨P, hP⟩ : ∃ P, rate * u = P := ⟨_, rfl⟩
    have hP0 : 0 ≤ P := by rw [← hP]; exact Int.mul_nonneg (by omega) (by omega)
    have hP1 : P ≤ 192000 * 16 := by rw [← hP]; exact Int.mul_le_mul hr2 (by omega) (by omega) (by omega)
    have em : P.tmod d = P % d := Int.tmod_eq_emod_of_nonneg hP0
    have ed : P.tdiv d = P / d := Int.tdiv_eq_ediv_of_nonneg hP0
    have hdz : ¬ d = 0 := by omega
    have hq0 : 0 ≤ P / d := Int.ediv_nonneg hP0 (by omega)
    have hq1 : P / d ≤ P := Int.ediv_le_self _ hP0
    unfold rsBad at hbad
    rw [hP] at hbad
    by_cases c5 : P % d = 0
  case' neg => have c5b : (P % d != 0) = true := by simpa using c5
  case' pos => by_cases c6 : P / d < 1
  case' neg => have c7 : 192000 < P / d := by omega
  all_goals
    clear hbad
    go_enter Try.func32, Try.ntmps32
    go_wp2_with fail
    generalize (w.alloc (.cells #[.int .i64 rate, .slice A n c] 24)).alloc (.cells #[.int .i64 0, .slice none 0 0] 24) = w1 at *
    refine (RWrong_any _ _ _ _ _ _ h1).mono ?_
    rintro e w2 ⟨he, hb2⟩
    rw [hk.out] at he
    subst he
    have hR2 := hR0.below hb2
    have hB2 := hB0.below hb2
    have b0 := hB2.cell 0
    have b1 := hB2.cell 1
    have f0 := hR2.frozen 0
    have f1 := hR2.frozen 1
    have k0 := hR2.cell 0
    have k1 := hR2.cell 1
    have hsz := hb2.size
    have hsz0 := hw0.size
    go_wp2
    exact ret_rec2 rfl rfl ((hR2.set_ 0 _).set_ 1 _) rfl ⟨none, 0, 0, rfl, Sl.nil _ _, ((hw0.trans (hb2.mono hsz0)).setCell (p := ⟨w.heap.size + 1, 0, none⟩) (by simp) _).setCell (p := ⟨w.heap.size + 1, 1, none⟩) (by simp) _⟩
end Go.Proofs.Ytobobbhifajhmaa
