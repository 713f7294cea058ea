/- Cosines: the program's own. -/
import Derived.Test.YtjpdgnbdbpgnmaaDoorFD
namespace Go.Proofs.YtjpdgnbdbpgnmaaDoor
open Go.RowKit

/-- the table's variable holds the table -/
def Tab (w : World) : Prop := ∀ j, j < 65 → w.cell? ⟨0, j, none⟩ = some (.int .i64 (cosT j))
theorem Tab.below {w w' : World} (h : Tab w) (hb : Below w.heap.size w w') : Tab w' := fun j hj => (hb.cell (World.block_lt_of_cell? _ _ (h j hj))).trans (h j hj)
theorem Tab.drewN {w : World} (h : Tab w) (n : Nat) : Tab (w.drewN n) := h
theorem Tab.alloc {w : World} (h : Tab w) (o : Obj) : Tab (w.alloc o) := h.below ((Below.refl _ _).alloc (Nat.le_refl _) o)

theorem isLength_any (n : Nat) (w : World) : Calls Tryd.prog 61 #[.int .i64 (n : Int)] w fun e w' => e = .returned (.bool (lenB n)) ∧ w = w' := by
  by_cases h0 : 0 < n
  · have hr : (64 : Int).tmod (n : Int) = ((64 % n : Nat) : Int) := by rw [Int.tmod_eq_emod_of_nonneg (by omega)]; rfl
    obtain ⟨r, hr2⟩ : ∃ r, 64 % n = r := ⟨_, rfl⟩
    rw [hr2] at hr
    have hn0 : ¬ (n : Int) = 0 := by omega
    have h0i : (0 : Int) < (n : Int) := by omega
    by_cases hz : r = 0
    · subst hz
      have hv := Lib.hid (show lenB n = true by unfold lenB; rw [hr2, decide_eq_true h0]; rfl)
      clear hr2
      go_enter Tryd.func61, Tryd.ntmps61
      go_wp2
      go_ret
      exact ⟨ret_bool hv.out.symm, rfl⟩
    · have hv := Lib.hid (show lenB n = false by unfold lenB; rw [hr2, decide_eq_false hz, Bool.and_false])
      have hzb : ((r : Int) == 0) = false := by rw [beq_eq_false_iff_ne]; omega
      clear hr2
      go_enter Tryd.func61, Tryd.ntmps61
      go_wp2
      go_ret
      exact ⟨ret_bool hv.out.symm, rfl⟩
  · have hn : n = 0 := by omega
    subst hn
    go_enter Tryd.func61, Tryd.ntmps61
    go_wp2
    go_ret
    exact ⟨rfl, rfl⟩

theorem allUpTo_any (A : Option Addr) (n c : Nat) (xs : List Int) (b : Int) (w : World) (h : Sl .i64 w A n c xs) (hb : 0 ≤ b) (hb2 : b ≤ 4611686018427387904) :
    Calls Tryd.prog 62 #[.slice A n c, .int .i64 b] w fun e w' => e = .returned (.bool (allB (-b) b xs)) ∧ w = w' := by
  go_enter Tryd.func62, Tryd.ntmps62
  go_wp2_with (go_at_call 89; refine (allWithin_any _ _ _ _ _ _ _ h).mono ?_; rintro e w' ⟨rfl, rfl⟩)
  go_ret
  exact ⟨rfl, rfl⟩

set_option maxHeartbeats 800000 in
theorem cosine_any (j : Nat) (w : World) (hT : Tab w) (hj : j ≤ 9223372036854775807) : Calls Tryd.prog 59 #[.int .i64 (j : Int)] w fun e w' => e = .returned (.int .i64 (cs j)) ∧ w = w' := by
  have hm : (j : Int).tmod 256 = ((j % 256 : Nat) : Int) := by rw [Int.tmod_eq_emod_of_nonneg (by omega)]; rfl
  have hcs : cs j = if j % 256 ≤ 64 then cosT (j % 256) else if j % 256 ≤ 128 then -cosT (128 - j % 256) else if j % 256 ≤ 192 then -cosT (j % 256 - 128) else cosT (256 - j % 256) := rfl
  have hlt : j % 256 < 256 := Nat.mod_lt _ (by decide)
  generalize j % 256 = m at *
  by_cases h1 : m ≤ 64
  · rw [if_pos h1] at hcs
    have hv := Lib.hid hcs
    clear hcs
    have hc := hT m (by omega)
    generalize cosT m = v at *
    have d1 : decide ((m : Int) ≤ 64) = true := decide_eq_true (by omega)
    go_enter Tryd.func59, Tryd.ntmps59
    go_wp2
    go_ret
    exact ⟨ret_int hv.out.symm, rfl⟩
  · rw [if_neg h1] at hcs
    have d1 : decide ((m : Int) ≤ 64) = false := decide_eq_false (by omega)
    by_cases h2 : m ≤ 128
    · rw [if_pos h2] at hcs
      have hv := Lib.hid hcs
      clear hcs
      obtain ⟨p, hp⟩ : ∃ p : Nat, 128 - (m : Int) = (p : Int) := ⟨128 - m, by omega⟩
      have hpe : 128 - m = p := by omega
      rw [hpe] at hv
      have hc := hT p (by omega)
      have hb := cosT_bd p
      generalize cosT p = v at *
      have hb1 := hb.1
      have hb2 := hb.2
      have hp64 : p ≤ 64 := by omega
      have d2 : decide ((m : Int) ≤ 128) = true := decide_eq_true (by omega)
      clear hb hpe
      go_enter Tryd.func59, Tryd.ntmps59
      go_wp2
      go_ret
      exact ⟨ret_int hv.out.symm, rfl⟩
    · rw [if_neg h2] at hcs
      have d2 : decide ((m : Int) ≤ 128) = false := decide_eq_false (by omega)
      by_cases h3 : m ≤ 192
      · rw [if_pos h3] at hcs
        have hv := Lib.hid hcs
        clear hcs
        obtain ⟨p, hp⟩ : ∃ p : Nat, (m : Int) - 128 = (p : Int) := ⟨m - 128, by omega⟩
        have hpe : m - 128 = p := by omega
        rw [hpe] at hv
        have hc := hT p (by omega)
        have hb := cosT_bd p
        generalize cosT p = v at *
        have hb1 := hb.1
        have hb2 := hb.2
        have hp64 : p ≤ 64 := by omega
        have d3 : decide ((m : Int) ≤ 192) = true := decide_eq_true (by omega)
        clear hb hpe
        go_enter Tryd.func59, Tryd.ntmps59
        go_wp2
        go_ret
        exact ⟨ret_int hv.out.symm, rfl⟩
      · rw [if_neg h3] at hcs
        have hv := Lib.hid hcs
        clear hcs
        obtain ⟨p, hp⟩ : ∃ p : Nat, 256 - (m : Int) = (p : Int) := ⟨256 - m, by omega⟩
        have hpe : 256 - m = p := by omega
        rw [hpe] at hv
        have hc := hT p (by omega)
        generalize cosT p = v at *
        have hp64 : p ≤ 64 := by omega
        have d3 : decide ((m : Int) ≤ 192) = false := decide_eq_false (by omega)
        clear hpe
        go_enter Tryd.func59, Tryd.ntmps59
        go_wp2
        go_ret
        exact ⟨ret_int hv.out.symm, rfl⟩
end Go.Proofs.YtjpdgnbdbpgnmaaDoor
