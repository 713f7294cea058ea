/- Bytes: what is packed is read back. -/
import Derived.Test.YtobobbhifajhmaaBA
namespace Go.Proofs.Ytobobbhifajhmaa
open Go.RowKit

theorem sg_mod {x : Int} (h1 : -32768 ≤ x) (h2 : x ≤ 32767) : sg (x % 65536) = x := by unfold sg; omega
theorem smp_drop {xs : List Int} : ∀ {j : Nat}, j < xs.length → ∃ rest, (smp xs).drop (2 * j) = le (xs.getD j 0) 2 ++ rest := by
  induction xs with
  | nil => intro j h; simp at h
  | cons x xs ih =>
    intro j h
    have e : smp (x :: xs) = le x 2 ++ smp xs := by simp [smp]
    rw [e]
    cases j with
    | zero => exact ⟨smp xs, rfl⟩
    | succ j =>
      rw [List.length_cons] at h
      obtain ⟨rest, hr⟩ := ih (j := j) (by omega)
      refine ⟨rest, ?_⟩
      rw [show 2 * (j + 1) = (le x 2).length + 2 * j by rw [le_len]; omega, List.drop_append, List.drop_of_length_le (by omega), List.nil_append, show (le x 2).length + 2 * j - (le x 2).length = 2 * j by omega, hr]
      simp

theorem pk_up {rate : Int} {xs : List Int} (hk : chkR rate xs = 0) : wfB (pkB rate xs) = true ∧ upC (pkB rate xs) = 0 ∧ upR (pkB rate xs) = rate ∧ upL (pkB rate xs) = xs := by
  have hr : chkR rate xs = 0 ∧ xs.length ≤ 200000 ∧ allB (-32768) 32767 xs = true ∧ 1 ≤ rate ∧ rate ≤ 192000 := by
    rcases chkR_cases rate xs with h | h | h
    · exact h
    · rw [hk] at h; cases h
    · rw [hk] at h; cases h
  obtain ⟨_, hn, hall, hr1, hr2⟩ := hr
  have hlen := pkB_len rate xs
  have hhl := hdB_len rate xs
  have e0 : pkB rate xs = mk4 ++ (le rate 4 ++ (le xs.length 4 ++ (smp xs ++ le (ck (hdB rate xs)) 4))) := by
    unfold pkB
    rw [show hdB rate xs = mk4 ++ le rate 4 ++ le xs.length 4 ++ smp xs from rfl]
    simp only [List.append_assoc]
  have t4 : (pkB rate xs).take 4 = mk4 := by rw [e0]; exact List.take_left' rfl
  have d4 : (pkB rate xs).drop 4 = le rate 4 ++ (le xs.length 4 ++ (smp xs ++ le (ck (hdB rate xs)) 4)) := by rw [e0]; exact List.drop_left' rfl
  have d8 : (pkB rate xs).drop 8 = le xs.length 4 ++ (smp xs ++ le (ck (hdB rate xs)) 4) := by
    rw [show 8 = 4 + 4 from rfl, ← List.drop_drop, d4]; exact List.drop_left' (le_len _ _)
  have d12 : (pkB rate xs).drop 12 = smp xs ++ le (ck (hdB rate xs)) 4 := by
    rw [show 12 = 8 + 4 from rfl, ← List.drop_drop, d8]; exact List.drop_left' (le_len _ _)
  have p4 : (256 : Int) ^ 4 = 4294967296 := rfl
  have rr : rd ((pkB rate xs).drop 4) 4 = rate := by rw [d4]; exact rd_le (by omega) (by rw [p4]; omega)
  have rn : rd ((pkB rate xs).drop 8) 4 = xs.length := by rw [d8]; exact rd_le (by omega) (by rw [p4]; omega)
  have hN : (pkB rate xs).length - 4 = (hdB rate xs).length := by rw [hlen, hhl]; omega
  have tN : (pkB rate xs).take ((pkB rate xs).length - 4) = hdB rate xs := by rw [hN]; unfold pkB; exact List.take_left' rfl
  have dN : (pkB rate xs).drop ((pkB rate xs).length - 4) = le (ck (hdB rate xs)) 4 := by rw [hN]; unfold pkB; exact List.drop_left' rfl
  have hck := ck_bd (hdB rate xs)
  have rs : rd ((pkB rate xs).drop ((pkB rate xs).length - 4)) 4 = ck (hdB rate xs) := by
    rw [dN]
    have := rd_le (x := ck (hdB rate xs)) (k := 4) hck.1 (by rw [p4]; omega) (rest := [])
    rw [List.append_nil] at this
    exact this
  have hwf : wfB (pkB rate xs) = true := by
    unfold wfB
    rw [t4, rn, rs, tN, decide_eq_true rfl, decide_eq_true rfl, decide_eq_true (show 16 ≤ (pkB rate xs).length by rw [hlen]; omega), decide_eq_true (show ((pkB rate xs).length : Int) - 16 = 2 * (xs.length : Int) by rw [hlen]; omega)]
    rfl
  have hsp : spL (pkB rate xs) = xs := by
    unfold spL
    rw [hlen, show (16 + xs.length * 2 - 16) / 2 = xs.length by omega, tab_congr (g := fun i => xs.getD i 0), tab_self]
    intro j hj
    unfold spA
    obtain ⟨rest, hrest⟩ := smp_drop hj
    rw [← List.drop_drop, d12, List.drop_append, hrest, List.append_assoc]
    have := rd_mod (x := xs.getD j 0) (k := 2) (rest := rest ++ (le (ck (hdB rate xs)) 4).drop (2 * j - (smp xs).length)) 2 (Nat.le_refl _)
    rw [this]
    have hx := allB_get hall hj rfl
    exact sg_mod hx.1 hx.2
  have hC : upC (pkB rate xs) = 0 := by
    unfold upC upOk
    rw [if_neg (by rw [hlen]; omega), hwf, hsp, rr, hk]; rfl
  exact ⟨hwf, hC, by unfold upR; rw [hC, rr]; rfl, by unfold upL; rw [hC, hsp]; rfl⟩
end Go.Proofs.Ytobobbhifajhmaa
