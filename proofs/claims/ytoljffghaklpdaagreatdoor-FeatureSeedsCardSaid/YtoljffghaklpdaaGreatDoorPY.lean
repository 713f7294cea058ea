/- Seeds: what they are; the farthest vector. -/
import Derived.Test.YtoljffghaklpdaaGreatDoorPX
namespace Go.Proofs.YtoljffghaklpdaaGreatDoor
open Go.RowKit

/-- the first place of the greatest of the first n -/
def fs (f : Nat → Int) : Nat → Nat
  | 0 => 0
  | j + 1 => if f (fs f j) < f j then j else fs f j
theorem fs_succ (f : Nat → Int) (j : Nat) : fs f (j + 1) = if f (fs f j) < f j then j else fs f j := rfl
theorem fs_prop (f : Nat → Int) : ∀ n, 1 ≤ n → fs f n < n ∧ (∀ j, j < n → f j ≤ f (fs f n)) ∧ ∀ j, j < fs f n → f j < f (fs f n) := by
  intro n
  induction n with
  | zero => intro h; omega
  | succ n ih =>
    intro _
    rw [fs_succ]
    rcases Nat.eq_zero_or_pos n with h0 | h0
    · subst h0
      have e : (if f (fs f 0) < f 0 then 0 else fs f 0) = 0 := by split <;> rfl
      rw [e]
      exact ⟨Nat.zero_lt_one, fun j hj => by rw [show j = 0 by omega]; exact Int.le_refl _, fun j hj => by omega⟩
    · obtain ⟨h1, h2, h3⟩ := ih h0
      split
      · rename_i hlt
        exact ⟨by omega, fun j hj => by
          rcases Nat.lt_or_ge j n with e | e
          · have := h2 j e; omega
          · rw [show j = n by omega]; exact Int.le_refl _, fun j hj => by have := h2 j hj; omega⟩
      · rename_i hge
        exact ⟨by omega, fun j hj => by
          rcases Nat.lt_or_ge j n with e | e
          · exact h2 j e
          · rw [show j = n by omega]; omega, h3⟩
theorem max_fs (xs : List Int) : ∀ n, 1 ≤ n → n ≤ xs.length → Lib.maxOf (xs.take n) = xs.getD (fs (fun i => xs.getD i 0) n) 0 := by
  intro n
  induction n with
  | zero => intro h; omega
  | succ n ih =>
    intro _ hl
    rcases Nat.eq_zero_or_pos n with h0 | h0
    · subst h0
      have e : fs (fun i => xs.getD i 0) 1 = 0 := by rw [fs_succ]; split <;> rfl
      rw [e]
      exact Lib.maxOf_one xs
    · rw [Lib.maxOf_step xs n h0 (by omega), ih h0 (by omega), fs_succ]
      split
      · rename_i h; omega
      · rename_i h; omega
theorem farthest_any (g n : Nat) (xs : List Int) (w : World) (h : Mk w g 3 .i64 xs) (hl : xs.length = n) (hn : 1 ≤ n) (hn2 : n ≤ 10000) :
    Calls Tryz.prog 79 #[.slice (some ⟨g, 0, none⟩) n n] w fun e w' => e = .returned (.int .i64 ((fs (fun i => xs.getD i 0) n : Nat) : Int)) ∧ w' = w := by
  have hc : ∀ j, j < xs.length → w.cell? ⟨g, 0 + j, none⟩ = some (.int .i64 (xs.getD j 0)) := fun j hj => by rw [Nat.zero_add]; exact h.cell hj
  have hM := Lib.hid (Tryz.slices_Max_int g 0 n n xs w hn (by omega) (by omega) hc)
  have hI := Lib.hid (Tryz.slices_Index_int g 0 n n xs (Lib.maxOf (xs.take n)) w (by omega) (by omega) hc)
  obtain ⟨p1, p2, p3⟩ := fs_prop (fun i => xs.getD i 0) n hn
  have hv := Lib.hid (show Lib.idxOf (xs.take n) (Lib.maxOf (xs.take n)) = ((fs (fun i => xs.getD i 0) n : Nat) : Int) from
    Lib.idxOf_hit xs n _ _ p1 (by omega) (max_fs xs n hn (by omega)).symm (fun j hj => by
      rw [max_fs xs n hn (by omega)]
      have := p3 j hj
      intro e
      omega))
  clear p1 p2 p3
  go_enter Tryz.func79, Tryz.ntmps79
  go_wp2_with fail
  refine hM.out.mono ?_
  rintro e w1 ⟨rfl, rfl⟩
  go_wp2_with fail
  refine hI.out.mono ?_
  rintro e w1 ⟨rfl, rfl⟩
  rw [hv.out]
  go_wp2
  go_ret
  exact ⟨rfl, rfl⟩


/-- the first j seeds -/
def sdS (vs : List (List Int)) : Nat → List (List Int)
  | 0 => []
  | j + 1 => sdS vs j ++ [vs.getD (if j = 0 then 0 else fs (fun i => (nrS (vs.getD i []) (sdS vs j) j).2) vs.length) []]

/-- the distance of vector i to the nearest one of the first j seeds -/
def sdD (vs : List (List Int)) (j i : Nat) : Int := (nrS (vs.getD i []) (sdS vs j) j).2
/-- the place of the next seed -/
def sdN (vs : List (List Int)) (j : Nat) : Nat := if j = 0 then 0 else fs (sdD vs j) vs.length
theorem sdS_succ (vs : List (List Int)) (j : Nat) : sdS vs (j + 1) = sdS vs j ++ [vs.getD (sdN vs j) []] := by
  rw [sdS]; rfl
theorem sdS_len (vs : List (List Int)) : ∀ j, (sdS vs j).length = j := by
  intro j
  induction j with
  | zero => rw [sdS]; rfl
  | succ j ih => rw [sdS_succ, List.length_append, ih]; rfl
theorem nrS_app (x : List Int) (us ts : List (List Int)) : ∀ k, k ≤ us.length → nrS x (us ++ ts) k = nrS x us k := by
  intro k
  induction k with
  | zero => intro _; rfl
  | succ k ih =>
    intro hk
    have e : (us ++ ts).getD k [] = us.getD k [] := by
      rw [List.getD_eq_getElem?_getD, List.getElem?_append_left (by omega), ← List.getD_eq_getElem?_getD]
    show (if dist x ((us ++ ts).getD k []) < (nrS x (us ++ ts) k).2 then _ else _) = if dist x (us.getD k []) < (nrS x us k).2 then _ else _
    rw [e, ih (by omega)]
theorem sdD_succ (vs : List (List Int)) (j i : Nat) : sdD vs (j + 1) i = if dist (vs.getD i []) (vs.getD (sdN vs j) []) < sdD vs j i then dist (vs.getD i []) (vs.getD (sdN vs j) []) else sdD vs j i := by
  have e : (sdS vs (j + 1)).getD j [] = vs.getD (sdN vs j) [] := by
    rw [sdS_succ, List.getD_eq_getElem?_getD, List.getElem?_append_right (by rw [sdS_len]; exact Nat.le_refl _), sdS_len, Nat.sub_self]
    rfl
  have e2 : nrS (vs.getD i []) (sdS vs (j + 1)) j = nrS (vs.getD i []) (sdS vs j) j := by rw [sdS_succ]; exact nrS_app _ _ _ _ (by rw [sdS_len]; exact Nat.le_refl _)
  show (if dist (vs.getD i []) ((sdS vs (j + 1)).getD j []) < (nrS (vs.getD i []) (sdS vs (j + 1)) j).2 then (j, dist (vs.getD i []) ((sdS vs (j + 1)).getD j [])) else nrS (vs.getD i []) (sdS vs (j + 1)) j).2 = _
  rw [e, e2]
  unfold sdD
  split <;> rfl
theorem sdD_zero (vs : List (List Int)) (i : Nat) : sdD vs 0 i = 9223372036854775807 := rfl
theorem sdN_lt (vs : List (List Int)) (j : Nat) (h : 1 ≤ vs.length) : sdN vs j < vs.length := by
  unfold sdN
  split
  · omega
  · exact (fs_prop _ _ h).1
theorem dist_nn (x y : List Int) : 0 ≤ dist x y := by
  have := sm_mono (f := dsF x y) (dsF_nn x y) (Nat.zero_le x.length)
  exact this
theorem sdD_nn (vs : List (List Int)) (j i : Nat) : 0 ≤ sdD vs j i := by
  induction j with
  | zero => rw [sdD_zero]; decide
  | succ j ih =>
    rw [sdD_succ]
    have := dist_nn (vs.getD i []) (vs.getD (sdN vs j) [])
    split <;> omega
theorem sdD_le (vs : List (List Int)) (j i : Nat) : sdD vs j i ≤ 9223372036854775807 := by
  induction j with
  | zero => rw [sdD_zero]; decide
  | succ j ih =>
    rw [sdD_succ]
    split <;> omega
/-- how many seeds there are -/
def SdP (vs : List (List Int)) (k j : Nat) : Prop := j ≤ k ∧ (∀ i, i < j → 0 < sdD vs i (sdN vs i)) ∧ (j < k → sdD vs j (sdN vs j) ≤ 0)
theorem SdP.one {vs : List (List Int)} {k j j' : Nat} (h : SdP vs k j) (h' : SdP vs k j') : j = j' := by
  rcases Nat.lt_trichotomy j j' with e | e | e
  · have a := h.2.2 (by have := h'.1; omega)
    have b := h'.2.1 j e
    omega
  · exact e
  · have a := h'.2.2 (by have := h.1; omega)
    have b := h.2.1 j' e
    omega
end Go.Proofs.YtoljffghaklpdaaGreatDoor
