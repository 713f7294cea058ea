/- Training never raises the cost: the mathematics. -/
import Derived.Test.YtfgiiidfpbpniaaGreatDoorLA
namespace Go.Proofs.YtfgiiidfpbpniaaGreatDoor
open Go.RowKit

/-- the sum over a list -/
def ls (f : List Int → Int) : List (List Int) → Int
  | [] => 0
  | v :: l => f v + ls f l
theorem ls_sm (F : List Int → Int) : ∀ l : List (List Int), sm l.length (fun i => F (l.getD i [])) = ls F l := by
  intro l
  induction l with
  | nil => rfl
  | cons v l ih =>
    show sm (l.length + 1) _ = F v + ls F l
    rw [sm_front, ← ih]
    rfl
theorem ls_le {f g : List Int → Int} : ∀ {l : List (List Int)}, (∀ v ∈ l, f v ≤ g v) → ls f l ≤ ls g l := by
  intro l
  induction l with
  | nil => intro _; exact Int.le_refl _
  | cons v l ih =>
    intro h
    have h1 := h v (List.mem_cons_self ..)
    have h2 := ih (fun u hu => h u (List.mem_cons_of_mem _ hu))
    show f v + ls f l ≤ g v + ls g l
    omega
theorem ls_eq {f g : List Int → Int} {l : List (List Int)} (h : ∀ v ∈ l, f v = g v) : ls f l = ls g l := by
  have h1 := ls_le (f := f) (g := g) (l := l) (fun v hv => by rw [h v hv]; exact Int.le_refl _)
  have h2 := ls_le (f := g) (g := f) (l := l) (fun v hv => by rw [h v hv]; exact Int.le_refl _)
  omega
theorem sm_le {n : Nat} {f g : Nat → Int} (h : ∀ i, i < n → f i ≤ g i) : sm n f ≤ sm n g := by
  induction n with
  | zero => exact Int.le_refl _
  | succ n ih =>
    have h1 := ih (fun i hi => h i (by omega))
    have h2 := h n (by omega)
    show sm n f + f n ≤ sm n g + g n
    omega
theorem ls_sm_swap (m : Nat) (F : List Int → Nat → Int) : ∀ l : List (List Int), ls (fun v => sm m (F v)) l = sm m fun j => ls (fun v => F v j) l := by
  intro l
  induction l with
  | nil => exact (sm_none m).symm
  | cons v l ih =>
    show sm m (F v) + ls (fun v => sm m (F v)) l = sm m fun j => F v j + ls (fun v => F v j) l
    rw [ih, sm_add2]
theorem ls_group (n : Nat) (q : List Int → Nat) (G : List Int → Nat → Int) : ∀ l : List (List Int), (∀ v ∈ l, q v < n) → ls (fun v => G v (q v)) l = sm n fun k => ls (fun v => G v k) (l.filter fun v => decide (q v = k)) := by
  intro l
  induction l with
  | nil => intro _; exact (sm_none n).symm
  | cons v l ih =>
    intro h
    have h1 := ih (fun u hu => h u (List.mem_cons_of_mem _ hu))
    show G v (q v) + ls (fun v => G v (q v)) l = _
    rw [h1, ← sm_one n (h v (List.mem_cons_self ..)) (fun k => G v k), ← sm_add2]
    refine sm_eqv fun k _ => ?_
    rw [List.filter_cons]
    by_cases e : q v = k
    · simp only [e, if_true, decide_true]
      rfl
    · simp only [e, if_false, decide_false, Bool.false_eq_true]
      omega
theorem sq_diff (y t : Int) : (y + t) * (y + t) = y * y + t * (2 * y + t) := by
  rw [Int.add_mul, Int.mul_add, Int.mul_add, Int.mul_add, Int.mul_left_comm t 2 y, Int.mul_comm y t]
  omega
theorem ls_sq (x : List Int → Int) (a t : Int) : ∀ l : List (List Int), ls (fun v => (x v - a + t) * (x v - a + t)) l = ls (fun v => (x v - a) * (x v - a)) l + t * (2 * (ls x l - l.length * a) + l.length * t) := by
  intro l
  induction l with
  | nil => show (0 : Int) = 0 + t * (2 * (0 - ((0 : Nat) : Int) * a) + ((0 : Nat) : Int) * t); simp
  | cons v l ih =>
    show (x v - a + t) * (x v - a + t) + ls _ l = (x v - a) * (x v - a) + ls _ l + t * (2 * (x v + ls x l - ((l.length + 1 : Nat) : Int) * a) + ((l.length + 1 : Nat) : Int) * t)
    rw [ih, sq_diff]
    have e1 : ((l.length + 1 : Nat) : Int) * a = l.length * a + a := by rw [Int.natCast_add, Int.add_mul]; simp
    have e2 : ((l.length + 1 : Nat) : Int) * t = l.length * t + t := by rw [Int.natCast_add, Int.add_mul]; simp
    rw [e1, e2, show 2 * (x v + ls x l - (l.length * a + a)) + (l.length * t + t) = (2 * (x v - a) + t) + (2 * (ls x l - l.length * a) + l.length * t) by omega, Int.mul_add t (2 * (x v - a) + t)]
    omega
theorem ls_best (x : List Int → Int) (u : Int) (l : List (List Int)) (hl : 1 ≤ l.length) : ls (fun v => (x v - rnd (ls x l) l.length) * (x v - rnd (ls x l) l.length)) l ≤ ls (fun v => (x v - u) * (x v - u)) l := by
  have hn := rnd_close (a := ls x l) (n := (l.length : Int)) (by omega)
  generalize rnd (ls x l) l.length = a at *
  have e := ls_sq x a (a - u) l
  have e2 : ls (fun v => (x v - a + (a - u)) * (x v - a + (a - u))) l = ls (fun v => (x v - u) * (x v - u)) l := ls_eq fun v _ => by rw [show x v - a + (a - u) = x v - u by omega]
  rw [← e2, e]
  have h0 : 0 ≤ (a - u) * (2 * (ls x l - l.length * a) + l.length * (a - u)) := by
    generalize a - u = t at *
    generalize ls x l - l.length * a = d at *
    rcases Int.lt_trichotomy t 0 with h | h | h
    · have h1 : (l.length : Int) * t ≤ l.length * -1 := Int.mul_le_mul_of_nonneg_left (by omega) (by omega)
      rw [← Int.neg_mul_neg]
      exact Int.mul_nonneg (by omega) (by omega)
    · subst h; simp
    · have h1 : (l.length : Int) * 1 ≤ l.length * t := Int.mul_le_mul_of_nonneg_left (by omega) (by omega)
      exact Int.mul_nonneg (by omega) (by omega)
  omega
theorem nrS_le (x : List Int) (us : List (List Int)) : ∀ k j, j < k → (nrS x us k).2 ≤ dist x (us.getD j []) := by
  intro k
  induction k with
  | zero => intro j h; omega
  | succ k ih =>
    intro j h
    show (if dist x (us.getD k []) < (nrS x us k).2 then (k, dist x (us.getD k [])) else nrS x us k).2 ≤ _
    rcases Nat.lt_or_ge j k with h1 | h1
    · have := ih j h1
      split
      · show dist x (us.getD k []) ≤ _; omega
      · exact this
    · obtain rfl : j = k := by omega
      split
      · exact Int.le_refl _
      · omega
theorem mean_best {m : Nat} {g : List (List Int)} (hg : VecS m g) (hl : 1 ≤ g.length) (u : List Int) : ls (fun v => dist v (meanL m g)) g ≤ ls (fun v => dist v u) g := by
  have e : ∀ u : List Int, ls (fun v => dist v u) g = sm m fun j => ls (fun v => (v.getD j 0 - u.getD j 0) * (v.getD j 0 - u.getD j 0)) g := fun u => by
    rw [← ls_sm_swap]
    refine ls_eq fun v hv => ?_
    unfold dist
    rw [(hg v hv).1]; rfl
  rw [e, e]
  refine sm_le fun j hj => ?_
  have e2 : (meanL m g).getD j 0 = rnd (ls (fun v => v.getD j 0) g) g.length := by
    unfold meanL colS
    rw [tab_getD hj, ls_sm (fun v => v.getD j 0) g]
  rw [e2]
  exact ls_best (fun v => v.getD j 0) (u.getD j 0) g hl

theorem mapN_getD {n t : Nat} {f : Nat → List Int} (h : t < n) : ((List.range n).map f).getD t [] = f t := by
  rw [List.getD_eq_getElem?_getD]
  simp [h]
theorem cst_ls (vs us : List (List Int)) : cst vs us = ls (fun v => (nrS v us us.length).2) vs := ls_sm (fun v => (nrS v us us.length).2) vs
theorem imp_len (m : Nat) (vs us : List (List Int)) : (impL m vs us).length = us.length := by unfold impL; rw [List.length_map, List.length_range]
theorem imp_getD {m : Nat} {vs us : List (List Int)} {k : Nat} (hk : k < us.length) : (impL m vs us).getD k [] = impK m vs us k := by unfold impL; exact mapN_getD hk
/-- improving does not raise the cost -/
theorem cst_falls {m : Nat} {vs us : List (List Int)} (hm : m ≤ 64) (hv : VecS m vs) (hu : VecS m us) (hn : 1 ≤ us.length) : cst vs (impL m vs us) ≤ cst vs us := by
  have hat : ∀ v ∈ vs, (nrS v us us.length).1 < us.length ∧ (nrS v us us.length).2 = dist v (us.getD (nrS v us us.length).1 []) := fun v hv9 => by
    have h1 := hv v hv9
    have h2 := nrS_at h1.2 (by rw [h1.1]; exact hm) (fun u h8 => by rw [h1.1]; exact hu u h8) hn (Nat.le_refl us.length)
    have h3 := nrS_bd h1.2 (by rw [h1.1]; exact hm) (fun u h8 => by rw [h1.1]; exact hu u h8) (Nat.le_refl us.length)
    exact ⟨(h3.2.2.2 hn).2, h2⟩
  rw [cst_ls, cst_ls]
  have e1 : ls (fun v => (nrS v us us.length).2) vs = ls (fun v => dist v (us.getD (nrS v us us.length).1 [])) vs := ls_eq fun v h9 => (hat v h9).2
  have e2 := ls_group us.length (fun v => (nrS v us us.length).1) (fun v k => dist v (us.getD k [])) vs (fun v h9 => (hat v h9).1)
  have e3 := ls_group us.length (fun v => (nrS v us us.length).1) (fun v k => dist v (impK m vs us k)) vs (fun v h9 => (hat v h9).1)
  have e4 : ls (fun v => (nrS v (impL m vs us) (impL m vs us).length).2) vs ≤ ls (fun v => dist v (impK m vs us (nrS v us us.length).1)) vs := ls_le fun v h9 => by
    have h1 := (hat v h9).1
    have h2 := nrS_le v (impL m vs us) (impL m vs us).length _ (by rw [imp_len]; exact h1)
    rw [imp_getD h1] at h2
    exact h2
  have e5 : (sm us.length fun k => ls (fun v => dist v (impK m vs us k)) (vs.filter fun v => decide ((nrS v us us.length).1 = k))) ≤ sm us.length fun k => ls (fun v => dist v (us.getD k [])) (vs.filter fun v => decide ((nrS v us us.length).1 = k)) := sm_le fun k hk => by
    show ls _ (grpL us k vs) ≤ ls _ (grpL us k vs)
    by_cases h0 : grpL us k vs = []
    · rw [h0]; exact Int.le_refl _
    · have e6 : impK m vs us k = meanL m (grpL us k vs) := by unfold impK; rw [if_neg h0]
      rw [e6]
      refine mean_best (fun v h9 => hv v (grpL_sub h9)) ?_ _
      rcases Nat.eq_zero_or_pos (grpL us k vs).length with e | e
      · exact absurd (List.eq_nil_of_length_eq_zero e) h0
      · exact e
  rw [e1]
  omega
end Go.Proofs.YtfgiiidfpbpniaaGreatDoor
