/- Transforms of sums, multiples and turned lists. -/
import Derived.Test.YtoljffghaklpdaaDoorKA
namespace Go.Proofs.YtoljffghaklpdaaDoor
open Go.RowKit

theorem sm_front (n : Nat) (f : Nat → Int) : sm (n + 1) f = f 0 + sm n fun i => f (i + 1) := by
  induction n with
  | zero => show 0 + f 0 = f 0 + 0; omega
  | succ n ih =>
    show sm (n + 1) f + f (n + 1) = f 0 + (sm n (fun i => f (i + 1)) + f (n + 1))
    rw [ih]; omega
theorem sm_turn (n : Nat) : ∀ f : Nat → Int, sm n (fun i => f (n - 1 - i)) = sm n f := by
  induction n with
  | zero => intro f; rfl
  | succ n ih =>
    intro f
    rw [sm_front]
    show f (n + 1 - 1 - 0) + sm n (fun i => f (n + 1 - 1 - (i + 1))) = sm n f + f n
    have e : sm n (fun i => f (n + 1 - 1 - (i + 1))) = sm n (fun i => f (n - 1 - i)) := sm_eqv fun i hi => by
      rw [show n + 1 - 1 - (i + 1) = n - 1 - i by omega]
    rw [e, ih f]
    show f n + sm n f = _
    omega
theorem cs_mod (j : Nat) : cs j = cs (j % 256) := by
  unfold cs
  rw [Nat.mod_mod]
theorem cs_even : ∀ u, u < 256 → cs ((256 - u) % 256) = cs u := by decide +kernel
theorem cs_half : ∀ u, u < 256 → cs ((384 - u) % 256) = -cs u := by decide +kernel
theorem cs_back (k m : Nat) (h : m ≤ 128 * k) : cs (128 * k - m) = if k % 2 = 0 then cs m else -cs m := by
  have hu : m % 256 < 256 := Nat.mod_lt _ (by decide)
  rw [cs_mod (128 * k - m), cs_mod m]
  by_cases h2 : k % 2 = 0
  · rw [if_pos h2, ← cs_even _ hu, show (128 * k - m) % 256 = (256 - m % 256) % 256 by omega]
  · rw [if_neg h2, ← cs_half _ hu, show (128 * k - m) % 256 = (384 - m % 256) % 256 by omega]
theorem tr_add {xs ys zs : List Int} {n k : Nat} (h : ∀ i, i < n → zs.getD i 0 = xs.getD i 0 + ys.getD i 0) : trA zs n k = trA xs n k + trA ys n k := by
  unfold trA
  rw [← sm_add2]
  refine sm_eqv fun i hi => ?_
  rw [h i hi, Int.add_mul]
theorem tr_mul {xs zs : List Int} {n k : Nat} {by' : Int} (h : ∀ i, i < n → zs.getD i 0 = by' * xs.getD i 0) : trA zs n k = by' * trA xs n k := by
  unfold trA
  rw [← sm_mul]
  refine sm_eqv fun i hi => ?_
  rw [h i hi, Int.mul_assoc]
theorem turn_arg {n i k : Nat} (hn : lenB n = true) (hi : i < n) : (2 * i + 1) * k * (64 / n) = 128 * k - (2 * (n - 1 - i) + 1) * k * (64 / n) ∧ (2 * (n - 1 - i) + 1) * k * (64 / n) ≤ 128 * k := by
  obtain ⟨h1, h2, h3⟩ := lenB_le hn
  have e : n * (64 / n) = 64 := by have := Nat.div_add_mod 64 n; omega
  have e2 : (2 * i + 1) * k * (64 / n) + (2 * (n - 1 - i) + 1) * k * (64 / n) = 128 * k := by
    rw [← Nat.add_mul, ← Nat.add_mul, show 2 * i + 1 + (2 * (n - 1 - i) + 1) = 2 * n by omega, Nat.mul_assoc, Nat.mul_assoc, Nat.mul_left_comm n k, e]
    omega
  omega
theorem tr_turn {xs zs : List Int} {n k : Nat} (hn : lenB n = true) (h : ∀ i, i < n → zs.getD i 0 = xs.getD (n - 1 - i) 0) : trA zs n k = if k % 2 = 0 then trA xs n k else -trA xs n k := by
  obtain ⟨F, hF⟩ : ∃ F : Nat → Int, F = fun j => if k % 2 = 0 then xs.getD j 0 * cs ((2 * j + 1) * k * (64 / n)) else -(xs.getD j 0 * cs ((2 * j + 1) * k * (64 / n))) := ⟨_, rfl⟩
  have e1 : trA zs n k = sm n (fun i => F (n - 1 - i)) := by
    rw [hF]
    unfold trA
    refine sm_eqv fun i hi => ?_
    obtain ⟨a1, a2⟩ := turn_arg (k := k) hn hi
    rw [h i hi, a1, cs_back k _ a2]
    show _ = if k % 2 = 0 then _ else _
    split
    · rfl
    · rw [Int.mul_neg]
  rw [e1, sm_turn, hF]
  by_cases h2 : k % 2 = 0
  · simp only [h2, if_true]; rfl
  · simp only [h2, if_false]
    have : sm n (fun j => -(xs.getD j 0 * cs ((2 * j + 1) * k * (64 / n)))) = sm n (fun j => -1 * (xs.getD j 0 * cs ((2 * j + 1) * k * (64 / n)))) := sm_eqv fun j _ => by omega
    rw [this, sm_mul]
    show -1 * trA xs n k = _
    omega
theorem trOk_of {zs : List Int} {n : Nat} (hl : zs.length = n) (hn : lenB n = true) (h : ∀ i, i < n → -65536 ≤ zs.getD i 0 ∧ zs.getD i 0 ≤ 65536) : trOk zs = true := by
  unfold trOk
  rw [hl, hn]
  simp only [Bool.true_and]
  unfold allB
  rw [List.all_eq_true]
  intro x hx
  obtain ⟨j, hj, rfl⟩ := List.getElem_of_mem hx
  have := h j (by omega)
  rw [getD_in hj] at this
  simp [okB_iff]
  omega
end Go.Proofs.YtoljffghaklpdaaDoor


/- Training never raises the cost: the mathematics. -/
namespace Go.Proofs.YtoljffghaklpdaaDoor
open Go.RowKit

/-- the sum over a list -/
def ls (f : List Int → Int) : List (List Int) → Int
  | [] => 0
  | v :: l => f v + ls f l
theorem ls_sm (F : List Int → Int) : ∀ l : List (List Int), sm l.length (fun i => F (l.getD i [])) = ls F l := by
  intro l
  induction l with
  | nil => rfl
  | cons v l ih =>
    show sm (l.length + 1) _ = F v + ls F l
    rw [sm_front, ← ih]
    rfl
theorem ls_le {f g : List Int → Int} : ∀ {l : List (List Int)}, (∀ v ∈ l, f v ≤ g v) → ls f l ≤ ls g l := by
  intro l
  induction l with
  | nil => intro _; exact Int.le_refl _
  | cons v l ih =>
    intro h
    have h1 := h v (List.mem_cons_self ..)
    have h2 := ih (fun u hu => h u (List.mem_cons_of_mem _ hu))
    show f v + ls f l ≤ g v + ls g l
    omega
theorem ls_eq {f g : List Int → Int} {l : List (List Int)} (h : ∀ v ∈ l, f v = g v) : ls f l = ls g l := by
  have h1 := ls_le (f := f) (g := g) (l := l) (fun v hv => by rw [h v hv]; exact Int.le_refl _)
  have h2 := ls_le (f := g) (g := f) (l := l) (fun v hv => by rw [h v hv]; exact Int.le_refl _)
  omega
theorem sm_le {n : Nat} {f g : Nat → Int} (h : ∀ i, i < n → f i ≤ g i) : sm n f ≤ sm n g := by
  induction n with
  | zero => exact Int.le_refl _
  | succ n ih =>
    have h1 := ih (fun i hi => h i (by omega))
    have h2 := h n (by omega)
    show sm n f + f n ≤ sm n g + g n
    omega
theorem ls_sm_swap (m : Nat) (F : List Int → Nat → Int) : ∀ l : List (List Int), ls (fun v => sm m (F v)) l = sm m fun j => ls (fun v => F v j) l := by
  intro l
  induction l with
  | nil => exact (sm_none m).symm
  | cons v l ih =>
    show sm m (F v) + ls (fun v => sm m (F v)) l = sm m fun j => F v j + ls (fun v => F v j) l
    rw [ih, sm_add2]
theorem ls_group (n : Nat) (q : List Int → Nat) (G : List Int → Nat → Int) : ∀ l : List (List Int), (∀ v ∈ l, q v < n) → ls (fun v => G v (q v)) l = sm n fun k => ls (fun v => G v k) (l.filter fun v => decide (q v = k)) := by
  intro l
  induction l with
  | nil => intro _; exact (sm_none n).symm
  | cons v l ih =>
    intro h
    have h1 := ih (fun u hu => h u (List.mem_cons_of_mem _ hu))
    show G v (q v) + ls (fun v => G v (q v)) l = _
    rw [h1, ← sm_one n (h v (List.mem_cons_self ..)) (fun k => G v k), ← sm_add2]
    refine sm_eqv fun k _ => ?_
    rw [List.filter_cons]
    by_cases e : q v = k
    · simp only [e, if_true, decide_true]
      rfl
    · simp only [e, if_false, decide_false, Bool.false_eq_true]
      omega
theorem sq_diff (y t : Int) : (y + t) * (y + t) = y * y + t * (2 * y + t) := by
  rw [Int.add_mul, Int.mul_add, Int.mul_add, Int.mul_add, Int.mul_left_comm t 2 y, Int.mul_comm y t]
  omega
theorem ls_sq (x : List Int → Int) (a t : Int) : ∀ l : List (List Int), ls (fun v => (x v - a + t) * (x v - a + t)) l = ls (fun v => (x v - a) * (x v - a)) l + t * (2 * (ls x l - l.length * a) + l.length * t) := by
  intro l
  induction l with
  | nil => show (0 : Int) = 0 + t * (2 * (0 - ((0 : Nat) : Int) * a) + ((0 : Nat) : Int) * t); simp
  | cons v l ih =>
    show (x v - a + t) * (x v - a + t) + ls _ l = (x v - a) * (x v - a) + ls _ l + t * (2 * (x v + ls x l - ((l.length + 1 : Nat) : Int) * a) + ((l.length + 1 : Nat) : Int) * t)
    rw [ih, sq_diff]
    have e1 : ((l.length + 1 : Nat) : Int) * a = l.length * a + a := by rw [Int.natCast_add, Int.add_mul]; simp
    have e2 : ((l.length + 1 : Nat) : Int) * t = l.length * t + t := by rw [Int.natCast_add, Int.add_mul]; simp
    rw [e1, e2, show 2 * (x v + ls x l - (l.length * a + a)) + (l.length * t + t) = (2 * (x v - a) + t) + (2 * (ls x l - l.length * a) + l.length * t) by omega, Int.mul_add t (2 * (x v - a) + t)]
    omega
theorem ls_best (x : List Int → Int) (u : Int) (l : List (List Int)) (hl : 1 ≤ l.length) : ls (fun v => (x v - rnd (ls x l) l.length) * (x v - rnd (ls x l) l.length)) l ≤ ls (fun v => (x v - u) * (x v - u)) l := by
  have hn := rnd_close (a := ls x l) (n := (l.length : Int)) (by omega)
  generalize rnd (ls x l) l.length = a at *
  have e := ls_sq x a (a - u) l
  have e2 : ls (fun v => (x v - a + (a - u)) * (x v - a + (a - u))) l = ls (fun v => (x v - u) * (x v - u)) l := ls_eq fun v _ => by rw [show x v - a + (a - u) = x v - u by omega]
  rw [← e2, e]
  have h0 : 0 ≤ (a - u) * (2 * (ls x l - l.length * a) + l.length * (a - u)) := by
    generalize a - u = t at *
    generalize ls x l - l.length * a = d at *
    rcases Int.lt_trichotomy t 0 with h | h | h
    · have h1 : (l.length : Int) * t ≤ l.length * -1 := Int.mul_le_mul_of_nonneg_left (by omega) (by omega)
      rw [← Int.neg_mul_neg]
      exact Int.mul_nonneg (by omega) (by omega)
    · subst h; simp
    · have h1 : (l.length : Int) * 1 ≤ l.length * t := Int.mul_le_mul_of_nonneg_left (by omega) (by omega)
      exact Int.mul_nonneg (by omega) (by omega)
  omega
theorem nrS_le (x : List Int) (us : List (List Int)) : ∀ k j, j < k → (nrS x us k).2 ≤ dist x (us.getD j []) := by
  intro k
  induction k with
  | zero => intro j h; omega
  | succ k ih =>
    intro j h
    show (if dist x (us.getD k []) < (nrS x us k).2 then (k, dist x (us.getD k [])) else nrS x us k).2 ≤ _
    rcases Nat.lt_or_ge j k with h1 | h1
    · have := ih j h1
      split
      · show dist x (us.getD k []) ≤ _; omega
      · exact this
    · obtain rfl : j = k := by omega
      split
      · exact Int.le_refl _
      · omega
theorem mean_best {m : Nat} {g : List (List Int)} (hg : VecS m g) (hl : 1 ≤ g.length) (u : List Int) : ls (fun v => dist v (meanL m g)) g ≤ ls (fun v => dist v u) g := by
  have e : ∀ u : List Int, ls (fun v => dist v u) g = sm m fun j => ls (fun v => (v.getD j 0 - u.getD j 0) * (v.getD j 0 - u.getD j 0)) g := fun u => by
    rw [← ls_sm_swap]
    refine ls_eq fun v hv => ?_
    unfold dist
    rw [(hg v hv).1]; rfl
  rw [e, e]
  refine sm_le fun j hj => ?_
  have e2 : (meanL m g).getD j 0 = rnd (ls (fun v => v.getD j 0) g) g.length := by
    unfold meanL colS
    rw [tab_getD hj, ls_sm (fun v => v.getD j 0) g]
  rw [e2]
  exact ls_best (fun v => v.getD j 0) (u.getD j 0) g hl

theorem mapN_getD {n t : Nat} {f : Nat → List Int} (h : t < n) : ((List.range n).map f).getD t [] = f t := by
  rw [List.getD_eq_getElem?_getD]
  simp [h]
theorem cst_ls (vs us : List (List Int)) : cst vs us = ls (fun v => (nrS v us us.length).2) vs := ls_sm (fun v => (nrS v us us.length).2) vs
theorem imp_len (m : Nat) (vs us : List (List Int)) : (impL m vs us).length = us.length := by unfold impL; rw [List.length_map, List.length_range]
theorem imp_getD {m : Nat} {vs us : List (List Int)} {k : Nat} (hk : k < us.length) : (impL m vs us).getD k [] = impK m vs us k := by unfold impL; exact mapN_getD hk
/-- improving does not raise the cost -/
theorem cst_falls {m : Nat} {vs us : List (List Int)} (hm : m ≤ 64) (hv : VecS m vs) (hu : VecS m us) (hn : 1 ≤ us.length) : cst vs (impL m vs us) ≤ cst vs us := by
  have hat : ∀ v ∈ vs, (nrS v us us.length).1 < us.length ∧ (nrS v us us.length).2 = dist v (us.getD (nrS v us us.length).1 []) := fun v hv9 => by
    have h1 := hv v hv9
    have h2 := nrS_at h1.2 (by rw [h1.1]; exact hm) (fun u h8 => by rw [h1.1]; exact hu u h8) hn (Nat.le_refl us.length)
    have h3 := nrS_bd h1.2 (by rw [h1.1]; exact hm) (fun u h8 => by rw [h1.1]; exact hu u h8) (Nat.le_refl us.length)
    exact ⟨(h3.2.2.2 hn).2, h2⟩
  rw [cst_ls, cst_ls]
  have e1 : ls (fun v => (nrS v us us.length).2) vs = ls (fun v => dist v (us.getD (nrS v us us.length).1 [])) vs := ls_eq fun v h9 => (hat v h9).2
  have e2 := ls_group us.length (fun v => (nrS v us us.length).1) (fun v k => dist v (us.getD k [])) vs (fun v h9 => (hat v h9).1)
  have e3 := ls_group us.length (fun v => (nrS v us us.length).1) (fun v k => dist v (impK m vs us k)) vs (fun v h9 => (hat v h9).1)
  have e4 : ls (fun v => (nrS v (impL m vs us) (impL m vs us).length).2) vs ≤ ls (fun v => dist v (impK m vs us (nrS v us us.length).1)) vs := ls_le fun v h9 => by
    have h1 := (hat v h9).1
    have h2 := nrS_le v (impL m vs us) (impL m vs us).length _ (by rw [imp_len]; exact h1)
    rw [imp_getD h1] at h2
    exact h2
  have e5 : (sm us.length fun k => ls (fun v => dist v (impK m vs us k)) (vs.filter fun v => decide ((nrS v us us.length).1 = k))) ≤ sm us.length fun k => ls (fun v => dist v (us.getD k [])) (vs.filter fun v => decide ((nrS v us us.length).1 = k)) := sm_le fun k hk => by
    show ls _ (grpL us k vs) ≤ ls _ (grpL us k vs)
    by_cases h0 : grpL us k vs = []
    · rw [h0]; exact Int.le_refl _
    · have e6 : impK m vs us k = meanL m (grpL us k vs) := by unfold impK; rw [if_neg h0]
      rw [e6]
      refine mean_best (fun v h9 => hv v (grpL_sub h9)) ?_ _
      rcases Nat.eq_zero_or_pos (grpL us k vs).length with e | e
      · exact absurd (List.eq_nil_of_length_eq_zero e) h0
      · exact e
  rw [e1]
  omega
end Go.Proofs.YtoljffghaklpdaaDoor


/- Codebooks that are improved again and again: what they are; lists of vectors compared. -/
namespace Go.Proofs.YtoljffghaklpdaaDoor
open Go.RowKit

theorem rnd_mid {S N M : Int} (hN : 1 ≤ N) (h1 : -(N * M) ≤ S) (h2 : S ≤ N * M) : -M ≤ rnd S N ∧ rnd S N ≤ M := by
  have h := rnd_close (a := S) hN
  generalize rnd S N = r at *
  constructor
  · rcases Int.lt_or_le r (-M) with h3 | h3
    · have : N * r ≤ N * (-M - 1) := Int.mul_le_mul_of_nonneg_left (by omega) (by omega)
      rw [Int.mul_sub, Int.mul_neg] at this
      omega
    · exact h3
  · rcases Int.lt_or_le M r with h3 | h3
    · have : N * (M + 1) ≤ N * r := Int.mul_le_mul_of_nonneg_left (by omega) (by omega)
      rw [Int.mul_add] at this
      omega
    · exact h3
theorem allB_mk {lo hi : Int} {xs : List Int} (h : ∀ i, i < xs.length → lo ≤ xs.getD i 0 ∧ xs.getD i 0 ≤ hi) : allB lo hi xs = true := by
  unfold allB
  rw [List.all_eq_true]
  intro x hx
  obtain ⟨j, hj, rfl⟩ := List.getElem_of_mem hx
  have := h j hj
  rw [getD_in hj] at this
  simp [okB_iff]
  omega
theorem imp_vec {m : Nat} {vs us : List (List Int)} (hv : VecS m vs) (hu : VecS m us) : VecS m (impL m vs us) := by
  intro x hx
  unfold impL at hx
  obtain ⟨k, hk, rfl⟩ := List.mem_map.1 hx
  have hk := List.mem_range.1 hk
  unfold impK
  by_cases h0 : grpL us k vs = []
  · rw [if_pos h0]
    exact hu _ (mem_getD hk)
  · rw [if_neg h0]
    have hN : 1 ≤ (grpL us k vs).length := by
      rcases Nat.eq_zero_or_pos (grpL us k vs).length with e | e
      · exact absurd (List.eq_nil_of_length_eq_zero e) h0
      · exact e
    refine ⟨tab_len _ _, allB_mk fun i hi => ?_⟩
    have hi : i < m := by unfold meanL at hi; rw [tab_len] at hi; exact hi
    unfold meanL
    rw [tab_getD hi]
    have h1 := colS_bd (vs := grpL us k vs) (M := 1048576) (by decide) (fun x hx => (hv x (grpL_sub hx)).2) i (grpL us k vs).length
    exact rnd_mid (by omega) h1.1 h1.2
theorem codC_of {vs us : List (List Int)} {m : Nat} (h1 : vs.length ≤ 10000) (h2 : 1 ≤ us.length) (h3 : us.length ≤ 256) (h4 : 1 ≤ m) (h5 : m ≤ 64) (hv : VecS m vs) (hu : VecS m us) : codC vs us = 0 := by
  have hrow : ∀ x ∈ vs ++ us, x.length = m ∧ allB (-1048576) 1048576 x = true := fun x hx => by
    rcases List.mem_append.1 hx with h | h
    · exact hv x h
    · exact hu x h
  have hhead : ((vs ++ us).headD []).length = m := by
    have hne : (vs ++ us).headD [] ∈ vs ++ us := by
      cases h : vs ++ us with
      | nil =>
        rw [List.append_eq_nil_iff] at h
        rw [h.2] at h2
        exact absurd h2 (by decide)
      | cons y ys => simp
    exact (hrow _ hne).1
  have hvec : vecsB (vs ++ us) = true := by
    unfold vecsB
    rw [List.all_eq_true]
    intro x hx
    have := hrow x hx
    unfold rowOk vecB
    rw [hhead, this.2, this.1]
    simp [okB_iff]
    omega
  have hc : chk2 vs us = 0 := by
    unfold chk2
    rw [if_neg (by omega), if_pos hvec]
  unfold codC
  rw [if_pos hc, if_pos (by rw [okB_iff]; omega)]
/-- the codebook, improved k times -/
def itr (m : Nat) (vs us : List (List Int)) : Nat → List (List Int)
  | 0 => us
  | k + 1 => impL m vs (itr m vs us k)
theorem itr_len (m : Nat) (vs us : List (List Int)) : ∀ k, (itr m vs us k).length = us.length := by
  intro k
  induction k with
  | zero => rfl
  | succ k ih => show (impL m vs (itr m vs us k)).length = _; rw [imp_len, ih]
theorem itr_vec {m : Nat} {vs us : List (List Int)} (hv : VecS m vs) (hu : VecS m us) : ∀ k, VecS m (itr m vs us k) := by
  intro k
  induction k with
  | zero => exact hu
  | succ k ih => exact imp_vec hv ih
theorem itr_falls {m : Nat} {vs us : List (List Int)} (hm : m ≤ 64) (hv : VecS m vs) (hu : VecS m us) (hn : 1 ≤ us.length) (k : Nat) : cst vs (itr m vs us (k + 1)) ≤ cst vs (itr m vs us k) :=
  cst_falls hm hv (itr_vec hv hu k) (by rw [itr_len]; exact hn)
theorem itr_mono {m : Nat} {vs us : List (List Int)} (hm : m ≤ 64) (hv : VecS m vs) (hu : VecS m us) (hn : 1 ≤ us.length) {a b : Nat} (h : a ≤ b) : cst vs (itr m vs us b) ≤ cst vs (itr m vs us a) := by
  induction b with
  | zero =>
    obtain rfl : a = 0 := by omega
    exact Int.le_refl _
  | succ b ih =>
    rcases Nat.lt_or_ge b a with h1 | h1
    · obtain rfl : a = b + 1 := by omega
      exact Int.le_refl _
    · have := itr_falls hm hv hu hn b
      have := ih h1
      omega
/-- training ends after k rounds -/
def Stop (m : Nat) (vs us : List (List Int)) (r k : Nat) : Prop := k ≤ r ∧ (∀ j, j < k → itr m vs us (j + 1) ≠ itr m vs us j) ∧ (k < r → itr m vs us (k + 1) = itr m vs us k)

theorem Equal_any (A A' : Option Addr) (n c n' c' : Nat) (xs ys : List Int) (w : World) (h : Sl .i64 w A n c xs) (h' : Sl .i64 w A' n' c' ys) :
    Calls Tryd.prog 88 #[.slice A n c, .slice A' n' c'] w fun e w' => ∃ k, e = .returned (.bool (sameB xs ys)) ∧ w' = w.drewN k := by
  have hl := Lib.hid h.len
  have hl' := Lib.hid h'.len
  have hcap := h.cap
  have htop := h.top
  have hcap' := h'.cap
  by_cases hn : n = n'
  · subst hn
    go_enter Tryd.func88, Tryd.ntmps88
    go_wp2
    go_loopw [13] (fun iv wr => ∃ k r : Nat, iv = .int .i64 k ∧ k ≤ n ∧ Hid (xs.take k = ys.take k) ∧ wr = w.drewN r) (fun iv _ => n - (intOf iv).toNat)
    case atStart => exact ⟨0, 0, rfl, Nat.zero_le _, rfl, rfl⟩
    case round =>
      obtain ⟨k, r, rfl, hk, he, rfl⟩ := hrel
      have hr := h.drewN r
      have hr' := h'.drewN r
      generalize hw : w.drewN r = w1 at *
      have hw := Lib.hid hw
      rcases Nat.lt_or_ge k n with hlt | hge
      · obtain ⟨ad, x, rfl, hc, hx⟩ := hr.at_ hlt
        obtain ⟨ad', y, rfl, hc', hy⟩ := hr'.at_ hlt
        have i0 : (0 : Int) ≤ (k : Int) := by omega
        have i1 : (k : Int) < (n : Int) := by omega
        by_cases hxy : x = y
        · subst hxy
          have hs := Lib.hid (show xs.take (k + 1) = ys.take (k + 1) by rw [take_snocD (by rw [hl.out]; exact hlt) hx.out, take_snocD (by rw [hl'.out]; exact hlt) hy.out, he.out])
          go_wp2
          go_quiet (fail)
          go_wp2
          go_roundw
          case rel => exact ⟨k + 1, r + nq, by go_num, hlt, hs.out, by rw [← hw.out]; exact dr_add w r nq⟩
          case measure => simp [intOf]; omega
        · have hs := Lib.hid (sameB_no (xs := xs) (ys := ys) (fun e => hxy (by rw [← hx.out, ← hy.out, e])))
          have hb : (x == y) = false := by simpa using hxy
          have hb' : (x != y) = true := by simpa using hxy
          go_wp2
          go_quiet (fail)
          go_wp2
          go_ret
          exact ⟨r + nq, ret_bool hs.out.symm, by rw [← hw.out]; exact dr_add w r nq⟩
      · have hkn : k = n := by omega
        subst hkn
        have hs := Lib.hid (sameB_yes (xs := xs) (ys := ys) (by have := he.out; rw [List.take_of_length_le (by rw [hl.out]; exact Nat.le_refl _), List.take_of_length_le (by rw [hl'.out]; exact Nat.le_refl _)] at this; exact this))
        go_wp2
        go_ret
        exact ⟨r, ret_bool hs.out.symm, hw.out.symm⟩
  · have hs := Lib.hid (sameB_no (xs := xs) (ys := ys) (fun e => hn (by rw [← hl.out, ← hl'.out, e])))
    have hb : ((n : Int) != (n' : Int)) = true := by simp; omega
    have hb2 : decide (n = n') = false := by simpa using hn
    go_enter Tryd.func88, Tryd.ntmps88
    go_wp2
    go_ret
    exact ⟨0, ret_bool hs.out.symm, rfl⟩

theorem take_snocL {vs : List (List Int)} {k : Nat} {x : List Int} (h : vs[k]? = some x) : vs.take (k + 1) = vs.take k ++ [x] := by
  have hk := lt_of_some h
  rw [take_snoc hk]
  rw [List.getElem?_eq_getElem hk] at h
  injection h with h
  rw [h]

set_option maxHeartbeats 1600000 in
theorem EqualFunc_any (A A' : Option Addr) (n c n' c' : Nat) (vs us : List (List Int)) (w : World) (h : Rr w A n c vs) (h' : Rr w A' n' c' us) :
    Calls Tryd.prog 87 #[.slice A n c, .slice A' n' c', .func (.func 88) #[] #[]] w fun e w' => ∃ b r, e = .returned (.bool b) ∧ (b = true ↔ vs = us) ∧ w' = w.drewN r := by
  have hl := Lib.hid h.len
  have hl' := Lib.hid h'.len
  have hcap := h.cap
  have htop := h.top
  have hcap' := h'.cap
  by_cases hn : n = n'
  · subst hn
    go_enter Tryd.func87, Tryd.ntmps87
    go_wp2
    go_loopw [17] (fun iv wr' => ∃ (k r : Nat) (wr : World), wr = wr' ∧ iv = .int .i64 k ∧ k ≤ n ∧ Hid (vs.take k = us.take k) ∧ Hid (wr = w.drewN r) ∧ Below w.heap.size w wr) (fun iv _ => n - (intOf iv).toNat)
    case atStart => exact ⟨0, 0, _, rfl, rfl, Nat.zero_le _, rfl, rfl, Below.refl _ _⟩
    case round =>
      obtain ⟨k, r, wr, rfl, rfl, hk, he, hw, hbr⟩ := hrel
      have hr := h.below hbr
      have hr' := h'.below hbr
      rcases Nat.lt_or_ge k n with hlt | hge
      · obtain ⟨ad, B, L, C, x, rfl, hc, hx, hS, _⟩ := hr.at_ hlt
        obtain ⟨ad', B', L', C', y, rfl, hc', hy, hS', _⟩ := hr'.at_ hlt
        have i0 : (0 : Int) ≤ (k : Int) := by omega
        have i1 : (k : Int) < (n : Int) := by omega
        have hE := Equal_any B B' L C L' C' x y wr hS hS'
        by_cases hxy : x = y
        · rw [sameB_yes hxy] at hE
          have hE := Lib.hid hE
          have hs := Lib.hid (show vs.take (k + 1) = us.take (k + 1) by rw [take_snocL hx.out, take_snocL hy.out, he.out, hxy])
          clear hxy
          go_wp2_with fail
          refine hE.out.mono ?_
          rintro e w2 ⟨q, rfl, hw2⟩
          have hb2 : Below w.heap.size w w2 := by rw [hw2]; exact bel_drewN hbr q
          have hw3 := Lib.hid (show w2 = w.drewN (r + q) by rw [hw2, hw.out]; exact dr_add w r q)
          clear hw2
          go_wp2
          go_roundw
          case rel => exact ⟨k + 1, r + q, _, rfl, by go_num, hlt, hs.out, hw3.out, hb2⟩
          case measure => simp [intOf]; omega
        · rw [sameB_no hxy] at hE
          have hE := Lib.hid hE
          have hno := Lib.hid (show vs ≠ us from fun e => hxy (by have a := hx.out; rw [e, hy.out] at a; injection a with a; exact a.symm))
          clear hxy
          go_wp2_with fail
          refine hE.out.mono ?_
          rintro e w2 ⟨q, rfl, hw2⟩
          have hw3 := Lib.hid (show w2 = w.drewN (r + q) by rw [hw2, hw.out]; exact dr_add w r q)
          clear hw2
          go_wp2
          go_ret
          exact ⟨false, r + q, rfl, ⟨(fun e => by cases e), fun e => absurd e hno.out⟩, hw3.out⟩
      · have hkn : n = k := by omega
        subst hkn
        have hs := Lib.hid (show vs = us by have := he.out; rw [List.take_of_length_le (by rw [hl.out]; exact Nat.le_refl _), List.take_of_length_le (by rw [hl'.out]; exact Nat.le_refl _)] at this; exact this)
        go_wp2
        go_ret
        exact ⟨true, r, rfl, ⟨fun _ => hs.out, fun _ => rfl⟩, hw.out⟩
  · have hno := Lib.hid (show vs ≠ us from fun e => hn (by rw [← hl.out, ← hl'.out, e]))
    have hb : ((n : Int) != (n' : Int)) = true := by simp; omega
    have hb2 : decide (n = n') = false := by simpa using hn
    go_enter Tryd.func87, Tryd.ntmps87
    go_wp2
    go_ret
    exact ⟨false, 0, rfl, ⟨(fun e => by cases e), fun e => absurd e hno.out⟩, rfl⟩
end Go.Proofs.YtoljffghaklpdaaDoor


/- Training: the program's. -/
namespace Go.Proofs.YtoljffghaklpdaaDoor
open Go.RowKit

def RetT (w : World) (n k : Nat) (vs : List (List Int)) (e : Ending) (w' : World) : Prop := ∃ A c, e = .returned (.tuple #[.slice A n c, .int .i64 (k : Int), .int .i64 0]) ∧ Rr w' A n c vs ∧ Below w.heap.size w w'
def RetTN (w : World) (code : Int) (e : Ending) (w' : World) : Prop := e = .returned (.tuple #[.slice none 0 0, .int .i64 0, .int .i64 code]) ∧ Below w.heap.size w w'

set_option maxHeartbeats 1600000 in
theorem Train_bad (A A' : Option Addr) (N c n c' : Nat) (vs us : List (List Int)) (r : Int) (w : World) (h : Rr w A N c vs) (h' : Rr w A' n c' us) (h0 : codC vs us ≠ 0) :
    Calls Tryd.prog 58 #[.slice A N c, .slice A' n c', .int .i64 r] w (RetTN w (codC vs us)) := by
  have hne : (codC vs us != 0) = true := by simp [h0]
  have hne2 : (codC vs us == 0) = false := by simp [h0]
  go_enter Tryd.func58, Tryd.ntmps58
  go_wp2_with fail
  refine (checkCoding_any _ _ _ _ _ _ _ _ _ h h').mono ?_
  rintro e w1 ⟨rfl, hb1⟩
  generalize codC vs us = q at *
  go_wp2
  go_ret3
  exact ⟨rfl, hb1⟩
set_option maxHeartbeats 1600000 in
theorem Train_long (A A' : Option Addr) (N c n c' : Nat) (vs us : List (List Int)) (r : Int) (w : World) (h : Rr w A N c vs) (h' : Rr w A' n c' us) (h0 : codC vs us = 0) (hr : okB 0 1000 r = false) :
    Calls Tryd.prog 58 #[.slice A N c, .slice A' n c', .int .i64 r] w (RetTN w 2) := by
  have h0 := Lib.hid h0
  have hW := fun w9 => within_any r 0 1000 w9
  rw [hr] at hW
  have hW := Lib.hid hW
  clear hr
  go_enter Tryd.func58, Tryd.ntmps58
  go_wp2_with fail
  refine (checkCoding_any _ _ _ _ _ _ _ _ _ h h').mono ?_
  rintro e w1 ⟨rfl, hb1⟩
  rw [h0.out]
  go_wp2_with fail
  refine (hW.out w1).mono ?_
  rintro e w2 ⟨rfl, rfl⟩
  go_wp2
  go_ret3
  exact ⟨rfl, hb1⟩

set_option maxHeartbeats 6400000 in
set_option maxRecDepth 100000 in
theorem Train_any (A A' : Option Addr) (N c n c' R : Nat) (vs us : List (List Int)) (w : World) (h : Rr w A N c vs) (h' : Rr w A' n c' us) (h0 : codC vs us = 0) (hR : R ≤ 1000) :
    Calls Tryd.prog 58 #[.slice A N c, .slice A' n c', .int .i64 (R : Int)] w fun e w' => ∃ k, Stop (us.headD []).length vs us R k ∧ RetT w n k (itr (us.headD []).length vs us k) e w' := by
  have hl := Lib.hid h.len
  have hl' := Lib.hid h'.len
  obtain ⟨k1, k2, k3, k4, k5, k6, k7⟩ := codC_ok h0
  rw [hl.out] at k1
  rw [hl'.out] at k2 k3
  obtain ⟨m, hm⟩ : ∃ m, (us.headD []).length = m := ⟨_, rfl⟩
  rw [hm] at k4 k5 k6 k7
  rw [hm]
  have hm := Lib.hid hm
  have k6 := Lib.hid k6
  have k7 := Lib.hid k7
  have h0 := Lib.hid h0
  have hIl := Lib.hid (fun k => show (itr m vs us k).length = n by rw [itr_len, hl'.out])
  have hIv := Lib.hid (fun k => itr_vec k6.out k7.out k)
  have hW := fun w9 => within_any (R : Int) 0 1000 w9
  rw [show okB 0 1000 (R : Int) = true by rw [okB_iff]; omega] at hW
  have hW := Lib.hid hW
  have htop := h'.top
  have hcap := h'.cap
  go_enter Tryd.func58, Tryd.ntmps58
  go_wp2_with fail
  refine (checkCoding_any _ _ _ _ _ _ _ _ _ h h').mono ?_
  rintro e w1 ⟨rfl, hb1⟩
  rw [h0.out]
  go_wp2_with fail
  refine (hW.out w1).mono ?_
  rintro e w2 ⟨rfl, hw2⟩
  rw [← hw2]
  clear hw2
  have h1' := h'.below hb1
  go_wp2_with fail
  refine (copyVectors_any A' n c' m us w1 h1' (by omega) k4 k5 (fun u hu => (k7.out u hu).1)).mono ?_
  rintro e w3 ⟨g3, news, rfl, hB3, hR3, hb13, hg3⟩
  have hRr := Rr.of_blk hB3 hR3 hl'.out (by omega)
  have hb3 := hb1.trans (hb13.mono hb1.size)
  go_wp2
  go_loopw [10, 25] (fun tv iv wr' => ∃ (k : Nat) (A1 : Option Addr) (c1 : Nat) (wr : World), wr = wr' ∧ iv = .int .i64 k ∧ tv = .slice A1 n c1 ∧ k ≤ R ∧ Rr wr A1 n c1 (itr m vs us k) ∧ Hid (∀ j, j < k → itr m vs us (j + 1) ≠ itr m vs us j) ∧ Below w.heap.size w wr) (fun _ iv _ => R - (intOf iv).toNat)
  case atStart => exact ⟨0, _, _, _, rfl, rfl, rfl, Nat.zero_le _, hRr, fun j hj => absurd hj (Nat.not_lt_zero j), hb3⟩
  case round =>
    obtain ⟨k, A1, c1, wr, rfl, rfl, rfl, hkR, hRk, hd, hbr⟩ := hrel
    rcases Nat.lt_or_ge k R with hlt | hge
    · have hvr := h.below hbr
      go_wp2_with fail
      refine (improve_any _ _ _ _ _ _ m _ _ _ hvr hRk k1 (by omega) k4 k5 k6.out (hIv.out k) k3).mono ?_
      rintro e w5 ⟨g5, news5, rfl, hB5, hR5, hb5, hg5⟩
      have hRn : Rr w5 (some ⟨g5, 0, none⟩) n n (itr m vs us (k + 1)) := Rr.of_blk hB5 hR5 (hIl.out (k + 1)) (by omega)
      have hRk5 := hRk.below hb5
      have hb6 := hbr.trans (hb5.mono hbr.size)
      go_wp2_with fail
      refine (EqualFunc_any _ _ _ _ _ _ _ _ _ hRn hRk5).mono ?_
      rintro e w7 ⟨b, r7, rfl, hbe, hw7⟩
      have hb57 : Below w5.heap.size w5 w7 := by rw [hw7]; exact bel_drewN (Below.refl _ _) r7
      clear hw7
      have hb7 := hb6.trans (hb57.mono hb6.size)
      have hRn7 := hRn.below hb57
      have hRk7 := hRk5.below hb57
      cases b with
      | true =>
        have he := Lib.hid (hbe.1 rfl)
        clear hbe
        go_wp2
        go_ret3
        exact ⟨k, ⟨hkR, hd.out, fun _ => he.out⟩, A1, c1, rfl, hRk7, hb7⟩
      | false =>
        have hne := Lib.hid (show itr m vs us (k + 1) ≠ itr m vs us k from fun e => by have := hbe.2 e; cases this)
        clear hbe
        have hd2 := Lib.hid (show ∀ j, j < k + 1 → itr m vs us (j + 1) ≠ itr m vs us j from fun j hj => by
          rcases Nat.lt_or_ge j k with h9 | h9
          · exact hd.out j h9
          · rw [show j = k by omega]; exact hne.out)
        go_wp2
        go_roundw
        case rel => exact ⟨k + 1, _, _, _, rfl, by go_num, rfl, hlt, hRn7, hd2.out, hb7⟩
        case measure => simp [intOf]; omega
    · have hkR' : R = k := by omega
      subst hkR'
      go_wp2
      go_ret3
      exact ⟨R, ⟨Nat.le_refl _, hd.out, fun e => absurd e (Nat.lt_irrefl _)⟩, A1, c1, rfl, hRk, hbr⟩
end Go.Proofs.YtoljffghaklpdaaDoor


/- Improved codebooks: the document's. -/
namespace Go.Proofs.YtoljffghaklpdaaDoor
open Go.RowKit

theorem Stop.one {m : Nat} {vs us : List (List Int)} {r k k' : Nat} (h : Stop m vs us r k) (h' : Stop m vs us r k') : k = k' := by
  rcases Nat.lt_trichotomy k k' with e | e | e
  · exact absurd (h.2.2 (by have := h'.1; omega)) (h'.2.1 k e)
  · exact e
  · exact absurd (h'.2.2 (by have := h.1; omega)) (h.2.1 k' e)

set_option maxHeartbeats 1600000 in
theorem SameL_any (A A' : Option Addr) (n c n' c' : Nat) (vs us : List (List Int)) (w : World) (h : Rr w A n c vs) (h' : Rr w A' n' c' us) :
    Calls Tryd.prog 46 #[.slice A n c, .slice A' n' c'] w fun e w' => ∃ b r, e = .returned (.bool b) ∧ (b = true ↔ vs = us) ∧ w' = w.drewN r := by
  have hl := Lib.hid h.len
  have hl' := Lib.hid h'.len
  have hcap := h.cap
  have htop := h.top
  have hcap' := h'.cap
  by_cases hn : n = n'
  · subst hn
    go_enter Tryd.func46, Tryd.ntmps46
    go_wp2
    go_loopw [5] (fun iv wr' => ∃ (k r : Nat) (wr : World), wr = wr' ∧ iv = .int .i64 k ∧ k ≤ n ∧ Hid (vs.take k = us.take k) ∧ Hid (wr = w.drewN r) ∧ Below w.heap.size w wr) (fun iv _ => n - (intOf iv).toNat)
    case atStart => exact ⟨0, 0, _, rfl, rfl, Nat.zero_le _, rfl, rfl, Below.refl _ _⟩
    case round =>
      obtain ⟨k, r, wr, rfl, rfl, hk, he, hw, hbr⟩ := hrel
      have hr := h.below hbr
      have hr' := h'.below hbr
      rcases Nat.lt_or_ge k n with hlt | hge
      · obtain ⟨ad, B, L, C, x, rfl, hc, hx, hS, _⟩ := hr.at_ hlt
        obtain ⟨ad', B', L', C', y, rfl, hc', hy, hS', _⟩ := hr'.at_ hlt
        have i0 : (0 : Int) ≤ (k : Int) := by omega
        have i1 : (k : Int) < (n : Int) := by omega
        by_cases hxy : x = y
        · have hE := Lib.hid (fun (i : Nat) => show Calls Tryd.prog 26 #[.slice B L C, .slice B' L' C'] (wr.drewN i) (fun e w' => e = .returned (.bool true) ∧ ∃ j, w' = (wr.drewN i).drewN j) from (Same_any _ _ _ _ _ _ _ _ _ (hS.drewN i) (hS'.drewN i)).mono fun e w' ⟨j, h1, h2⟩ => by
            rw [sameB_yes hxy] at h1
            exact ⟨h1, j, h2⟩)
          have hs := Lib.hid (show vs.take (k + 1) = us.take (k + 1) by rw [take_snocL hx.out, take_snocL hy.out, he.out, hxy])
          clear hxy hS hS'
          go_wp2
          go_quiet (first | (go_at_call 26; exact Calls.quiet_of (hE.out _)))
          have hb2 := bel_drewN hbr nq
          have hw3 := Lib.hid (show wr.drewN nq = w.drewN (r + nq) by rw [hw.out]; exact dr_add w r nq)
          generalize wr.drewN nq = w2 at *
          go_wp2
          go_roundw
          case rel => exact ⟨k + 1, r + nq, _, rfl, by go_num, hlt, hs.out, hw3.out, hb2⟩
          case measure => simp [intOf]; omega
        · have hE := Lib.hid (fun (i : Nat) => show Calls Tryd.prog 26 #[.slice B L C, .slice B' L' C'] (wr.drewN i) (fun e w' => e = .returned (.bool false) ∧ ∃ j, w' = (wr.drewN i).drewN j) from (Same_any _ _ _ _ _ _ _ _ _ (hS.drewN i) (hS'.drewN i)).mono fun e w' ⟨j, h1, h2⟩ => by
            rw [sameB_no hxy] at h1
            exact ⟨h1, j, h2⟩)
          have hno := Lib.hid (show vs ≠ us from fun e => hxy (by have a := hx.out; rw [e, hy.out] at a; injection a with a; exact a.symm))
          clear hxy hS hS'
          go_wp2
          go_quiet (first | (go_at_call 26; exact Calls.quiet_of (hE.out _)))
          have hw3 := Lib.hid (show wr.drewN nq = w.drewN (r + nq) by rw [hw.out]; exact dr_add w r nq)
          generalize wr.drewN nq = w2 at *
          go_wp2
          go_ret
          exact ⟨false, r + nq, rfl, ⟨(fun e => by cases e), fun e => absurd e hno.out⟩, hw3.out⟩
      · have hkn : n = k := by omega
        subst hkn
        have hs := Lib.hid (show vs = us by have := he.out; rw [List.take_of_length_le (by rw [hl.out]; exact Nat.le_refl _), List.take_of_length_le (by rw [hl'.out]; exact Nat.le_refl _)] at this; exact this)
        go_wp2
        go_ret
        exact ⟨true, r, rfl, ⟨fun _ => hs.out, fun _ => rfl⟩, hw.out⟩
  · have hno := Lib.hid (show vs ≠ us from fun e => hn (by rw [← hl.out, ← hl'.out, e]))
    have hb : ((n : Int) != (n' : Int)) = true := by simp; omega
    have hb2 : decide (n = n') = false := by simpa using hn
    go_enter Tryd.func46, Tryd.ntmps46
    go_wp2
    go_ret
    exact ⟨false, 0, rfl, ⟨(fun e => by cases e), fun e => absurd e hno.out⟩, rfl⟩

end Go.Proofs.YtoljffghaklpdaaDoor
