/- Sums of centered vectors, and of differences. -/
import Derived.Test.YtoljffghaklpdaaDoorHZ
namespace Go.Proofs.YtoljffghaklpdaaDoor
open Go.RowKit

theorem rnd_near {a n : Int} (hn : 1 ≤ n) : -n ≤ 2 * (a - n * rnd a n) ∧ 2 * (a - n * rnd a n) ≤ n := by
  have key : ∀ a : Int, 0 ≤ a → -n ≤ 2 * (a - n * rnd a n) ∧ 2 * (a - n * rnd a n) ≤ n := fun a ha => by
    rw [rnd_pos ha]
    have h := Int.mul_ediv_add_emod (2 * a + n) (2 * n)
    have h1 := Int.emod_nonneg (2 * a + n) (b := 2 * n) (by omega)
    have h2 := Int.emod_lt_of_pos (2 * a + n) (b := 2 * n) (by omega)
    generalize (2 * a + n) / (2 * n) = q at *
    generalize (2 * a + n) % (2 * n) = r at *
    have e : 2 * n * q = 2 * (n * q) := Int.mul_assoc _ _ _
    generalize n * q = p at *
    omega
  rcases Int.lt_or_le a 0 with h | h
  · have := key (-a) (by omega)
    rw [rnd_opp h, Int.mul_neg]
    omega
  · exact key a h
theorem rnd_none {s n : Int} (_ : 1 ≤ n) (h1 : -n < 2 * s) (h2 : 2 * s < n) : rnd s n = 0 := by
  rcases Int.lt_or_le s 0 with h | h
  · rw [rnd_neg h, Int.ediv_eq_zero_of_lt (by omega) (by omega)]; rfl
  · rw [rnd_pos h, Int.ediv_eq_zero_of_lt (by omega) (by omega)]
theorem mapR_getD {n t : Nat} {f : Nat → List Int} (h : t < n) : ((List.range n).map f).getD t [] = f t := by
  rw [List.getD_eq_getElem?_getD]
  simp [h]
theorem cen_getD {m : Nat} {vs : List (List Int)} (hm : (vs.headD []).length = m) {t : Nat} (h : t < vs.length) : (cenL vs).getD t [] = cenR m vs t := by
  unfold cenL
  rw [mapR_getD h, hm]
theorem dif_getD {m : Nat} {vs : List (List Int)} (hm : (vs.headD []).length = m) {t : Nat} (h : t < vs.length) : (difL vs).getD t [] = difR m vs t := by
  unfold difL
  rw [mapR_getD h, hm]
theorem col_cen {m : Nat} {vs : List (List Int)} (hm : (vs.headD []).length = m) {k : Nat} (hk : k < m) : ∀ i, i ≤ vs.length → colS (cenL vs) k i = colS vs k i - i * (meanL m vs).getD k 0 := by
  intro i
  induction i with
  | zero => intro _; unfold colS; simp [sm]
  | succ i ih =>
    intro hi
    have h1 := ih (by omega)
    have e1 : colS (cenL vs) k (i + 1) = colS (cenL vs) k i + ((cenL vs).getD i []).getD k 0 := rfl
    have e2 : colS vs k (i + 1) = colS vs k i + (vs.getD i []).getD k 0 := rfl
    rw [e1, e2, h1, cen_getD hm (by omega)]
    unfold cenR
    rw [tab_getD hk, Int.natCast_add, Int.add_mul]
    simp only [Int.natCast_one, Int.one_mul]
    omega
theorem col_near {m : Nat} {vs : List (List Int)} (hm : (vs.headD []).length = m) {k : Nat} (hk : k < m) (hn : 1 ≤ vs.length) : -(vs.length : Int) ≤ 2 * colS (cenL vs) k vs.length ∧ 2 * colS (cenL vs) k vs.length ≤ vs.length := by
  rw [col_cen hm hk _ (Nat.le_refl _)]
  have e : (meanL m vs).getD k 0 = rnd (colS vs k vs.length) vs.length := by unfold meanL; rw [tab_getD hk]
  rw [e]
  exact rnd_near (by omega)
theorem cen_len (vs : List (List Int)) : (cenL vs).length = vs.length := by unfold cenL; rw [List.length_map, List.length_range]
theorem cen_head {m : Nat} {vs : List (List Int)} (hm : (vs.headD []).length = m) (hn : 1 ≤ vs.length) : ((cenL vs).headD []).length = m := by
  have e : (cenL vs).headD [] = (cenL vs).getD 0 [] := by cases cenL vs <;> rfl
  rw [e, cen_getD hm hn]
  exact tab_len _ _
theorem cen_again {m : Nat} {vs : List (List Int)} (hm : (vs.headD []).length = m) (hn : 1 ≤ vs.length)
    (h : ∀ k, k < m → -(vs.length : Int) < 2 * colS (cenL vs) k vs.length ∧ 2 * colS (cenL vs) k vs.length < vs.length) : cenL (cenL vs) = cenL vs := by
  have e0 : cenL (cenL vs) = (List.range vs.length).map (cenR m (cenL vs)) := by
    show (List.range (cenL vs).length).map (cenR ((cenL vs).headD []).length (cenL vs)) = _
    rw [cen_len, cen_head hm hn]
  rw [e0]
  have e1 : cenL vs = (List.range vs.length).map (cenR m vs) := by
    show (List.range vs.length).map (cenR (vs.headD []).length vs) = _
    rw [hm]
  refine Eq.trans ?_ e1.symm
  apply List.map_congr_left
  intro t ht
  have ht := List.mem_range.1 ht
  show (tab m fun c => ((cenL vs).getD t []).getD c 0 - (meanL m (cenL vs)).getD c 0) = tab m fun c => (vs.getD t []).getD c 0 - (meanL m vs).getD c 0
  refine tab_congr fun c hc => ?_
  have h1 := h c hc
  have e2 : (meanL m (cenL vs)).getD c 0 = 0 := by
    unfold meanL
    rw [tab_getD hc, cen_len, rnd_none (by omega) h1.1 h1.2]
  rw [e2, cen_getD hm ht]
  unfold cenR
  rw [tab_getD hc, Int.sub_zero]

theorem tele (f : Nat → Int) (n : Nat) : ∀ i, i + 2 ≤ n → sm (i + 1) (fun t => f (min (t + 1) (n - 1)) - f (t - 1)) = f (i + 1) + f i - f 0 - f 0 := by
  intro i
  induction i with
  | zero =>
    intro h
    show 0 + (f (min 1 (n - 1)) - f 0) = _
    rw [show min 1 (n - 1) = 1 by omega]
    simp only [Nat.zero_add]
    omega
  | succ i ih =>
    intro h
    have h1 := ih (by omega)
    show sm (i + 1) _ + (f (min (i + 1 + 1) (n - 1)) - f (i + 1 - 1)) = _
    rw [h1, show min (i + 1 + 1) (n - 1) = i + 1 + 1 by omega, show i + 1 - 1 = i by omega]
    omega
theorem tele_all (f : Nat → Int) (n : Nat) (h : 2 ≤ n) : sm n (fun t => f (min (t + 1) (n - 1)) - f (t - 1)) = f (n - 1) + f (n - 1) - f 0 - f 0 := by
  obtain ⟨i, rfl⟩ : ∃ i, n = i + 2 := ⟨n - 2, by omega⟩
  have h1 := tele f (i + 2) i (by omega)
  show sm (i + 1) _ + (f (min (i + 1 + 1) (i + 2 - 1)) - f (i + 1 - 1)) = _
  rw [h1, show min (i + 1 + 1) (i + 2 - 1) = i + 1 by omega, show i + 1 - 1 = i by omega, show i + 2 - 1 = i + 1 by omega]
  omega
theorem dif_at {m : Nat} {vs : List (List Int)} (hm : (vs.headD []).length = m) (hv : VecS m vs) {k t : Nat} (hk : k < m) (ht : t < vs.length) : ((difL vs).getD t []).getD (m + k) 0 = (vs.getD (min (t + 1) (vs.length - 1)) []).getD k 0 - (vs.getD (t - 1) []).getD k 0 := by
  rw [dif_getD hm ht]
  unfold difR
  have hl : (vs.getD t []).length = m := (hv _ (mem_getD ht)).1
  rw [List.getD_eq_getElem?_getD, List.getElem?_append_right (by omega), hl, show m + k - m = k by omega, ← List.getD_eq_getElem?_getD, tab_getD hk]
theorem sm_congr {n : Nat} {f g : Nat → Int} (h : ∀ i, i < n → f i = g i) : sm n f = sm n g := by
  induction n with
  | zero => rfl
  | succ n ih => show sm n f + f n = sm n g + g n; rw [ih (fun i hi => h i (by omega)), h n (by omega)]
theorem col_dif {m : Nat} {vs : List (List Int)} (hm : (vs.headD []).length = m) (hv : VecS m vs) {k : Nat} (hk : k < m) (hn : 2 ≤ vs.length) : colS (difL vs) (m + k) vs.length = (vs.getD (vs.length - 1) []).getD k 0 + (vs.getD (vs.length - 1) []).getD k 0 - (vs.getD 0 []).getD k 0 - (vs.getD 0 []).getD k 0 := by
  rw [← tele_all (fun t => (vs.getD t []).getD k 0) vs.length hn]
  exact sm_congr fun t ht => dif_at hm hv hk ht
end Go.Proofs.YtoljffghaklpdaaDoor
