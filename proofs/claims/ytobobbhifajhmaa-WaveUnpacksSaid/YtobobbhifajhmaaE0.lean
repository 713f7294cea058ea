/- Emphasis and what restores it undo each other. -/
import Derived.Test.YtobobbhifajhmaaV2
namespace Go.Proofs.Ytobobbhifajhmaa

theorem emC_zero {back : Bool} {xs : List Int} {num den : Int} (h : emC back xs num den = 0) : chkE xs num den = 0 ∧ valsB (tab xs.length (if back then reAt num den xs else emAt num den xs)) = true := by
  unfold emC at h
  rcases chkE_cases xs num den with ⟨h0, _⟩ | h0 | h0
  · rw [if_pos h0] at h
    refine ⟨h0, ?_⟩
    cases hv : valsB (tab xs.length (if back then reAt num den xs else emAt num den xs)) with
    | true => rfl
    | false => rw [oC_no hv] at h; cases h
  · rw [h0] at h; cases h
  · rw [h0] at h; cases h
theorem emL_zero {back : Bool} {xs : List Int} {num den : Int} (h : emC back xs num den = 0) : emL back xs num den = tab xs.length (if back then reAt num den xs else emAt num den xs) := by
  have h2 := emC_zero h
  unfold emL
  rw [if_pos h2.1, oL_yes h2.2]
/-- another list with the same length, of values, is right for the same emphasis -/
theorem chkE_again {xs ys : List Int} {num den : Int} (h : chkE xs num den = 0) (hl : ys.length = xs.length) (hv : valsB ys = true) : chkE ys num den = 0 := by
  rcases chkE_cases xs num den with ⟨_, h1, h2, h3, h4, h5, h6⟩ | h0 | h0
  · have hk : chk (-2147483647) 2147483647 ys = 0 := by
      unfold chk
      rw [if_neg (by omega), show allB (-2147483647) 2147483647 ys = true from hv]; rfl
    unfold chkE chkV
    rw [if_pos hk, okB_mk h3 h4, okB_mk h5 h6]; rfl
  · rw [h0] at h; cases h
  · rw [h0] at h; cases h
theorem valsB_of {xs : List Int} {num den : Int} (h : chkE xs num den = 0) : valsB xs = true := by
  rcases chkE_cases xs num den with ⟨_, _, h2, _⟩ | h0 | h0
  · exact h2
  · rw [h0] at h; cases h
  · rw [h0] at h; cases h
/-- what is restored from the emphasis -/
theorem re_em {xs : List Int} {num den : Int} : ∀ i, i < xs.length → reAt num den (tab xs.length (emAt num den xs)) i = xs.getD i 0 := by
  intro i
  induction i with
  | zero =>
    intro hi
    show (tab xs.length (emAt num den xs)).getD 0 0 + rnd (num * 0) den = _
    rw [tab_getD hi]
    show xs.getD 0 0 - rnd (num * 0) den + rnd (num * 0) den = _
    omega
  | succ k ih =>
    intro hi
    show (tab xs.length (emAt num den xs)).getD (k + 1) 0 + rnd (num * reAt num den (tab xs.length (emAt num den xs)) k) den = _
    rw [tab_getD hi, ih (by omega)]
    show xs.getD (k + 1) 0 - rnd (num * xs.getD k 0) den + rnd (num * xs.getD k 0) den = _
    omega
theorem em_re {xs : List Int} {num den : Int} : ∀ i, i < xs.length → emAt num den (tab xs.length (reAt num den xs)) i = xs.getD i 0 := by
  intro i hi
  unfold emAt
  rw [tab_getD hi]
  cases i with
  | zero =>
    show xs.getD 0 0 + rnd (num * 0) den - rnd (num * 0) den = _
    omega
  | succ k =>
    show reAt num den xs (k + 1) - rnd (num * (tab xs.length (reAt num den xs)).getD k 0) den = _
    rw [tab_getD (by omega)]
    show xs.getD (k + 1) 0 + rnd (num * reAt num den xs k) den - rnd (num * reAt num den xs k) den = _
    omega
theorem em_back {back : Bool} {xs : List Int} {num den : Int} (h : emC back xs num den = 0) : emC (!back) (emL back xs num den) num den = 0 ∧ emL (!back) (emL back xs num den) num den = xs := by
  have h1 := emC_zero h
  rw [emL_zero h]
  have hc := chkE_again h1.1 (ys := tab xs.length (if back then reAt num den xs else emAt num den xs)) (tab_len _ _) h1.2
  have e : tab (tab xs.length (if back then reAt num den xs else emAt num den xs)).length (if (!back) then reAt num den (tab xs.length (if back then reAt num den xs else emAt num den xs)) else emAt num den (tab xs.length (if back then reAt num den xs else emAt num den xs))) = xs := by
    rw [tab_len]
    conv => rhs; rw [← tab_self xs]
    refine tab_congr fun i hi => ?_
    cases back with
    | true => exact em_re i hi
    | false => exact re_em i hi
  have hv := valsB_of h1.1
  unfold emC emL
  rw [if_pos hc, if_pos hc, e, oL_yes hv, oC_yes hv]
  exact ⟨rfl, rfl⟩
end Go.Proofs.Ytobobbhifajhmaa
