/- Features do not change where all samples change their signs, and a longer recording begins with the same features: mathematics alone. -/
import Derived.Test.YtoljffghaklpdaaGreatDoorEK
namespace Go.Proofs.YtoljffghaklpdaaGreatDoor
open Go.RowKit

/-- all elements with the other sign -/
def ngL (xs : List Int) : List Int := xs.map fun x => -x
theorem ng_len (xs : List Int) : (ngL xs).length = xs.length := List.length_map ..
theorem ng_get (xs : List Int) (i : Nat) : (ngL xs).getD i 0 = -xs.getD i 0 := by
  unfold ngL
  rcases Nat.lt_or_ge i xs.length with h | h
  · simp [List.getD_eq_getElem?_getD, h]
  · simp [List.getD_eq_getElem?_getD, h]
theorem rnd_sym {a b : Int} (hb : 1 ≤ b) : rnd (-a) b = -rnd a b := by
  unfold rnd
  by_cases h0 : a = 0
  · subst h0
    rw [if_neg (by decide), if_neg (by decide)]
    have : (2 * (0 : Int) + b) / (2 * b) = 0 := by
      rw [Int.mul_zero, Int.zero_add]
      exact Int.ediv_eq_zero_of_lt (by omega) (by omega)
    have e : (2 * -(0 : Int) + b) / (2 * b) = 0 := by simpa using this
    rw [e, this]; rfl
  · by_cases h : a < 0
    · rw [if_neg (by omega), if_pos h]; omega
    · rw [if_pos (by omega), if_neg h, Int.neg_neg]
theorem tab_ng {n : Nat} {f g : Nat → Int} (h : ∀ i, i < n → g i = -f i) : tab n g = ngL (tab n f) := by
  unfold ngL tab
  rw [List.map_map]
  exact List.map_congr_left fun i hi => h i (List.mem_range.1 hi)
theorem em_ng (xs : List Int) (num den : Int) (hd : 1 ≤ den) : emF (ngL xs) num den = ngL (emF xs num den) := by
  unfold emF
  rw [ng_len]
  refine tab_ng fun i _ => ?_
  unfold emAt
  rw [ng_get]
  have : prev (fun j => (ngL xs).getD j 0) i = -prev (fun j => xs.getD j 0) i := by
    cases i with
    | zero => rfl
    | succ j => exact ng_get xs j
  rw [this, Int.mul_neg, rnd_sym hd]
  omega
theorem fr_ng (xs : List Int) (size step : Int) : frF (ngL xs) size step = (frF xs size step).map ngL := by
  unfold frF
  rw [ng_len, List.map_map]
  refine List.map_congr_left fun t _ => ?_
  show frameL (ngL xs) _ _ t = ngL (frameL xs _ _ t)
  unfold frameL
  exact tab_ng fun i _ => ng_get _ _
theorem allB_ng {M : Int} {xs : List Int} (h : allB (-M) M xs = true) : allB (-M) M (ngL xs) = true := allB_of fun x hx => by
  unfold ngL at hx
  obtain ⟨y, hy, rfl⟩ := List.mem_map.1 hx
  have := allB_mem h y hy
  omega
theorem wg_ng {x : List Int} {kind : Int} (hk1 : 1 ≤ kind) (hk2 : kind ≤ 3) (h1 : 1 ≤ x.length) (h2 : x.length ≤ 64) (hx : allB (-65536) 65536 x = true) : wgL (ngL x) kind = ngL (wgL x kind) := by
  rw [(wg_ok hk1 hk2 (x := ngL x) (by rw [ng_len]; exact h1) (by rw [ng_len]; exact h2) (allB_ng hx)).2.2.2, (wg_ok hk1 hk2 h1 h2 hx).2.2.2, ng_len]
  refine tab_ng fun i _ => ?_
  unfold wgAt
  rw [ng_get, ng_len, Int.neg_mul, rnd_sym (by decide)]
theorem zs_ng (n : Nat) : zs n = ngL (zs n) := by
  unfold ngL zs
  rw [List.map_replicate]
  rfl
theorem ng_app (xs ys : List Int) : ngL xs ++ ngL ys = ngL (xs ++ ys) := by unfold ngL; rw [List.map_append]
theorem sm_ng {n : Nat} {f g : Nat → Int} (h : ∀ i, i < n → g i = -f i) : sm n g = -sm n f := by
  induction n with
  | zero => rfl
  | succ n ih =>
    show sm n g + g n = -(sm n f + f n)
    rw [ih (fun i hi => h i (by omega)), h n (by omega)]
    omega
theorem sp_ng (xs : List Int) : spL (ngL xs) = ngL (spL xs) := by
  unfold spL
  rw [ng_len]
  refine tab_ng fun k _ => ?_
  have : trA (ngL xs) xs.length k = -trA xs xs.length k := by
    unfold trA
    exact sm_ng fun i _ => by rw [ng_get, Int.neg_mul]
  rw [this, rnd_sym (by decide)]
theorem an_ng (p : Nat) (x : List Int) : anF p (ngL x) = ngL (anF p x) := by
  unfold anF
  rw [ng_len, zs_ng, ng_app, sp_ng, ← zs_ng]
theorem sq_ng (ss : List Int) (k : Nat) : sq (ngL ss) k = sq ss k := by
  unfold sq
  congr 1
  funext i
  rw [ng_get, Int.neg_mul_neg]
theorem me_ng (es ss : List Int) : meF es (ngL ss) = meF es ss := by
  unfold meF
  refine tab_congr fun i _ => ?_
  unfold bnF
  rw [sq_ng, sq_ng]
theorem ft_ng {kind cep : Int} {p : Nat} {es x : List Int} (hk1 : 1 ≤ kind) (hk2 : kind ≤ 3) (h1 : 1 ≤ x.length) (h2 : x.length ≤ 64) (hx : allB (-65536) 65536 x = true) : ftF kind p es cep (ngL x) = ftF kind p es cep x := by
  unfold ftF
  rw [wg_ng hk1 hk2 h1 h2 hx, an_ng, me_ng]
/-- the features of a recording with all signs changed are its own -/
theorem feat_ng {num den size step kind cep : Int} {p : Nat} {es : List Int} (diff ctr : Bool) {xs : List Int} (hd1 : 1 ≤ den) (hd2 : den ≤ 1024) (hn1 : 0 ≤ num) (hn2 : num ≤ den) (hs1 : 1 ≤ size) (hs2 : size ≤ 64) (hk1 : 1 ≤ kind) (hk2 : kind ≤ 3)
    (hx : allB (-32768) 32767 xs = true) (hl : xs.length ≤ 200000) : featL num den size step kind p cep es diff ctr (ngL xs) = featL num den size step kind p cep es diff ctr xs := by
  have hem := em_ok hd1 hd2 hn1 hn2 hx hl
  have : (frF (emF (ngL xs) num den) size step).map (ftF kind p es cep) = (frF (emF xs num den) size step).map (ftF kind p es cep) := by
    rw [em_ng _ _ _ hd1, fr_ng, List.map_map]
    refine List.map_congr_left fun x hxx => ?_
    have hr := fr_row hem.2.2 hxx
    exact ft_ng hk1 hk2 (by omega) (by omega) hr.2
  unfold featL
  rw [this]

theorem em_pre (xs ys : List Int) (num den : Int) {i : Nat} (h : i < xs.length) : (emF (xs ++ ys) num den).getD i 0 = (emF xs num den).getD i 0 := by
  unfold emF
  rw [tab_getD (by rw [List.length_append]; omega), tab_getD h]
  have e : ∀ j, j < xs.length → (xs ++ ys).getD j 0 = xs.getD j 0 := fun j hj => by
    rw [List.getD_eq_getElem?_getD, List.getD_eq_getElem?_getD, List.getElem?_append_left hj]
  unfold emAt
  rw [e i h]
  cases i with
  | zero => rfl
  | succ j => show xs.getD (j + 1) 0 - rnd (num * (xs ++ ys).getD j 0) den = xs.getD (j + 1) 0 - rnd (num * xs.getD j 0) den; rw [e j (by omega)]
theorem fcount_nopad (n s p : Nat) : fcount n s p false = if n < s then 0 else (n - s) / p + 1 := by unfold fcount; rfl
theorem fcount_mono {n m s p : Nat} (h : n ≤ m) : fcount n s p false ≤ fcount m s p false := by
  rw [fcount_nopad, fcount_nopad]
  split
  · omega
  · rw [if_neg (by omega)]
    have := Nat.div_le_div_right (c := p) (show n - s ≤ m - s by omega)
    omega
/-- a longer recording begins with the same frames -/
theorem fr_pre (xs ys : List Int) (num den : Int) {size step : Int} (hs : 1 ≤ size) (hp : 1 ≤ step) : (frF (emF (xs ++ ys) num den) size step).take (fcount xs.length size.toNat step.toNat false) = frF (emF xs num den) size step := by
  unfold frF
  rw [em_len, em_len, ← List.map_take]
  have hm := fcount_mono (n := xs.length) (m := (xs ++ ys).length) (s := size.toNat) (p := step.toNat) (by rw [List.length_append]; omega)
  rw [List.take_range, Nat.min_eq_left hm]
  refine List.map_congr_left fun t ht => ?_
  have ht := (fcount_at (s := size.toNat) (p := step.toNat) (pad := false) (by omega) (by omega)).1 (List.mem_range.1 ht)
  have hb : t * step.toNat + size.toNat ≤ xs.length := ht.2.resolve_left (by decide)
  unfold frameL
  exact tab_congr fun i hi => em_pre xs ys num den (by omega)
theorem feat_len (num den size step kind : Int) (p : Nat) (cep : Int) (es : List Int) (diff ctr : Bool) (xs : List Int) : (featL num den size step kind p cep es diff ctr xs).length = fcount xs.length size.toNat step.toNat false := by
  have h0 : ((frF (emF xs num den) size step).map (ftF kind p es cep)).length = fcount xs.length size.toNat step.toNat false := by
    unfold frF
    rw [List.length_map, List.length_map, List.length_range, em_len]
  unfold featL
  cases diff <;> cases ctr <;> simp [dif_len, cen_len, h0]
theorem feat_pre {num den size step kind cep : Int} {p : Nat} {es : List Int} (xs ys : List Int) (hs : 1 ≤ size) (hp : 1 ≤ step) :
    (featL num den size step kind p cep es false false (xs ++ ys)).take (fcount xs.length size.toNat step.toNat false) = featL num den size step kind p cep es false false xs := by
  show ((frF (emF (xs ++ ys) num den) size step).map (ftF kind p es cep)).take _ = (frF (emF xs num den) size step).map (ftF kind p es cep)
  rw [← List.map_take, fr_pre xs ys num den hs hp]
end Go.Proofs.YtoljffghaklpdaaGreatDoor
