/- The features of a recording, and why no step of a valid recipe is refused: mathematics alone. -/
import Derived.Test.YtoljffghaklpdaaGreatDoorEA
import Derived.Test.YtoljffghaklpdaaGreatDoorHA
import Derived.Test.YtoljffghaklpdaaGreatDoorHV
import Derived.Test.YtoljffghaklpdaaGreatDoorZP6
namespace Go.Proofs.YtoljffghaklpdaaGreatDoor
open Go.RowKit

theorem allB_of {lo hi : Int} {xs : List Int} (h : ∀ x ∈ xs, lo ≤ x ∧ x ≤ hi) : allB lo hi xs = true := List.all_eq_true.2 fun x hx => okB_iff.2 (h x hx)
theorem allB_wide {lo hi lo2 hi2 : Int} {xs : List Int} (h : allB lo hi xs = true) (h1 : lo2 ≤ lo) (h2 : hi ≤ hi2) : allB lo2 hi2 xs = true := allB_of fun x hx => by
  have := allB_mem h x hx
  omega
theorem tab_mem {n : Nat} {f : Nat → Int} {x : Int} (h : x ∈ tab n f) : ∃ i, i < n ∧ f i = x := by
  unfold tab at h
  rw [List.mem_map] at h
  obtain ⟨i, hi, e⟩ := h
  exact ⟨i, List.mem_range.1 hi, e⟩
theorem allB_tabf {lo hi : Int} {n : Nat} {f : Nat → Int} (h : ∀ i, i < n → lo ≤ f i ∧ f i ≤ hi) : allB lo hi (tab n f) = true := allB_of fun x hx => by
  obtain ⟨i, hi, rfl⟩ := tab_mem hx
  exact h i hi
theorem getD_all {lo hi : Int} {xs : List Int} (h : allB lo hi xs = true) (h1 : lo ≤ 0) (h2 : 0 ≤ hi) (j : Nat) : lo ≤ xs.getD j 0 ∧ xs.getD j 0 ≤ hi := by
  rcases Nat.lt_or_ge j xs.length with hj | hj
  · exact allB_get h hj rfl
  · rw [List.getD_eq_getElem?_getD, List.getElem?_eq_none hj]
    exact ⟨h1, h2⟩
/-- a quotient, rounded, is not greater than the bound that the number has times the divisor -/
theorem rnd_le {a b m : Int} (hb : 1 ≤ b) (h1 : -(m * b) ≤ a) (h2 : a ≤ m * b) : -m ≤ rnd a b ∧ rnd a b ≤ m := by
  have key : ∀ c : Int, 0 ≤ c → c ≤ m * b → 0 ≤ rnd c b ∧ rnd c b ≤ m := fun c h0 hc => by
    rw [rnd_pos h0]
    refine ⟨Int.ediv_nonneg (by omega) (by omega), ?_⟩
    have h3 : (2 * c + b) / (2 * b) < m + 1 := Int.ediv_lt_of_lt_mul (by omega) (by
      rw [Int.add_mul, Int.mul_left_comm m 2 b]; omega)
    omega
  by_cases h : 0 ≤ a
  · have := key a h h2; omega
  · have := key (-a) (by omega) (by omega)
    rw [rnd_opp (by omega)]; omega

/-- the emphasis of a recording -/
def emF (xs : List Int) (num den : Int) : List Int := tab xs.length (emAt num den xs)
/-- the frames of a list, without padding -/
def frF (xs : List Int) (size step : Int) : List (List Int) := (List.range (fcount xs.length size.toNat step.toNat false)).map (frameL xs size.toNat step.toNat)
def anF (p : Nat) (x : List Int) : List Int := spL (x ++ zs (p - x.length))
def meF (es x : List Int) : List Int := tab (es.length - 1) fun i => lg (bnF x es i).toNat
def shF (cep : Int) (x : List Int) : List Int := if cep = 0 then x else cpL x cep
/-- the features of a frame -/
def ftF (kind : Int) (p : Nat) (es : List Int) (cep : Int) (x : List Int) : List Int := shF cep (meF es (anF p (wgL x kind)))
/-- the features of a recording -/
def featL (num den size step kind : Int) (p : Nat) (cep : Int) (es : List Int) (diff ctr : Bool) (xs : List Int) : List (List Int) :=
  let v := (frF (emF xs num den) size step).map (ftF kind p es cep)
  let u := if diff then difL v else v
  if ctr then cenL u else u

theorem em_ok {num den : Int} {xs : List Int} (hd1 : 1 ≤ den) (hd2 : den ≤ 1024) (hn1 : 0 ≤ num) (hn2 : num ≤ den) (hx : allB (-32768) 32767 xs = true) (hl : xs.length ≤ 200000) :
    emL false xs num den = emF xs num den ∧ emC false xs num den = 0 ∧ allB (-65536) 65536 (emF xs num den) = true := by
  have hb : allB (-65536) 65536 (emF xs num den) = true := allB_tabf fun i hi => by
    have h1 := getD_all hx (by decide) (by decide) i
    have h2 : -32768 ≤ prev (fun j => xs.getD j 0) i ∧ prev (fun j => xs.getD j 0) i ≤ 32768 := by
      cases i with
      | zero => show _ ≤ (0 : Int) ∧ (0 : Int) ≤ _; omega
      | succ j => have := getD_all hx (by decide) (by decide) j; show _ ≤ xs.getD j 0 ∧ xs.getD j 0 ≤ _; omega
    have h3 := rnd_part (num := num) (den := den) hn1 hn2 hd1 h2.1 h2.2
    unfold emAt
    omega
  have hv : chkV_w xs = 0 := by
    unfold chkV_w chk
    rw [if_neg (by omega), if_pos (allB_wide hx (by decide) (by decide))]
  have hk : chkE xs num den = 0 := by
    unfold chkE
    rw [if_pos hv, okB_mk hd1 hd2, okB_mk hn1 hn2]
    rfl
  have hvals : valsB (emF xs num den) = true := allB_wide hb (by decide) (by decide)
  refine ⟨?_, ?_, hb⟩
  · unfold emL
    rw [if_pos hk]
    exact oL_yes hvals
  · unfold emC
    rw [if_pos hk]
    exact oC_yes hvals
theorem em_len (xs : List Int) (num den : Int) : (emF xs num den).length = xs.length := tab_len _ _

theorem fr_ok {xs : List Int} {size step : Int} (hs1 : 1 ≤ size) (hs2 : size ≤ 64) (hp1 : 1 ≤ step) (hp2 : step ≤ 4096) (hx : allB (-65536) 65536 xs = true) (hl : xs.length ≤ 1000) :
    frC xs size step false = 0 ∧ fcount xs.length size.toNat step.toNat false ≤ xs.length := by
  have hc := fcount_le (n := xs.length) (s := size.toNat) (p := step.toNat) (pad := false) (by omega) (by omega)
  refine ⟨?_, hc⟩
  have hv : chkV_w xs = 0 := by
    unfold chkV_w chk
    rw [if_neg (by omega), if_pos (allB_wide hx (by decide) (by decide))]
  unfold frC
  rw [if_pos hv, okB_mk hs1 (by omega), okB_mk hp1 hp2]
  have : fcount xs.length size.toNat step.toNat false * size.toNat ≤ 1000 * 64 := Nat.mul_le_mul (by omega) (by omega)
  rw [if_pos (show (true && true) = true from rfl), if_neg (by omega)]
theorem fr_row {xs : List Int} {size step : Int} (hx : allB (-65536) 65536 xs = true) {x : List Int} (h : x ∈ frF xs size step) : x.length = size.toNat ∧ allB (-65536) 65536 x = true := by
  unfold frF at h
  rw [List.mem_map] at h
  obtain ⟨t, _, rfl⟩ := h
  exact ⟨tab_len _ _, allB_tabf fun i _ => getD_all hx (by decide) (by decide) _⟩
theorem wg_ok {x : List Int} {kind : Int} (hk1 : 1 ≤ kind) (hk2 : kind ≤ 3) (h1 : 1 ≤ x.length) (h2 : x.length ≤ 64) (hx : allB (-65536) 65536 x = true) :
    wgC x kind = 0 ∧ (wgL x kind).length = x.length ∧ allB (-65536) 65536 (wgL x kind) = true ∧ wgL x kind = tab x.length (wgAt x kind) := by
  have hv : chkV_w x = 0 := by
    unfold chkV_w chk
    rw [if_neg (by omega), if_pos (allB_wide hx (by decide) (by decide))]
  have hc : wgC x kind = 0 := by
    unfold wgC wnC
    rw [if_pos hv, okB_mk (by omega) (by omega), okB_mk hk1 hk2]
    rfl
  have hL : wgL x kind = tab x.length (wgAt x kind) := by unfold wgL; rw [if_pos hc]
  refine ⟨hc, by rw [hL, tab_len], ?_, hL⟩
  rw [hL]
  refine allB_tabf fun i hi => ?_
  have h3 := getD_all hx (by decide) (by decide) i
  have h4 := wAt_bd (kind := kind) hk1 hk2 hi
  unfold wgAt
  refine rnd_le (by decide) ?_ ?_
  · have e1 : x.getD i 0 * wAt kind x.length i ≥ -(65536 * wAt kind x.length i) := by
      rw [← Int.neg_mul]; exact Int.mul_le_mul_of_nonneg_right h3.1 h4.1
    have e2 : 65536 * wAt kind x.length i ≤ 65536 * 4096 := Int.mul_le_mul_of_nonneg_left h4.2 (by decide)
    omega
  · have e1 : x.getD i 0 * wAt kind x.length i ≤ 65536 * wAt kind x.length i := Int.mul_le_mul_of_nonneg_right h3.2 h4.1
    have e2 : 65536 * wAt kind x.length i ≤ 65536 * 4096 := Int.mul_le_mul_of_nonneg_left h4.2 (by decide)
    omega
theorem an_ok {p : Nat} {x : List Int} (hp : lenB p = true) (hl : x.length ≤ p) (hx : allB (-65536) 65536 x = true) : trOk (x ++ zs (p - x.length)) = true ∧ (x ++ zs (p - x.length)).length = p := by
  have e : (x ++ zs (p - x.length)).length = p := by rw [List.length_append, zs_len]; omega
  refine ⟨?_, e⟩
  unfold trOk
  rw [e, hp, allB_app, hx, allB_zs (by decide) (by decide)]
  rfl
theorem trA_small {xs : List Int} {M : Int} (hM : 0 ≤ M) (h : allB (-M) M xs = true) {n : Nat} (hn2 : n ≤ 64) (k : Nat) : -(64 * M * 16384) ≤ trA xs n k ∧ trA xs n k ≤ 64 * M * 16384 := by
  have hb := sm_bd (n := n) (m := M * 16384) (f := fun i => xs.getD i 0 * cs ((2 * i + 1) * k * (64 / n))) (fun j _ => by
    have h1 := getD_all h (by omega) hM j
    have h2 := cs_bd ((2 * j + 1) * k * (64 / n))
    exact prod_bd (m := M) (q := 16384) h1.1 h1.2 h2.1 h2.2)
  unfold trA
  have h3 : (n : Int) * (M * 16384) ≤ 64 * (M * 16384) := Int.mul_le_mul_of_nonneg_right (by omega) (by omega)
  rw [Int.mul_assoc]
  omega
theorem sp_small {xs : List Int} {M : Int} (hM : 0 ≤ M) (h : allB (-M) M xs = true) (hn : xs.length ≤ 64) : allB (-(64 * M)) (64 * M) (spL xs) = true := by
  unfold spL
  refine allB_tabf fun k _ => ?_
  have := trA_small hM h hn k
  exact rnd_le (by decide) this.1 this.2
theorem sp_len (xs : List Int) : (spL xs).length = xs.length := tab_len _ _
theorem an_bd {p : Nat} {x : List Int} (hp2 : p ≤ 64) (hl : x.length ≤ p) (hx : allB (-65536) 65536 x = true) : (anF p x).length = p ∧ allB (-4194304) 4194304 (anF p x) = true := by
  have e : (x ++ zs (p - x.length)).length = p := by rw [List.length_append, zs_len]; omega
  unfold anF
  refine ⟨by rw [sp_len, e], ?_⟩
  exact sp_small (M := 65536) (by decide) (by rw [allB_app, hx, allB_zs (by decide) (by decide)]; rfl) (by omega)
theorem bn_bd {ss es : List Int} (hP : BnP ss es) (i : Nat) (hi : i < es.length - 1) : 0 ≤ bnF ss es i ∧ bnF ss es i ≤ 9223372036854775807 := by
  obtain ⟨h1, h2, h3⟩ := hP
  have e1 := h3.2.1 i (by omega)
  have e2 := h3.2.1 (i + 1) (by omega)
  have e3 := h3.2.2 i (by omega)
  have m1 := sq_mono h2 (a := (es.getD i 0).toNat) (b := (es.getD (i + 1) 0).toNat) (by omega)
  have m2 := sq_bd2 h2 (es.getD (i + 1) 0).toNat
  have m3 := sq_bd2 h2 (es.getD i 0).toNat
  have e4 : ((es.getD (i + 1) 0).toNat : Int) ≤ 64 := by omega
  have e5 : ((es.getD (i + 1) 0).toNat : Int) * 281474976710656 ≤ 64 * 281474976710656 := Int.mul_le_mul_of_nonneg_right e4 (by decide)
  unfold bnF
  omega
theorem lg_all {a : Nat} (hb : a ≤ 9223372036854775807) : -16 ≤ lg a ∧ lg a ≤ 2000 := by
  rcases Nat.eq_zero_or_pos a with h | h
  · subst h; exact ⟨by decide, by decide⟩
  · have := lg_bd h hb; omega
theorem me_ok {x es : List Int} (hP : BnP x es) : (meF es x).length = es.length - 1 ∧ allB (-2000) 2000 (meF es x) = true := by
  refine ⟨tab_len _ _, allB_tabf fun i hi => ?_⟩
  have h1 := bn_bd hP i hi
  have := lg_all (a := (bnF x es i).toNat) (by omega)
  omega
theorem me_P {p : Nat} {es x : List Int} (hp2 : p ≤ 64) (hE : EdP es p) (hx : x.length = p) (ha : allB (-4194304) 4194304 x = true) : BnP x es := ⟨by omega, allB_wide ha (by decide) (by decide), by rw [hx]; exact hE⟩
theorem cp_ok {x : List Int} {cep : Int} (h1 : 1 ≤ x.length) (h2 : x.length ≤ 32) (hc1 : 1 ≤ cep) (hc2 : cep ≤ pd x.length) (hx : allB (-2000) 2000 x = true) :
    cpOk x cep = true ∧ (cpL x cep).length = cep.toNat ∧ allB (-128000) 128000 (cpL x cep) = true ∧ cep ≤ 32 := by
  have hp := pd_bd (n := x.length) (by omega)
  have h32 : pd x.length ≤ 32 := by
    unfold pd
    repeat' split
    all_goals omega
  have hL : (x ++ zs (pd x.length - x.length)).length = pd x.length := by rw [List.length_append, zs_len]; omega
  refine ⟨?_, ?_, ?_, by omega⟩
  · unfold cpOk
    rw [okB_mk (by omega) (by omega), okB_mk hc1 hc2, allB_wide hx (by decide) (by decide)]
    rfl
  · unfold cpL
    rw [List.length_take, sp_len, hL]
    omega
  · unfold cpL
    refine allB_of fun y hy => ?_
    have hy := List.mem_of_mem_take hy
    have := sp_small (xs := x ++ zs (pd x.length - x.length)) (M := 2000) (by decide) (by rw [allB_app, hx, allB_zs (by decide) (by decide)]; rfl) (by omega)
    have := allB_mem this y hy
    omega

/-- how many features a frame has -/
def ftN (es : List Int) (cep : Int) : Nat := if cep = 0 then es.length - 1 else cep.toNat
theorem ft_ok {kind cep : Int} {p s : Nat} {es x : List Int} (hk1 : 1 ≤ kind) (hk2 : kind ≤ 3) (hs : 1 ≤ s) (hsp : s ≤ p) (hp : lenB p = true) (hE : EdP es p) (h33 : es.length ≤ 33) (hc0 : 0 ≤ cep) (hc2 : cep ≤ pd (es.length - 1)) (hl : x.length = s) (hx : allB (-65536) 65536 x = true) :
    (ftF kind p es cep x).length = ftN es cep ∧ allB (-128000) 128000 (ftF kind p es cep x) = true := by
  have hp2 := (lenB_le hp).2.1
  have h1 := wg_ok hk1 hk2 (by omega) (by omega) hx
  have h2 := an_bd hp2 (x := wgL x kind) (by omega) h1.2.2.1
  have h3 := me_ok (me_P hp2 hE h2.1 h2.2)
  have hE2 := hE.1
  unfold ftF shF ftN
  by_cases h0 : cep = 0
  · rw [if_pos h0, if_pos h0]
    exact ⟨h3.1, allB_wide h3.2 (by decide) (by decide)⟩
  · rw [if_neg h0, if_neg h0]
    have h4 := cp_ok (x := meF es (anF p (wgL x kind))) (cep := cep) (by rw [h3.1]; omega) (by rw [h3.1]; omega) (by omega) (by rw [h3.1]; exact hc2) h3.2
    exact ⟨h4.2.1, h4.2.2.1⟩
theorem ftN_bd {es : List Int} {cep : Int} {p : Int} (hE : EdP es p) (h33 : es.length ≤ 33) (hc0 : 0 ≤ cep) (hc2 : cep ≤ pd (es.length - 1)) : 1 ≤ ftN es cep ∧ ftN es cep ≤ 32 := by
  have := hE.1
  have h32 : pd (es.length - 1) ≤ 32 := by
    unfold pd
    repeat' split
    all_goals omega
  unfold ftN
  split <;> omega

/-- vectors of m numbers that are small -/
def VecM (m : Nat) (M : Int) (vs : List (List Int)) : Prop := ∀ u ∈ vs, u.length = m ∧ allB (-M) M u = true
theorem chk1_mk {m : Nat} {M : Int} {vs : List (List Int)} (h : VecM m M vs) (hM : M ≤ 1048576) (h1 : 1 ≤ m) (h2 : m ≤ 64) (hn : vs.length ≤ 10000) : chk1 vs = 0 := by
  unfold chk1
  rw [if_neg (by omega), if_pos]
  unfold vecsB
  rw [List.all_eq_true]
  intro u hu
  have hu2 := h u hu
  have hh : (vs.headD []).length = m := by
    cases vs with
    | nil => cases hu
    | cons a l => exact (h a List.mem_cons_self).1
  unfold rowOk vecB
  rw [hh, hu2.1, okB_mk (by omega) (by omega), allB_wide hu2.2 (by omega) hM]
  simp
theorem VecM.head {m : Nat} {M : Int} {vs : List (List Int)} (h : VecM m M vs) (hn : 0 < vs.length) : (vs.headD []).length = m := by
  cases vs with
  | nil => cases hn
  | cons a l => exact (h a List.mem_cons_self).1
theorem VecM.get {m : Nat} {M : Int} {vs : List (List Int)} (h : VecM m M vs) {t : Nat} (ht : t < vs.length) : (vs.getD t []).length = m ∧ allB (-M) M (vs.getD t []) = true := h _ (mem_getD ht)
theorem dif_vec {m : Nat} {M : Int} {vs : List (List Int)} (h : VecM m M vs) (hM : 0 ≤ M) : VecM (m + m) (2 * M) (difL vs) := by
  intro u hu
  unfold difL at hu
  rw [List.mem_map] at hu
  obtain ⟨t, ht, rfl⟩ := hu
  have ht := List.mem_range.1 ht
  have h0 := h.get ht
  have h1 := h.get (t := min (t + 1) (vs.length - 1)) (by omega)
  have h2 := h.get (t := t - 1) (by omega)
  rw [h.head (by omega)]
  unfold difR
  refine ⟨by rw [List.length_append, tab_len, h0.1], ?_⟩
  rw [allB_app, allB_wide h0.2 (by omega) (by omega)]
  refine allB_tabf fun c _ => ?_
  have a1 := getD_all h1.2 (by omega) hM c
  have a2 := getD_all h2.2 (by omega) hM c
  omega
theorem cen_vec {m : Nat} {M : Int} {vs : List (List Int)} (h : VecM m M vs) (hM : 0 ≤ M) : VecM m (2 * M) (cenL vs) := by
  intro u hu
  unfold cenL at hu
  rw [List.mem_map] at hu
  obtain ⟨t, ht, rfl⟩ := hu
  have ht := List.mem_range.1 ht
  have h0 := h.get ht
  rw [h.head (by omega)]
  unfold cenR
  refine ⟨tab_len _ _, allB_tabf fun c hc => ?_⟩
  have a1 := getD_all h0.2 (by omega) hM c
  have a2 : -M ≤ (meanL m vs).getD c 0 ∧ (meanL m vs).getD c 0 ≤ M := by
    unfold meanL
    rw [tab_getD hc]
    have := colS_bd hM (fun x hx => (h x hx).2) c vs.length
    exact rnd_le (by omega) (by rw [Int.mul_comm]; omega) (by rw [Int.mul_comm]; omega)
  omega
theorem VecM.vecS {m : Nat} {M : Int} {vs : List (List Int)} (h : VecM m M vs) (hM : M ≤ 1048576) : VecS m vs := fun u hu => ⟨(h u hu).1, allB_wide (h u hu).2 (by omega) hM⟩
theorem dif_len (vs : List (List Int)) : (difL vs).length = vs.length := by unfold difL; rw [List.length_map, List.length_range]
theorem cen_len (vs : List (List Int)) : (cenL vs).length = vs.length := by unfold cenL; rw [List.length_map, List.length_range]
end Go.Proofs.YtoljffghaklpdaaGreatDoor
