/- The products of the table's rows: nearly orthogonal. -/
import Derived.Test.YtoljffghaklpdaaDoorFD
import Derived.Test.YtoljffghaklpdaaDoorHV
namespace Go.Proofs.YtoljffghaklpdaaDoor
open Go.RowKit

def dotA : Int → List Int → List Int → Int
  | acc, a :: xs, b :: ys => dotA (acc + a * b) xs ys
  | acc, _, _ => acc
def rowC (n i : Nat) : List Int := tab n fun k => cs ((2 * i + 1) * k * (64 / n))
def nearB (n i j : Nat) (g : Int) : Bool := decide (-(32768 * (n : Int)) ≤ 2 * g - 268435456 - (if i = j then (n : Int) * 268435456 else 0)) && decide (2 * g - 268435456 - (if i = j then (n : Int) * 268435456 else 0) ≤ 32768 * (n : Int))
def nearAll (n : Nat) : Bool := (List.range n).all fun i => (List.range (i + 1)).all fun j => nearB n i j (dotA 0 (rowC n i) (rowC n j))
theorem near1 : nearAll 1 = true := by decide +kernel
theorem near2 : nearAll 2 = true := by decide +kernel
theorem near4 : nearAll 4 = true := by decide +kernel
theorem near8 : nearAll 8 = true := by decide +kernel
theorem near16 : nearAll 16 = true := by decide +kernel
theorem near32 : nearAll 32 = true := by decide +kernel
theorem near64 : nearAll 64 = true := by decide +kernel
end Go.Proofs.YtoljffghaklpdaaDoor


/- The inverse transform of the transform: how near it is. -/
namespace Go.Proofs.YtoljffghaklpdaaDoor
open Go.RowKit

theorem rnd_close {a n : Int} (hn : 1 ≤ n) : -n ≤ 2 * (a - n * rnd a n) ∧ 2 * (a - n * rnd a n) ≤ n := by
  have key : ∀ a : Int, 0 ≤ a → -n ≤ 2 * (a - n * rnd a n) ∧ 2 * (a - n * rnd a n) ≤ n := fun a ha => by
    rw [rnd_pos ha]
    have h := Int.mul_ediv_add_emod (2 * a + n) (2 * n)
    have h1 := Int.emod_nonneg (2 * a + n) (b := 2 * n) (by omega)
    have h2 := Int.emod_lt_of_pos (2 * a + n) (b := 2 * n) (by omega)
    generalize (2 * a + n) / (2 * n) = q at *
    generalize (2 * a + n) % (2 * n) = r at *
    have e : 2 * n * q = 2 * (n * q) := Int.mul_assoc _ _ _
    generalize n * q = p at *
    omega
  rcases Int.lt_or_le a 0 with h | h
  · have := key (-a) (by omega)
    rw [rnd_opp h, Int.mul_neg]
    omega
  · exact key a h
theorem dot_snoc (a b : Int) : ∀ (xs ys : List Int) (acc : Int), xs.length = ys.length → dotA acc (xs ++ [a]) (ys ++ [b]) = dotA acc xs ys + a * b := by
  intro xs
  induction xs with
  | nil =>
    intro ys acc h
    cases ys with
    | nil => rfl
    | cons y ys => simp at h
  | cons x xs ih =>
    intro ys acc h
    cases ys with
    | nil => simp at h
    | cons y ys => exact ih ys (acc + x * y) (by simpa using h)
theorem dot_tab (n : Nat) (f g : Nat → Int) : dotA 0 (tab n f) (tab n g) = sm n fun k => f k * g k := by
  induction n with
  | zero => rfl
  | succ n ih =>
    rw [tab_succ, tab_succ, dot_snoc _ _ _ _ _ (by rw [tab_len, tab_len]), ih]
    rfl
theorem sm_mul (n : Nat) (a : Int) (f : Nat → Int) : sm n (fun k => a * f k) = a * sm n f := by
  induction n with
  | zero => show 0 = a * 0; rw [Int.mul_zero]
  | succ n ih => show sm n (fun k => a * f k) + a * f n = a * (sm n f + f n); rw [ih, Int.mul_add]
theorem sm_add2 (n : Nat) (f g : Nat → Int) : sm n (fun k => f k + g k) = sm n f + sm n g := by
  induction n with
  | zero => rfl
  | succ n ih => show sm n (fun k => f k + g k) + (f n + g n) = (sm n f + f n) + (sm n g + g n); rw [ih]; omega
theorem sm_none (n : Nat) : sm n (fun _ => 0) = 0 := by
  induction n with
  | zero => rfl
  | succ n ih => show sm n (fun _ => 0) + 0 = 0; rw [ih]; rfl
theorem sm_swap (n m : Nat) (f : Nat → Nat → Int) : sm n (fun k => sm m (fun j => f k j)) = sm m (fun j => sm n (fun k => f k j)) := by
  induction n with
  | zero => exact (sm_none m).symm
  | succ n ih =>
    show sm n (fun k => sm m (fun j => f k j)) + sm m (fun j => f n j) = sm m (fun j => sm n (fun k => f k j) + f n j)
    rw [sm_add2, ih]
theorem sm_eqv {n : Nat} {f g : Nat → Int} (h : ∀ i, i < n → f i = g i) : sm n f = sm n g := by
  induction n with
  | zero => rfl
  | succ n ih => show sm n f + f n = sm n g + g n; rw [ih (fun i hi => h i (by omega)), h n (by omega)]
theorem sm_one (n : Nat) {i : Nat} (hi : i < n) (f : Nat → Int) : sm n (fun j => if i = j then f j else 0) = f i := by
  induction n with
  | zero => omega
  | succ n ih =>
    show sm n (fun j => if i = j then f j else 0) + (if i = n then f n else 0) = f i
    rcases Nat.lt_or_ge i n with h | h
    · rw [ih h, if_neg (by omega)]; omega
    · obtain rfl : i = n := by omega
      rw [if_pos rfl, sm_eqv (g := fun _ => 0) (fun j hj => if_neg (by omega)), sm_none]; omega

def gG (n i j : Nat) : Int := sm n fun k => cs ((2 * i + 1) * k * (64 / n)) * cs ((2 * j + 1) * k * (64 / n))
theorem gG_comm (n i j : Nat) : gG n i j = gG n j i := sm_eqv fun _ _ => Int.mul_comm _ _
theorem near_le {n i j : Nat} (h : nearAll n = true) (hi : i < n) (hj : j ≤ i) : -(32768 * (n : Int)) ≤ 2 * gG n i j - 268435456 - (if i = j then (n : Int) * 268435456 else 0) ∧ 2 * gG n i j - 268435456 - (if i = j then (n : Int) * 268435456 else 0) ≤ 32768 * (n : Int) := by
  unfold nearAll at h
  have h1 := List.all_eq_true.1 h i (List.mem_range.2 hi)
  have h2 := List.all_eq_true.1 h1 j (List.mem_range.2 (by omega))
  unfold nearB rowC at h2
  rw [dot_tab] at h2
  simp only [Bool.and_eq_true, decide_eq_true_eq] at h2
  exact h2
theorem near_any {n i j : Nat} (hn : lenB n = true) (hi : i < n) (hj : j < n) : -(32768 * (n : Int)) ≤ 2 * gG n i j - 268435456 - (if i = j then (n : Int) * 268435456 else 0) ∧ 2 * gG n i j - 268435456 - (if i = j then (n : Int) * 268435456 else 0) ≤ 32768 * (n : Int) := by
  have hA : nearAll n = true := by
    obtain ⟨h1, h2, h3⟩ := lenB_le hn
    have : n = 1 ∨ n = 2 ∨ n = 4 ∨ n = 8 ∨ n = 16 ∨ n = 32 ∨ n = 64 := by
      have key : ∀ m : Nat, m ≤ 64 → 1 ≤ m → 64 % m = 0 → m = 1 ∨ m = 2 ∨ m = 4 ∨ m = 8 ∨ m = 16 ∨ m = 32 ∨ m = 64 := by decide
      exact key n h2 h1 h3
    rcases this with rfl | rfl | rfl | rfl | rfl | rfl | rfl
    · exact near1
    · exact near2
    · exact near4
    · exact near8
    · exact near16
    · exact near32
    · exact near64
  rcases Nat.le_total j i with h | h
  · exact near_le hA hi h
  · have := near_le hA hj h
    rw [gG_comm n j i] at this
    by_cases e : i = j
    · rw [if_pos e]; rw [if_pos e.symm] at this; exact this
    · rw [if_neg e]; rw [if_neg (fun q => e q.symm)] at this; exact this
theorem cs0 (n i : Nat) : cs ((2 * i + 1) * 0 * (64 / n)) = 16384 := by
  rw [Nat.mul_zero, Nat.zero_mul]; decide
/-- the sum that is rounded, without the rounding -/
theorem iv_sum {xs : List Int} {n i : Nat} (hn : 0 < n) (hl : xs.length = n) : sm n (ivF (trL xs) n i) = sm n fun j => xs.getD j 0 * (2 * gG n i j - 268435456) := by
  have et : ∀ k, k < n → (trL xs).getD k 0 = sm n fun j => xs.getD j 0 * cs ((2 * j + 1) * k * (64 / n)) := fun k hk => by
    unfold trL
    rw [hl, tab_getD hk]; rfl
  have e1 : sm n (ivF (trL xs) n i) = sm n (fun k => 2 * ((trL xs).getD k 0 * cs ((2 * i + 1) * k * (64 / n))) + (if 0 = k then -(16384 * (trL xs).getD 0 0) else 0)) := sm_eqv fun k hk => by
    unfold ivF
    by_cases h0 : k = 0
    · subst h0
      rw [if_pos rfl, if_pos rfl, cs0]
      omega
    · rw [if_neg h0, if_neg (fun q => h0 q.symm), Int.mul_assoc]
      omega
  have e2 : sm n (fun k => (trL xs).getD k 0 * cs ((2 * i + 1) * k * (64 / n))) = sm n fun j => xs.getD j 0 * gG n i j := by
    have a1 : sm n (fun k => (trL xs).getD k 0 * cs ((2 * i + 1) * k * (64 / n))) = sm n (fun k => sm n fun j => xs.getD j 0 * (cs ((2 * i + 1) * k * (64 / n)) * cs ((2 * j + 1) * k * (64 / n)))) := sm_eqv fun k hk => by
      rw [et k hk, Int.mul_comm, ← sm_mul]
      refine sm_eqv fun j _ => ?_
      rw [← Int.mul_assoc, ← Int.mul_assoc, Int.mul_comm (cs _) (xs.getD j 0)]
    rw [a1, sm_swap]
    refine sm_eqv fun j _ => ?_
    rw [sm_mul]; rfl
  have e3 : (trL xs).getD 0 0 = sm n fun j => 16384 * xs.getD j 0 := by
    rw [et 0 hn]
    refine sm_eqv fun j _ => ?_
    rw [cs0, Int.mul_comm]
  rw [e1, sm_add2, sm_mul, e2, sm_one n hn (fun _ => -(16384 * (trL xs).getD 0 0)), e3, sm_mul]
  have e4 : (sm n fun j => xs.getD j 0 * (2 * gG n i j - 268435456)) = 2 * (sm n fun j => xs.getD j 0 * gG n i j) + (-268435456) * sm n (fun j => xs.getD j 0) := by
    rw [← sm_mul, ← sm_mul, ← sm_add2]
    refine sm_eqv fun j _ => ?_
    rw [Int.mul_sub]
    have : xs.getD j 0 * (2 * gG n i j) = 2 * (xs.getD j 0 * gG n i j) := by rw [Int.mul_left_comm]
    omega
  rw [e4]
  omega
theorem iv_near {xs : List Int} {n i : Nat} {M : Int} (hb : lenB n = true) (hl : xs.length = n) (hi : i < n) (hM : ∀ j, j < n → -M ≤ xs.getD j 0 ∧ xs.getD j 0 ≤ M) :
    -(n * (M * (32768 * n))) ≤ sm n (ivF (trL xs) n i) - n * 268435456 * xs.getD i 0 ∧ sm n (ivF (trL xs) n i) - n * 268435456 * xs.getD i 0 ≤ n * (M * (32768 * n)) := by
  have hn : 0 < n := by omega
  have e1 : sm n (ivF (trL xs) n i) - n * 268435456 * xs.getD i 0 = sm n fun j => xs.getD j 0 * (2 * gG n i j - 268435456 - (if i = j then (n : Int) * 268435456 else 0)) := by
    rw [iv_sum hn hl]
    have a1 : (sm n fun j => xs.getD j 0 * (2 * gG n i j - 268435456 - (if i = j then (n : Int) * 268435456 else 0))) = sm n (fun j => xs.getD j 0 * (2 * gG n i j - 268435456) + (if i = j then -((n : Int) * 268435456 * xs.getD j 0) else 0)) := sm_eqv fun j _ => by
      rw [Int.mul_sub]
      by_cases e : i = j
      · rw [if_pos e, if_pos e, Int.mul_comm (xs.getD j 0) ((n : Int) * 268435456)]; omega
      · rw [if_neg e, if_neg e]; omega
    rw [a1, sm_add2, sm_one n hi (fun j => -((n : Int) * 268435456 * xs.getD j 0))]
    omega
  rw [e1]
  refine sm_bd (m := M * (32768 * n)) fun j hj => ?_
  have h1 := hM j hj
  have h2 := near_any hb hi hj
  exact prod_bd h1.1 h1.2 h2.1 h2.2
theorem iv_back {xs : List Int} {n i : Nat} {M : Int} (hb : lenB n = true) (hl : xs.length = n) (hi : i < n) (hM : ∀ j, j < n → -M ≤ xs.getD j 0 ∧ xs.getD j 0 ≤ M) :
    -(8192 + 2 * (n * M)) ≤ 16384 * (xs.getD i 0 - (ivL (trL xs)).getD i 0) ∧ 16384 * (xs.getD i 0 - (ivL (trL xs)).getD i 0) ≤ 8192 + 2 * (n * M) := by
  have hn : 0 < n := by omega
  have hl2 : (trL xs).length = n := by unfold trL; rw [tab_len, hl]
  have ey : (ivL (trL xs)).getD i 0 = rnd (sm n (ivF (trL xs) n i)) (n * 268435456) := by
    unfold ivL
    rw [hl2, tab_getD hi]; rfl
  have h1 := iv_near hb hl hi hM
  have h2 := rnd_close (a := sm n (ivF (trL xs) n i)) (n := (n : Int) * 268435456) (by omega)
  rw [← ey] at h2
  generalize (ivL (trL xs)).getD i 0 = y at *
  generalize xs.getD i 0 = x at *
  generalize sm n (ivF (trL xs) n i) = S at *
  have a1 : (n : Int) * (M * (32768 * n)) = n * (32768 * (n * M)) := by
    rw [Int.mul_left_comm M 32768, Int.mul_comm M n]
  have a2 : (n : Int) * 268435456 * x = n * (268435456 * x) := Int.mul_assoc _ _ _
  have a3 : (n : Int) * 268435456 * y = n * (268435456 * y) := Int.mul_assoc _ _ _
  rw [a1, a2] at h1
  rw [a3] at h2
  generalize hZ : (n : Int) * M = Z at *
  have hd : 268435456 * (x - y) = 268435456 * x - 268435456 * y := Int.mul_sub _ _ _
  have b1 : (n : Int) * (536870912 * (x - y)) = 2 * (n * (268435456 * x)) - 2 * (n * (268435456 * y)) := by
    rw [show 536870912 * (x - y) = 2 * (268435456 * x) - 2 * (268435456 * y) by omega, Int.mul_sub, Int.mul_left_comm (n : Int) 2, Int.mul_left_comm (n : Int) 2]
  have b2 : (n : Int) * (268435456 + 65536 * Z) = n * 268435456 + 2 * (n * (32768 * Z)) := by
    rw [Int.mul_add, show 65536 * Z = 2 * (32768 * Z) by omega, Int.mul_left_comm (n : Int) 2]
  have b3 : (n : Int) * -(268435456 + 65536 * Z) = -(n * 268435456 + 2 * (n * (32768 * Z))) := by rw [Int.mul_neg, b2]
  have c1 : (n : Int) * (536870912 * (x - y)) ≤ n * (268435456 + 65536 * Z) := by rw [b1, b2]; omega
  have c2 : (n : Int) * -(268435456 + 65536 * Z) ≤ n * (536870912 * (x - y)) := by rw [b1, b3]; omega
  have d1 := Int.le_of_mul_le_mul_left c1 (by omega)
  have d2 := Int.le_of_mul_le_mul_left c2 (by omega)
  omega
end Go.Proofs.YtoljffghaklpdaaDoor


/- The inverse transform of the transform: the law's walk. -/
namespace Go.Proofs.YtoljffghaklpdaaDoor
open Go.RowKit

theorem spans_any (A : Option Addr) (n c : Nat) (xs : List Int) (w : World) (h : Sl .i64 w A n c xs) :
    Calls Tryd.prog 31 #[.slice A n c] w fun e w' => e = .returned (.bool (trOk xs)) ∧ w' = w := by
  have hl := Lib.hid h.len
  have hcap := h.cap
  have htop := h.top
  have hA := All_any A n c xs (-65536) 65536 w h
  have hL := RLength_any n w
  have hv := Lib.hid (show trOk xs = (lenB n && allB (-65536) 65536 xs) by unfold trOk; rw [hl.out])
  cases hb : lenB n with
  | false =>
    rw [hb] at hL hv
    have hL := Lib.hid hL
    clear hb
    go_enter Tryd.func31, Tryd.ntmps31
    go_wp2_with fail
    refine hL.out.mono ?_
    rintro e w1 ⟨rfl, hw1⟩
    rw [hw1]
    clear hw1
    go_wp2
    go_ret
    exact ⟨by rw [hv.out]; rfl, rfl⟩
  | true =>
    rw [hb] at hL hv
    have hL := Lib.hid hL
    have hA := Lib.hid hA
    clear hb
    go_enter Tryd.func31, Tryd.ntmps31
    go_wp2_with fail
    refine hL.out.mono ?_
    rintro e w1 ⟨rfl, hw1⟩
    rw [hw1]
    clear hw1
    go_wp2_with fail
    refine hA.out.mono ?_
    rintro e w1 ⟨rfl, rfl⟩
    go_wp2
    go_ret
    exact ⟨by rw [hv.out]; rfl, rfl⟩

set_option maxHeartbeats 6400000 in
set_option maxRecDepth 100000 in
theorem returns_law (A : Option Addr) (n c : Nat) (xs : List Int) (w : World) (h : Sl .i64 w A n c xs) (hT : Tab w) :
    Calls Tryd.prog 7 #[.slice A n c] w (YesF w) := by
  have hl := Lib.hid h.len
  have hcap := h.cap
  have htop := h.top
  have hS := spans_any A n c xs w h
  cases hk : trOk xs with
  | false =>
    rw [hk] at hS
    have hS := Lib.hid hS
    clear hk
    go_enter Tryd.func7, Tryd.ntmps7
    go_wp2_with fail
    refine hS.out.mono ?_
    rintro e w1 ⟨rfl, hw1⟩
    rw [hw1]
    clear hw1
    go_wp2_with fail
    refine (known_any _ hT).mono ?_
    rintro e w99 ⟨rfl, hb99⟩
    go_wp2
    go_ret
    exact ⟨rfl, hb99⟩
  | true =>
    rw [hk] at hS
    have hS := Lib.hid hS
    have hlen : lenB n = true ∧ allB (-65536) 65536 xs = true := by
      unfold trOk at hk
      rw [hl.out] at hk
      simpa using hk
    have hle := lenB_le hlen.1
    have hn1 := hle.1
    have hn2 := hle.2.1
    have hivk := Lib.hid (show ivOk (trL xs) = true by
      unfold ivOk
      have e1 : (trL xs).length = n := by unfold trL; rw [tab_len, hl.out]
      rw [e1, hlen.1]
      simp only [Bool.true_and]
      unfold allB
      rw [List.all_eq_true]
      intro x hx
      obtain ⟨j, hj, rfl⟩ := List.getElem_of_mem hx
      have e2 := trA_bd2 hk hl.out j
      have e3 : (trL xs).getD j 0 = trA xs n j := by
        unfold trL
        rw [hl.out, tab_getD (by rw [e1] at hj; exact hj)]
      rw [getD_in hj] at e3
      rw [e3]
      simp [okB_iff]
      omega)
    have hkk := Lib.hid hk
    have hlB := Lib.hid hlen.1
    have hall := Lib.hid hlen.2
    clear hk hlen hle
    go_enter Tryd.func7, Tryd.ntmps7
    go_wp2_with fail
    refine hS.out.mono ?_
    rintro e w1 ⟨rfl, hw1⟩
    rw [hw1]
    clear hw1
    go_wp2_with fail
    refine (Transform_any A n c xs w h hT).mono ?_
    intro e w2 hh
    obtain ⟨g2, rfl, hM2, hb2, hg2⟩ := (hh.resolve_right (fun q => by have := q.1; rw [hkk.out] at this; cases this)).2
    clear hh
    have h2 := h.below hb2
    have hT2 := hT.below hb2
    have htl := Lib.hid (show (trL xs).length = n by unfold trL; rw [tab_len, hl.out])
    have hSt := hM2.sl htl.out (by omega)
    go_wp2_with fail
    refine (Inverse_any (some ⟨g2, 0, none⟩) n n (trL xs) w2 hSt hT2).mono ?_
    intro e w3 hh
    obtain ⟨g3, rfl, hM3, hb23, hg3⟩ := (hh.resolve_right (fun q => by have := q.1; rw [hivk.out] at this; cases this)).2
    clear hh
    have hb3 := hb2.trans (hb23.mono hb2.size)
    have h3 := h.below hb3
    have hyl := Lib.hid (show (ivL (trL xs)).length = n by unfold ivL; rw [tab_len, htl.out])
    go_wp2
    go_loopw [7, 8] (fun mv iv wr' => ∃ (i : Nat) (M : Int) (wr : World), wr = wr' ∧ iv = .int .i64 i ∧ mv = .int .i64 M ∧ i ≤ n ∧ 0 ≤ M ∧ M ≤ 65536 ∧ Hid (∀ j, j < i → -M ≤ xs.getD j 0 ∧ xs.getD j 0 ≤ M) ∧ Below w3.heap.size w3 wr) (fun _ iv _ => n - (intOf iv).toNat)
    case atStart => exact ⟨0, 0, _, rfl, rfl, rfl, Nat.zero_le _, by decide, by decide, fun j hj => absurd hj (by omega), Below.refl _ _⟩
    case round =>
      obtain ⟨i, M, wr, rfl, rfl, rfl, hin, hM0, hM1, hd, hbr⟩ := hrel
      rcases Nat.lt_or_ge i n with hlt | hge
      · obtain ⟨ad, x, rfl, hcx, hx⟩ := (h3.below hbr).at_ hlt
        have hxb := allB_get hall.out (by rw [hl.out]; exact hlt) hx.out
        have w1e : IntKind.i64.wrap (-x) = -x := IntWalk.i64_in _ (by omega)
        have i0 : (0 : Int) ≤ (i : Int) := by omega
        have i1 : (i : Int) < (n : Int) := by omega
        obtain ⟨M1, hM1'⟩ : ∃ M1, (if M < x then x else M) = M1 := ⟨_, rfl⟩
        obtain ⟨M2, hM2'⟩ : ∃ M2, (if M1 < -x then -x else M1) = M2 := ⟨_, rfl⟩
        have hb1 : M ≤ M1 ∧ x ≤ M1 ∧ M1 ≤ 65536 := by omega
        have hb2' : M1 ≤ M2 ∧ -x ≤ M2 ∧ M2 ≤ 65536 := by omega
        have hd2 := Lib.hid (show ∀ j, j < i + 1 → -M2 ≤ xs.getD j 0 ∧ xs.getD j 0 ≤ M2 from fun j hj => by
          rcases Nat.lt_or_ge j i with h9 | h9
          · have := hd.out j h9; omega
          · rw [show j = i by omega, hx.out]; omega)
        have hp0 : 0 ≤ M2 := by omega
        have hp1 : M2 ≤ 65536 := by omega
        clear hxb hb1 hb2' hd
        go_wp2
        go_quiet (fail)
        have hbz := bel_drewN hbr nq
        generalize wr.drewN nq = wz at *
        go_wp2
        go_roundw
        case rel => exact ⟨i + 1, M2, _, rfl, by go_num, rfl, hlt, hp0, hp1, hd2.out, hbz⟩
        case measure => simp [intOf]; omega
      · have hin' : n = i := by omega
        subst hin'
        have hmath := Lib.hid (fun j (hj : j < n) => iv_back hlB.out hl.out hj hd.out)
        obtain ⟨K, hK⟩ : ∃ K, (n : Int) * M = K := ⟨_, rfl⟩
        have hK2 : 2 * (n : Int) * M = 2 * K := by rw [Int.mul_assoc, hK]
        have hKb : 0 ≤ K ∧ K ≤ 64 * 65536 := by
          rw [← hK]
          refine ⟨Int.mul_nonneg (by omega) hM0, ?_⟩
          have e1 : (n : Int) * M ≤ (n : Int) * 65536 := Int.mul_le_mul_of_nonneg_left hM1 (by omega)
          omega
        have hKb1 := hKb.1
        have hKb2 := hKb.2
        have hMy := hM3.below hbr
        have hx3 := h3.below hbr
        have hyb := Lib.hid (fun j (hj : j < n) => show -4611686018427387904 ≤ (ivL (trL xs)).getD j 0 ∧ (ivL (trL xs)).getD j 0 ≤ 4611686018427387904 by
          have e1 := hmath.out j hj
          rw [hK] at e1
          have e2 := hd.out j hj
          omega)
        have hK := Lib.hid hK
        clear hKb
        go_wp2
        go_loopw [9] (fun iv wx' => ∃ (i : Nat) (wx : World), wx = wx' ∧ iv = .int .i64 i ∧ i ≤ n ∧ Below wr.heap.size wr wx) (fun iv _ => n - (intOf iv).toNat)
        case atStart => exact ⟨0, _, rfl, rfl, Nat.zero_le _, Below.refl _ _⟩
        case round =>
          obtain ⟨i, wx, rfl, rfl, hin, hbx⟩ := hrel
          rcases Nat.lt_or_ge i n with hlt | hge
          · obtain ⟨ad, x, rfl, hcx, hx⟩ := (hx3.below hbx).at_ hlt
            have hcy := (hMy.below hbx).cell (i := i) (by rw [hyl.out]; exact hlt)
            have hb9 := hmath.out i hlt
            have hb8 := hyb.out i hlt
            rw [hx.out, hK.out] at hb9
            generalize (ivL (trL xs)).getD i 0 = y at *
            have hxb := allB_get hall.out (by rw [hl.out]; exact hlt) hx.out
            obtain ⟨d, hd'⟩ : ∃ d, x - y = d := ⟨_, rfl⟩
            rw [hd'] at hb9
            have hdb : -1000 - K ≤ d ∧ d ≤ 1000 + K := by omega
            have w1e : IntKind.i64.wrap (x - y) = d := by rw [IntWalk.i64_in _ (by omega)]; exact hd'
            obtain ⟨Q, hQ⟩ : ∃ Q, (if d < -d then -d else d) = Q := ⟨_, rfl⟩
            have hQb : 16384 * (Q - 1) ≤ 2 * K ∧ 0 ≤ Q ∧ Q ≤ 1000 + K := by omega
            have w2e : IntKind.i64.wrap (-d) = -d := IntWalk.i64_in _ (by omega)
            have w3e : IntKind.i64.wrap (Q - 1) = Q - 1 := IntWalk.i64_in _ (by omega)
            have w4e : IntKind.i64.wrap (16384 * (Q - 1)) = 16384 * (Q - 1) := IntWalk.i64_in _ (by omega)
            have w5e : IntKind.i64.wrap (2 * (n : Int)) = 2 * (n : Int) := IntWalk.i64_in _ (by omega)
            have w6e : IntKind.i64.wrap (2 * (n : Int) * M) = 2 * K := by rw [hK2]; exact IntWalk.i64_in _ (by omega)
            have hno : ¬ 2 * K < 16384 * (Q - 1) := by omega
            have hno2 : decide (2 * K < 16384 * (Q - 1)) = false := decide_eq_false hno
            have i0 : (0 : Int) ≤ (i : Int) := by omega
            have i1 : (i : Int) < (n : Int) := by omega
            have hd' := Lib.hid hd'
            clear hb9 hb8 hxb hdb hQb hK2
            go_wp2
            go_quiet (fail)
            have hbz := bel_drewN hbx nq
            generalize wx.drewN nq = wz at *
            go_wp2
            go_roundw
            case rel => exact ⟨i + 1, _, rfl, by go_num, hlt, hbz⟩
            case measure => simp [intOf]; omega
          · have hin' : n = i := by omega
            subst hin'
            have hbe := hb3.trans ((hbr.trans (hbx.mono hbr.size)).mono hb3.size)
            have hTe := hT.below hbe
            go_wp2_with fail
            refine (known_any _ hTe).mono ?_
            rintro e w99 ⟨rfl, hb99⟩
            go_wp2
            go_ret
            exact ⟨rfl, hbe.trans (hb99.mono hbe.size)⟩
end Go.Proofs.YtoljffghaklpdaaDoor
