/- The checks of recordings and of emphases; emphasis, and what restores it. -/
import Derived.Test.YtobobbhifajhmaaV0
namespace Go.Proofs.Ytobobbhifajhmaa
open Go.RowKit

/-- f at the first n places -/
def tab (n : Nat) (f : Nat → Int) : List Int := (List.range n).map f
theorem tab_len (n : Nat) (f : Nat → Int) : (tab n f).length = n := by simp [tab]
theorem tab_zero (f : Nat → Int) : tab 0 f = [] := rfl
theorem tab_succ (n : Nat) (f : Nat → Int) : tab (n + 1) f = tab n f ++ [f n] := by simp [tab, List.range_succ]
theorem tab_getD {n : Nat} {f : Nat → Int} {i : Nat} (h : i < n) : (tab n f).getD i 0 = f i := by
  rw [getD_in (by rw [tab_len]; exact h)]; simp [tab]
theorem tab_congr {n : Nat} {f g : Nat → Int} (h : ∀ i, i < n → f i = g i) : tab n f = tab n g := by
  induction n with
  | zero => rfl
  | succ n ih => rw [tab_succ, tab_succ, ih (fun i hi => h i (by omega)), h n (by omega)]
theorem tab_self (xs : List Int) : tab xs.length (fun i => xs.getD i 0) = xs := by
  apply List.ext_getElem
  · rw [tab_len]
  · intro i h1 h2
    have := tab_getD (f := fun i => xs.getD i 0) h2
    rw [getD_in h1, getD_in h2] at this
    exact this

/-- block g is being filled with f: k of n places are done; what was there in w is as it was -/
structure Fill (w wr : World) (g : Nat) (t : TypeId) (n k : Nat) (f : Nat → Int) : Prop where
  own : Mk wr g t .i64 (tab k f ++ zs (n - k))
  bel : Below w.heap.size w wr
  new : w.heap.size ≤ g
theorem Fill.cell {w wr : World} {g : Nat} {t : TypeId} {n k : Nat} {f : Nat → Int} (h : Fill w wr g t n k f) (hk : k < n) : ∃ y, wr.cell? ⟨g, k, none⟩ = some (.int .i64 y) :=
  ⟨_, h.own.cell (by simp [tab_len, zs_len]; omega)⟩
theorem Fill.frozen {w wr : World} {g : Nat} {t : TypeId} {n k : Nat} {f : Nat → Int} (h : Fill w wr g t n k f) (i : Nat) : wr.frozen? ⟨g, i, none⟩ = false := h.own.frozen i
theorem Fill.next {w wr : World} {g : Nat} {t : TypeId} {n k : Nat} {f : Nat → Int} (h : Fill w wr g t n k f) (hk : k < n) {v : Int} (hv : v = f k) : Fill w (wr.setCell ⟨g, k, none⟩ (.int .i64 v)) g t n (k + 1) f :=
  ⟨by have := h.own.set_ k v
      rw [set_done (tab_len k f) hk, hv, ← tab_succ] at this
      rw [← hv] at this
      exact this, h.bel.setCell h.new _, h.new⟩
theorem Fill.start {w w1 : World} {t : TypeId} {n g : Nat} {f : Nat → Int} (hb : Below w.heap.size w w1) (hg : w1.heap.size = g) : Fill w (w1.alloc (.cells (ivs .i64 (zs n)).toArray t)) g t n 0 f := by
  subst hg
  exact ⟨by rw [tab_zero, List.nil_append]; exact Mk.new _ _ _ _, hb.alloc hb.size _, hb.size⟩
theorem Fill.done {w wr : World} {g : Nat} {t : TypeId} {n : Nat} {f : Nat → Int} (h : Fill w wr g t n n f) (hn : n ≤ 140737488355328) : Sl .i64 wr (some ⟨g, 0, none⟩) n n (tab n f) := by
  have := h.own
  rw [Nat.sub_self, show zs 0 = [] from rfl, List.append_nil] at this
  exact this.sl (tab_len _ _) hn

theorem info_int : (Try.prog.info? 3).map (fun i => (i.zero, i.size, i.bytes)) = some (some (.int .i64 0), 1, 8) := by kernel_rfl
theorem make_int (n : Nat) (hn : n ≤ 17592186044416) (w : World) :
    (Instr.makeSlice 22 (.int .i64 (n : Int)) (.int .i64 (n : Int))).run Try.prog w = .ok (.slice (some ⟨w.heap.size, 0, none⟩) n n) (w.alloc (.cells (ivs .i64 (zs n)).toArray 3)) := by
  obtain ⟨i0, hi, hz0, hz1, hz2⟩ := info_parts info_int
  have := run_make (P := Try.prog) w 22 3 i0 (.int .i64 0) Try.underlying22 hi hz0 .i64 .i64 n n (by omega) (by omega) (by rw [hz2]; omega) (by omega)
  rw [this, hz1]
  have e : Value.cells (Value.int .i64 0) = #[Value.int .i64 0] := rfl
  rw [e, made_zs]
  simp

/-- the error of a recording -/
def chkR (rate : Int) (xs : List Int) : Int := if chk (-32768) 32767 xs = 0 then (if okB 1 192000 rate then 0 else 2) else chk (-32768) 32767 xs
theorem checkRecording_any (rate : Int) (A : Option Addr) (n c : Nat) (xs : List Int) (w : World) (h : Sl .i64 w A n c xs) :
    Calls Try.prog 62 #[.agg #[.int .i64 rate, .slice A n c]] w fun e w' => e = .returned (.int .i64 (chkR rate xs)) ∧ Below w.heap.size w w' := by
  have h1 := h.alloc (.cells #[.int .i64 rate, .slice A n c] 24)
  have hb := (Below.refl w.heap.size w).alloc (Nat.le_refl _) (.cells #[.int .i64 rate, .slice A n c] 24)
  rcases chk_cases (-32768) 32767 xs with ⟨_, h2⟩ | ⟨_, _, h2⟩ | ⟨_, _, h2⟩
  · have hr := Lib.hid (show chkR rate xs = 5 by unfold chkR; rw [h2]; rfl)
    go_enter Try.func62, Try.ntmps62
    go_wp2_with (go_at_call 89; refine (checkSamples_any _ _ _ _ _ h1).mono ?_; rintro e w' ⟨rfl, rfl⟩)
    go_ret
    exact ⟨ret_int hr.out.symm, hb⟩
  · cases hk : okB 1 192000 rate with
    | true =>
      have hr := Lib.hid (show chkR rate xs = 0 by unfold chkR; rw [h2, hk]; rfl)
      go_enter Try.func62, Try.ntmps62
      go_wp2_with (first | (go_at_call 89; refine (checkSamples_any _ _ _ _ _ h1).mono ?_; rintro e w' ⟨rfl, rfl⟩) | (go_at_call 70; refine (within_any _ _ _ _).mono ?_; rintro e w' ⟨rfl, rfl⟩))
      go_ret
      exact ⟨ret_int hr.out.symm, hb⟩
    | false =>
      have hr := Lib.hid (show chkR rate xs = 2 by unfold chkR; rw [h2, hk]; rfl)
      go_enter Try.func62, Try.ntmps62
      go_wp2_with (first | (go_at_call 89; refine (checkSamples_any _ _ _ _ _ h1).mono ?_; rintro e w' ⟨rfl, rfl⟩) | (go_at_call 70; refine (within_any _ _ _ _).mono ?_; rintro e w' ⟨rfl, rfl⟩))
      go_ret
      exact ⟨ret_int hr.out.symm, hb⟩
  · have hr := Lib.hid (show chkR rate xs = 2 by unfold chkR; rw [h2]; rfl)
    go_enter Try.func62, Try.ntmps62
    go_wp2_with (go_at_call 89; refine (checkSamples_any _ _ _ _ _ h1).mono ?_; rintro e w' ⟨rfl, rfl⟩)
    go_ret
    exact ⟨ret_int hr.out.symm, hb⟩

/-- the error of the arguments of an emphasis -/
def chkV (xs : List Int) : Int := chk (-2147483647) 2147483647 xs
def chkE (xs : List Int) (num den : Int) : Int := if chkV xs = 0 then (if okB 1 1024 den && okB 0 den num then 0 else 2) else chkV xs
theorem checkEmphasis_any (A : Option Addr) (n c : Nat) (xs : List Int) (num den : Int) (w : World) (h : Sl .i64 w A n c xs) :
    Calls Try.prog 76 #[.slice A n c, .int .i64 num, .int .i64 den] w fun e w' => e = .returned (.int .i64 (chkE xs num den)) ∧ w = w' := by
  rcases chk_cases (-2147483647) 2147483647 xs with ⟨_, h2⟩ | ⟨_, _, h2⟩ | ⟨_, _, h2⟩
  · have hr := Lib.hid (show chkE xs num den = 5 by unfold chkE chkV; rw [h2]; rfl)
    go_enter Try.func76, Try.ntmps76
    go_wp2_with (go_at_call 80; refine (checkValues_any _ _ _ _ _ h).mono ?_; rintro e w' ⟨rfl, rfl⟩)
    go_ret
    exact ⟨ret_int hr.out.symm, rfl⟩
  · cases hk : okB 1 1024 den with
    | true =>
      cases hk2 : okB 0 den num with
      | true =>
        have hr := Lib.hid (show chkE xs num den = 0 by unfold chkE chkV; rw [h2, hk, hk2]; rfl)
        go_enter Try.func76, Try.ntmps76
        go_wp2_with (first | (go_at_call 80; refine (checkValues_any _ _ _ _ _ h).mono ?_; rintro e w' ⟨rfl, rfl⟩) | (go_at_call 70; refine (within_any _ _ _ _).mono ?_; rintro e w' ⟨rfl, rfl⟩))
        go_ret
        exact ⟨ret_int hr.out.symm, rfl⟩
      | false =>
        have hr := Lib.hid (show chkE xs num den = 2 by unfold chkE chkV; rw [h2, hk, hk2]; rfl)
        go_enter Try.func76, Try.ntmps76
        go_wp2_with (first | (go_at_call 80; refine (checkValues_any _ _ _ _ _ h).mono ?_; rintro e w' ⟨rfl, rfl⟩) | (go_at_call 70; refine (within_any _ _ _ _).mono ?_; rintro e w' ⟨rfl, rfl⟩))
        go_ret
        exact ⟨ret_int hr.out.symm, rfl⟩
    | false =>
      have hr := Lib.hid (show chkE xs num den = 2 by unfold chkE chkV; rw [h2, hk]; rfl)
      go_enter Try.func76, Try.ntmps76
      go_wp2_with (first | (go_at_call 80; refine (checkValues_any _ _ _ _ _ h).mono ?_; rintro e w' ⟨rfl, rfl⟩) | (go_at_call 70; refine (within_any _ _ _ _).mono ?_; rintro e w' ⟨rfl, rfl⟩))
      go_ret
      exact ⟨ret_int hr.out.symm, rfl⟩
  · have hr := Lib.hid (show chkE xs num den = 2 by unfold chkE chkV; rw [h2]; rfl)
    go_enter Try.func76, Try.ntmps76
    go_wp2_with (go_at_call 80; refine (checkValues_any _ _ _ _ _ h).mono ?_; rintro e w' ⟨rfl, rfl⟩)
    go_ret
    exact ⟨ret_int hr.out.symm, rfl⟩

def valsB (ys : List Int) : Bool := allB (-2147483647) 2147483647 ys
/-- only values are handed back -/
def oL (ys : List Int) : List Int := if valsB ys then ys else []
def oC (ys : List Int) : Int := if valsB ys then 0 else 2
theorem oL_yes {ys : List Int} (h : valsB ys = true) : oL ys = ys := if_pos h
theorem oL_no {ys : List Int} (h : valsB ys = false) : oL ys = [] := by unfold oL; rw [h]; rfl
theorem oC_yes {ys : List Int} (h : valsB ys = true) : oC ys = 0 := if_pos h
theorem oC_no {ys : List Int} (h : valsB ys = false) : oC ys = 2 := by unfold oC; rw [h]; rfl
theorem onlyValues_any (A : Option Addr) (n c : Nat) (ys : List Int) (w : World) (h : Sl .i64 w A n c ys) :
    Calls Try.prog 78 #[.slice A n c] w (RetL2 .i64 w (oL ys) (oC ys)) := by
  cases hv : allB (-2147483647) 2147483647 ys with
  | true =>
    have hh := Lib.hid (show valsB ys = true from hv)
    go_enter Try.func78, Try.ntmps78
    go_wp2_with (go_at_call 95; refine (allWithin_any _ _ _ _ _ _ _ h).mono ?_; rintro e w' ⟨rfl, rfl⟩)
    go_ret2
    exact ⟨A, n, c, by rw [oC_yes hh.out]; rfl, by rw [oL_yes hh.out]; exact h, Below.refl _ _⟩
  | false =>
    have hh := Lib.hid (show valsB ys = false from hv)
    go_enter Try.func78, Try.ntmps78
    go_wp2_with (go_at_call 95; refine (allWithin_any _ _ _ _ _ _ _ h).mono ?_; rintro e w' ⟨rfl, rfl⟩)
    go_ret2
    exact ⟨none, 0, 0, by rw [oC_no hh.out]; rfl, by rw [oL_no hh.out]; exact Sl.nil _ _, Below.refl _ _⟩

theorem mul_bd {a b m q : Int} (ha : 0 ≤ a) (hm : a ≤ m) (h1 : -q ≤ b) (h2 : b ≤ q) (hq : 0 ≤ q) : -(m * q) ≤ a * b ∧ a * b ≤ m * q := by
  have e1 : a * b ≤ a * q := Int.mul_le_mul_of_nonneg_left h2 ha
  have e2 : a * -q ≤ a * b := Int.mul_le_mul_of_nonneg_left h1 ha
  have e3 : a * q ≤ m * q := Int.mul_le_mul_of_nonneg_right hm hq
  rw [Int.mul_neg] at e2
  omega
/-- a part of a number, rounded, is not greater than the number -/
theorem rnd_part {num den r m : Int} (h0 : 0 ≤ num) (h1 : num ≤ den) (hd : 1 ≤ den) (hr : -m ≤ r) (hr2 : r ≤ m) : -m ≤ rnd (num * r) den ∧ rnd (num * r) den ≤ m := by
  have key : ∀ a : Int, 0 ≤ a → rnd (num * a) den ≤ a := fun a ha => by
    have e1 : num * a ≤ den * a := Int.mul_le_mul_of_nonneg_right h1 ha
    have e0 : 0 ≤ num * a := Int.mul_nonneg h0 ha
    rw [rnd_pos e0]
    have : (2 * (num * a) + den) / (2 * den) < a + 1 := Int.ediv_lt_of_lt_mul (by omega) (by
      rw [Int.add_mul, Int.mul_left_comm a 2 den, Int.mul_comm a den]; omega)
    omega
  by_cases hp : 0 ≤ r
  · have := key r hp
    have := (rnd_bd (a := num * r) (b := den) (Int.mul_nonneg h0 hp) hd).1
    omega
  · have h2 := key (-r) (by omega)
    have h3 := (rnd_bd (a := num * -r) (b := den) (Int.mul_nonneg h0 (by omega)) hd).1
    by_cases hz : num * r < 0
    · rw [rnd_opp hz, ← Int.mul_neg]; omega
    · have e : num * r = 0 := by
        have := Int.mul_nonneg h0 (show 0 ≤ -r by omega)
        rw [Int.mul_neg] at this
        omega
      rw [Int.mul_neg, e] at h2 h3
      rw [e]
      rw [show (-0 : Int) = 0 from rfl] at h2 h3
      omega
theorem rnd_zero {b : Int} (hb : 1 ≤ b) : rnd 0 b = 0 := by have := rnd_bd (a := 0) (by omega) hb; omega

/-- the element before, 0 ahead of the first -/
def prev (f : Nat → Int) : Nat → Int
  | 0 => 0
  | k + 1 => f k
/-- emphasis -/
def emAt (num den : Int) (xs : List Int) (i : Nat) : Int := xs.getD i 0 - rnd (num * prev (fun j => xs.getD j 0) i) den
def reAt (num den : Int) (xs : List Int) : Nat → Int
  | 0 => xs.getD 0 0 + rnd (num * 0) den
  | k + 1 => xs.getD (k + 1) 0 + rnd (num * reAt num den xs k) den
theorem reAt_prev (num den : Int) (xs : List Int) (i : Nat) : reAt num den xs i = xs.getD i 0 + rnd (num * prev (reAt num den xs) i) den := by cases i <;> rfl
theorem reAt_bd {num den : Int} {xs : List Int} (h0 : 0 ≤ num) (h1 : num ≤ den) (hd : 1 ≤ den) (hx : allB (-2147483647) 2147483647 xs = true) :
    ∀ i, i < xs.length → -(2147483647 * ((i : Int) + 1)) ≤ reAt num den xs i ∧ reAt num den xs i ≤ 2147483647 * ((i : Int) + 1) := by
  intro i
  induction i with
  | zero =>
    intro hi
    have h2 := allB_get hx hi rfl
    show _ ≤ _ + _ ∧ _ + _ ≤ _
    rw [Int.mul_zero, rnd_zero hd]
    omega
  | succ k ih =>
    intro hi
    have h2 := allB_get hx hi rfl
    have h3 := ih (by omega)
    have h4 := rnd_part h0 h1 hd h3.1 h3.2
    show _ ≤ _ + _ ∧ _ + _ ≤ _
    omega

/-- what emphasis returns -/
def emL (back : Bool) (xs : List Int) (num den : Int) : List Int := if chkE xs num den = 0 then oL (tab xs.length (if back then reAt num den xs else emAt num den xs)) else []
def emC (back : Bool) (xs : List Int) (num den : Int) : Int := if chkE xs num den = 0 then oC (tab xs.length (if back then reAt num den xs else emAt num den xs)) else chkE xs num den

theorem chkE_cases (xs : List Int) (num den : Int) : (chkE xs num den = 0 ∧ xs.length ≤ 200000 ∧ allB (-2147483647) 2147483647 xs = true ∧ 1 ≤ den ∧ den ≤ 1024 ∧ 0 ≤ num ∧ num ≤ den) ∨ chkE xs num den = 2 ∨ chkE xs num den = 5 := by
  unfold chkE chkV
  rcases chk_cases (-2147483647) 2147483647 xs with ⟨_, h2⟩ | ⟨h1, ha, h2⟩ | ⟨_, _, h2⟩ <;> rw [h2]
  · exact .inr (.inr rfl)
  · cases h3 : okB 1 1024 den && okB 0 den num with
    | true =>
      rw [Bool.and_eq_true, okB_iff, okB_iff] at h3
      exact .inl ⟨rfl, h1, ha, h3.1.1, h3.1.2, h3.2.1, h3.2.2⟩
    | false => exact .inr (.inl rfl)
  · exact .inr (.inl rfl)

set_option maxHeartbeats 800000 in
theorem Emphasize_any (A : Option Addr) (n c : Nat) (xs : List Int) (num den : Int) (w : World) (h : Sl .i64 w A n c xs) :
    Calls Try.prog 34 #[.slice A n c, .int .i64 num, .int .i64 den] w (RetL2 .i64 w (emL false xs num den) (emC false xs num den)) := by
  rcases chkE_cases xs num den with ⟨hk, hn, hall, hd1, hd2, hn1, hn2⟩ | hk | hk
  · have hL := Lib.hid (show emL false xs num den = oL (tab xs.length (emAt num den xs)) by unfold emL; rw [if_pos hk]; rfl)
    have hC := Lib.hid (show emC false xs num den = oC (tab xs.length (emAt num den xs)) by unfold emC; rw [if_pos hk]; rfl)
    have hl := Lib.hid h.len
    rw [hl.out] at hn
    have hcap := h.cap
    have htop := h.top
    have hmk := make_int n (by omega)
    have hall := Lib.hid hall
    go_enter Try.func34, Try.ntmps34
    go_wp2_with (go_at_call 76; refine (checkEmphasis_any _ _ _ _ _ _ _ h).mono ?_; rintro e w' ⟨rfl, rfl⟩)
    clear hk hmk
    go_loopw [10, 25] (fun bv iv wr => ∃ k : Nat, iv = .int .i64 k ∧ bv = .int .i64 (prev (fun j => xs.getD j 0) k) ∧ k ≤ n ∧ Fill w wr w.heap.size 3 n k (emAt num den xs)) (fun _ iv _ => n - (intOf iv).toNat)
    case atStart => exact ⟨0, rfl, rfl, Nat.zero_le _, Fill.start (Below.refl _ _) rfl⟩
    case round =>
      obtain ⟨k, rfl, rfl, hkn, hF⟩ := hrel
      have hr := h.below hF.bel
      rcases Nat.lt_or_ge k n with hlt | hge
      · obtain ⟨ad, x, rfl, hcx, hx⟩ := hr.at_ hlt
        obtain ⟨y, hcy⟩ := hF.cell hlt
        have hcf := hF.frozen k
        have hv := Lib.hid (show x - rnd (num * prev (fun j => xs.getD j 0) k) den = emAt num den xs k by unfold emAt; rw [hx.out])
        have hpv := Lib.hid (show prev (fun j => xs.getD j 0) (k + 1) = x from hx.out)
        have hxb := allB_get hall.out (by rw [hl.out]; exact hlt) hx.out
        have hx1 := hxb.1
        have hx2 := hxb.2
        have hpb : -2147483647 ≤ prev (fun j => xs.getD j 0) k ∧ prev (fun j => xs.getD j 0) k ≤ 2147483647 := by
          cases k with
          | zero => show _ ≤ (0 : Int) ∧ (0 : Int) ≤ _; omega
          | succ j => exact allB_get hall.out (by rw [hl.out]; omega) rfl
        generalize prev (fun j => xs.getD j 0) k = p at *
        have hp1 := hpb.1
        have hp2 := hpb.2
        have hm := mul_bd hn1 (show num ≤ 1024 by omega) hp1 hp2 (by omega)
        have hm1 := hm.1
        have hm2 := hm.2
        have hq := rnd_part hn1 hn2 hd1 hp1 hp2
        have hq1 := hq.1
        have hq2 := hq.2
        clear hxb hpb hm hq
        go_wp2_with (go_at_call 77; refine (divide_any _ _ _ (by omega) (by omega) hd1 (by omega)).mono ?_; rintro e w' ⟨rfl, rfl⟩)
        go_roundw
        case rel => exact ⟨k + 1, by go_num, by rw [hpv.out], hlt, hF.next hlt hv.out⟩
        case measure => simp [intOf]; omega
      · have hkn' : k = n := by omega
        subst hkn'
        have hD := hF.done (by omega)
        go_wp2_with (go_at_call 78; refine (onlyValues_any _ _ _ _ _ hD).mono ?_; rintro e w' ⟨A2, m2, c2, rfl, h2, hb2⟩)
        go_ret2
        exact ⟨A2, m2, c2, by rw [hC.out, hl.out]; rfl, by rw [hL.out, hl.out]; exact h2, hF.bel.trans (hb2.mono hF.bel.size)⟩
  all_goals
    have hL := Lib.hid (show emL false xs num den = [] by unfold emL; rw [hk]; rfl)
    have hC := Lib.hid (show emC false xs num den = chkE xs num den by unfold emC; rw [hk]; rfl)
    have hk' := Lib.hid hk
    go_enter Try.func34, Try.ntmps34
    go_wp2_with (go_at_call 76; refine (checkEmphasis_any _ _ _ _ _ _ _ h).mono ?_; rintro e w' ⟨rfl, rfl⟩)
    go_ret2
    exact ⟨none, 0, 0, by rw [hC.out, hk'.out]; rfl, by rw [hL.out]; exact Sl.nil _ _, Below.refl _ _⟩
end Go.Proofs.Ytobobbhifajhmaa
