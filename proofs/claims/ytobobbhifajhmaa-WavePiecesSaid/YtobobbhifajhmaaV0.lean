/- The checks of lists, and division with rounding. -/
import Derived.Test.YtobobbhifajhmaaVMem
import Derived.Test.YtobobbhifajhmaaChecked
import Derived.WalkSpells
namespace Go.Proofs.Ytobobbhifajhmaa
open Go.RowKit

def okB (lo hi : Int) (x : Int) : Bool := decide (lo ≤ x) && decide (x ≤ hi)
theorem okB_mk {lo hi x : Int} (h1 : lo ≤ x) (h2 : x ≤ hi) : okB lo hi x = true := by unfold okB; rw [decide_eq_true h1, decide_eq_true h2]; rfl
theorem okB_lo {lo hi x : Int} (h1 : ¬ lo ≤ x) : okB lo hi x = false := by unfold okB; rw [decide_eq_false h1]; rfl
theorem okB_hi {lo hi x : Int} (h1 : ¬ x ≤ hi) : okB lo hi x = false := by unfold okB; rw [decide_eq_false h1, Bool.and_false]
theorem okB_iff {lo hi x : Int} : okB lo hi x = true ↔ lo ≤ x ∧ x ≤ hi := by unfold okB; simp

/-- all elements are from lo to hi -/
def allB (lo hi : Int) (xs : List Int) : Bool := xs.all (okB lo hi)
theorem allB_mem {lo hi : Int} {xs : List Int} (h : allB lo hi xs = true) : ∀ x ∈ xs, lo ≤ x ∧ x ≤ hi := fun x hx => okB_iff.1 (List.all_eq_true.1 h x hx)
theorem allB_get {lo hi : Int} {xs : List Int} (h : allB lo hi xs = true) {j : Nat} {x : Int} (hj : j < xs.length) (hx : xs.getD j 0 = x) : lo ≤ x ∧ x ≤ hi := by
  rw [getD_in hj] at hx
  exact allB_mem h x (by rw [← hx]; exact List.getElem_mem hj)
theorem allB_snoc {lo hi : Int} {xs : List Int} {x : Int} : allB lo hi (xs ++ [x]) = (allB lo hi xs && okB lo hi x) := by unfold allB; simp
theorem allB_no {lo hi : Int} {xs : List Int} {k : Nat} {x : Int} (hk : k < xs.length) (hx : xs.getD k 0 = x) (h : okB lo hi x = false) : allB lo hi xs = false := by
  cases ha : allB lo hi xs with
  | false => rfl
  | true =>
    have := allB_get ha hk hx
    rw [okB_iff.2 this] at h
    cases h

theorem ret_bool {a b : Bool} (h : a = b) : Ending.returned (.bool a) = .returned (.bool b) := by rw [h]
theorem ret_int {k : IntKind} {a b : Int} (h : a = b) : Ending.returned (.int k a) = .returned (.int k b) := by rw [h]

theorem within_any (n lo hi : Int) (w : World) : Calls Try.prog 70 #[.int .i64 n, .int .i64 lo, .int .i64 hi] w fun e w' => e = .returned (.bool (okB lo hi n)) ∧ w = w' := by
  by_cases h1 : lo ≤ n
  · by_cases h2 : n ≤ hi
    · have hh := Lib.hid (okB_mk h1 h2)
      go_enter Try.func70, Try.ntmps70
      go_wp2
      go_ret
      exact ⟨ret_bool hh.out.symm, rfl⟩
    · have hh := Lib.hid (okB_hi (lo := lo) h2)
      have hd : decide (n ≤ hi) = false := by simpa using h2
      go_enter Try.func70, Try.ntmps70
      go_wp2
      go_ret
      exact ⟨ret_bool hh.out.symm, rfl⟩
  · have hh := Lib.hid (okB_lo (hi := hi) h1)
    have hd : decide (lo ≤ n) = false := by simpa using h1
    go_enter Try.func70, Try.ntmps70
    go_wp2
    go_ret
    exact ⟨ret_bool hh.out.symm, rfl⟩

set_option maxHeartbeats 400000 in
theorem allWithin_any (A : Option Addr) (n c : Nat) (xs : List Int) (lo hi : Int) (w : World) (h : Sl .i64 w A n c xs) :
    Calls Try.prog 95 #[.slice A n c, .int .i64 lo, .int .i64 hi] w fun e w' => e = .returned (.bool (allB lo hi xs)) ∧ w = w' := by
  have hl := Lib.hid h.len
  have hcap := h.cap
  have htop := h.top
  go_enter Try.func95, Try.ntmps95
  go_wp2
  go_loop [11] (fun iv => ∃ k : Nat, k ≤ n ∧ iv = .int .i64 k ∧ Hid (allB lo hi (xs.take k) = true)) (fun iv => n - (intOf iv).toNat)
  case atStart => exact ⟨0, Nat.zero_le _, rfl, rfl⟩
  case round =>
    obtain ⟨k, hk, rfl, ha⟩ := hrel
    rcases Nat.lt_or_ge k n with hlt | hge
    · obtain ⟨ad, x, rfl, hc, hx⟩ := h.at_ hlt
      cases hb : okB lo hi x with
      | true =>
        have hb' := Lib.hid hb
        go_wp2_with (go_at_call 70; refine (within_any _ _ _ _).mono ?_; rintro e w' ⟨rfl, rfl⟩)
        go_round
        case rel => exact ⟨k + 1, by omega, by go_num, show _ = _ by rw [take_snocD (by rw [hl.out]; exact hlt) hx.out, allB_snoc, ha.out, hb'.out]; rfl⟩
        case measure => simp [intOf]; omega
      | false =>
        have hb' := Lib.hid hb
        go_wp2_with (go_at_call 70; refine (within_any _ _ _ _).mono ?_; rintro e w' ⟨rfl, rfl⟩)
        go_ret
        exact ⟨ret_bool (allB_no (by rw [hl.out]; exact hlt) hx.out hb'.out).symm, rfl⟩
    · have hkn : k = n := by omega
      subst hkn
      go_wp2
      go_ret
      exact ⟨ret_bool (by rw [← ha.out, List.take_of_length_le (by rw [hl.out]; exact Nat.le_refl _)]), rfl⟩

/-- the error of a list whose elements have to be from lo to hi -/
def chk (lo hi : Int) (xs : List Int) : Int := if 200000 < xs.length then 5 else if allB lo hi xs then 0 else 2
theorem chk_cases (lo hi : Int) (xs : List Int) : (200000 < xs.length ∧ chk lo hi xs = 5) ∨ (xs.length ≤ 200000 ∧ allB lo hi xs = true ∧ chk lo hi xs = 0) ∨ (xs.length ≤ 200000 ∧ allB lo hi xs = false ∧ chk lo hi xs = 2) := by
  unfold chk
  by_cases h : 200000 < xs.length
  · exact .inl ⟨h, if_pos h⟩
  · rw [if_neg h]
    cases ha : allB lo hi xs with
    | true => exact .inr (.inl ⟨by omega, rfl, rfl⟩)
    | false => exact .inr (.inr ⟨by omega, rfl, rfl⟩)

theorem checkList_any (A : Option Addr) (n c : Nat) (xs : List Int) (lo hi : Int) (w : World) (h : Sl .i64 w A n c xs) :
    Calls Try.prog 85 #[.slice A n c, .int .i64 lo, .int .i64 hi] w fun e w' => e = .returned (.int .i64 (chk lo hi xs)) ∧ w = w' := by
  have hl := Lib.hid h.len
  have hcap := h.cap
  have htop := h.top
  rcases chk_cases lo hi xs with ⟨h1, h2⟩ | ⟨h1, ha, h2⟩ | ⟨h1, ha, h2⟩
  all_goals
    rw [hl.out] at h1
    have h2 := Lib.hid h2
    go_enter Try.func85, Try.ntmps85
    go_wp2_with (go_at_call 95; refine (allWithin_any _ _ _ _ _ _ _ h).mono ?_; rintro e w' ⟨rfl, rfl⟩)
    go_ret
    exact ⟨ret_int h2.out.symm, rfl⟩

theorem checkValues_any (A : Option Addr) (n c : Nat) (xs : List Int) (w : World) (h : Sl .i64 w A n c xs) :
    Calls Try.prog 80 #[.slice A n c] w fun e w' => e = .returned (.int .i64 (chk (-2147483647) 2147483647 xs)) ∧ w = w' := by
  go_enter Try.func80, Try.ntmps80
  go_wp2_with (go_at_call 85; refine (checkList_any _ _ _ _ _ _ _ h).mono ?_; rintro e w' ⟨rfl, rfl⟩)
  go_ret
  exact ⟨rfl, rfl⟩
theorem checkSamples_any (A : Option Addr) (n c : Nat) (xs : List Int) (w : World) (h : Sl .i64 w A n c xs) :
    Calls Try.prog 89 #[.slice A n c] w fun e w' => e = .returned (.int .i64 (chk (-32768) 32767 xs)) ∧ w = w' := by
  go_enter Try.func89, Try.ntmps89
  go_wp2_with (go_at_call 85; refine (checkList_any _ _ _ _ _ _ _ h).mono ?_; rintro e w' ⟨rfl, rfl⟩)
  go_ret
  exact ⟨rfl, rfl⟩

/-- division with rounding -/
def rnd (a b : Int) : Int := if a < 0 then -((2 * -a + b) / (2 * b)) else (2 * a + b) / (2 * b)
theorem rnd_neg {a b : Int} (h : a < 0) : rnd a b = -((2 * -a + b) / (2 * b)) := if_pos h
theorem rnd_pos {a b : Int} (h : 0 ≤ a) : rnd a b = (2 * a + b) / (2 * b) := if_neg (by omega)

theorem rnd_bd {a b : Int} (ha : 0 ≤ a) (hb : 1 ≤ b) : 0 ≤ rnd a b ∧ rnd a b ≤ a := by
  rw [rnd_pos ha]
  refine ⟨Int.ediv_nonneg (by omega) (by omega), ?_⟩
  have h1 : a * 1 ≤ a * b := Int.mul_le_mul_of_nonneg_left hb ha
  have h2 : (2 * a + b) / (2 * b) < a + 1 := Int.ediv_lt_of_lt_mul (by omega) (by
    rw [Int.add_mul, Int.mul_left_comm a 2 b]; omega)
  omega
theorem rnd_opp {a b : Int} (h : a < 0) : rnd a b = -rnd (-a) b := by rw [rnd_neg h, rnd_pos (by omega)]
theorem rnd_abs {a b m : Int} (hb : 1 ≤ b) (h1 : -m ≤ a) (h2 : a ≤ m) : -m ≤ rnd a b ∧ rnd a b ≤ m := by
  by_cases h : 0 ≤ a
  · have := rnd_bd h hb; omega
  · have := rnd_bd (a := -a) (by omega) hb
    rw [rnd_opp (by omega)]; omega

theorem divide_pos (a b : Int) (w : World) (ha : 0 ≤ a) (ha2 : a ≤ 4000000000000000000) (hb : 1 ≤ b) (hb2 : b ≤ 1000000000000000000) :
    Calls Try.prog 77 #[.int .i64 a, .int .i64 b] w fun e w' => e = .returned (.int .i64 (rnd a b)) ∧ w = w' := by
  have hh := Lib.hid (rnd_pos (b := b) ha)
  have hd : decide (a < 0) = false := by simpa using ha
  go_enter Try.func77, Try.ntmps77
  go_wp2
  go_ret
  exact ⟨ret_int hh.out.symm, rfl⟩
theorem divide_any (a b : Int) (w : World) (ha : -4000000000000000000 ≤ a) (ha2 : a ≤ 4000000000000000000) (hb : 1 ≤ b) (hb2 : b ≤ 1000000000000000000) :
    Calls Try.prog 77 #[.int .i64 a, .int .i64 b] w fun e w' => e = .returned (.int .i64 (rnd a b)) ∧ w = w' := by
  by_cases h0 : 0 ≤ a
  · exact divide_pos a b w h0 ha2 hb hb2
  · have hn : a < 0 := by omega
    have hh := Lib.hid (rnd_opp (b := b) hn)
    have hbd := Lib.hid (rnd_bd (a := -a) (by omega) hb)
    go_enter Try.func77, Try.ntmps77
    go_wp2_with fail
    refine (divide_pos _ _ _ (by omega) (by omega) hb hb2).mono ?_
    rintro e w' ⟨rfl, rfl⟩
    have hq1 := hbd.out.1
    have hq2 := hbd.out.2
    go_wp2
    go_ret
    exact ⟨ret_int hh.out.symm, rfl⟩
end Go.Proofs.Ytobobbhifajhmaa
