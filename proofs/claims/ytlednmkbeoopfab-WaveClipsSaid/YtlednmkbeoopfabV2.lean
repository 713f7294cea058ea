/- What restores a list from its emphasis; energies, changes of sign, peaks. -/
import Derived.Test.YtlednmkbeoopfabV1
import Derived.Test.YtlednmkbeoopfabL0
namespace Go.Proofs.Ytlednmkbeoopfab
open Go.RowKit


theorem divideUp_any (a b : Int) (w : World) (ha : 0 ≤ a) (ha2 : a ≤ 4000000000000000000) (hb : 1 ≤ b) (hb2 : b ≤ 1000000000000000000) :
    Calls Try.prog 38 #[.int .i64 a, .int .i64 b] w fun e w' => e = .returned (.int .i64 ((a + b - 1) / b)) ∧ w = w' := by
  go_enter Try.func38, Try.ntmps38
  go_wp2
  go_ret
  exact ⟨rfl, rfl⟩

theorem sq_bd {x m : Int} (h1 : -m ≤ x) (h2 : x ≤ m) : 0 ≤ x * x ∧ x * x ≤ m * m := by
  by_cases h : 0 ≤ x
  · exact ⟨Int.mul_nonneg h h, Int.mul_le_mul h2 h2 h (by omega)⟩
  · have e : x * x = -x * -x := by rw [Int.neg_mul_neg]
    rw [e]
    exact ⟨Int.mul_nonneg (by omega) (by omega), Int.mul_le_mul (by omega) (by omega) (by omega) (by omega)⟩
theorem eng_bd {m : Int} : ∀ xs : List Int, (∀ x ∈ xs, -m ≤ x ∧ x ≤ m) → 0 ≤ eng xs ∧ eng xs ≤ xs.length * (m * m) := by
  intro xs
  induction xs with
  | nil => intro _; simp [eng]
  | cons x xs ih =>
    intro h
    have h1 := ih (fun y hy => h y (List.mem_cons_of_mem _ hy))
    have h2 := sq_bd (h x (List.mem_cons_self)).1 (h x (List.mem_cons_self)).2
    have e : eng (x :: xs) = x * x + eng xs := by simp [eng]
    rw [e, List.length_cons, Int.natCast_succ, Int.add_mul]
    omega

set_option maxHeartbeats 400000 in
theorem energy_any (A : Option Addr) (n c : Nat) (xs : List Int) (w : World) (h : Sl .i64 w A n c xs) (hn : n ≤ 250000) (hx : ∀ x ∈ xs, -70000 ≤ x ∧ x ≤ 70000) :
    Calls Try.prog 47 #[.slice A n c] w fun e w' => e = .returned (.int .i64 (eng xs)) ∧ w = w' := by
  have hl := Lib.hid h.len
  have hcap := h.cap
  have htop := h.top
  have hx := Lib.hid hx
  go_enter Try.func47, Try.ntmps47
  go_wp2
  go_loop [3, 8] (fun sv iv => ∃ k : Nat, k ≤ n ∧ iv = .int .i64 k ∧ sv = .int .i64 (eng (xs.take k))) (fun _ iv => n - (intOf iv).toNat)
  case atStart => exact ⟨0, Nat.zero_le _, rfl, rfl⟩
  case round =>
    obtain ⟨k, hk, rfl, rfl⟩ := hrel
    rcases Nat.lt_or_ge k n with hlt | hge
    · obtain ⟨ad, x, rfl, hc, hxk⟩ := h.at_ hlt
      have hmem := hx.out x (by have := hxk.out; rw [getD_in (by rw [hl.out]; exact hlt)] at this; rw [← this]; exact List.getElem_mem _)
      have hs := sq_bd (m := 70000) hmem.1 hmem.2
      have hs1 := hs.1
      have hs2 := hs.2
      have he := eng_bd (m := 70000) (xs.take k) (fun y hy => hx.out y (List.mem_of_mem_take hy))
      have hlk : (xs.take k).length ≤ 250000 := by rw [List.length_take]; omega
      have he1 := he.1
      have he2 : eng (xs.take k) ≤ 1225000000000000 := by have := he.2; omega
      have hn2 := Lib.hid (show eng (xs.take (k + 1)) = eng (xs.take k) + x * x by rw [take_snocD (by rw [hl.out]; exact hlt) hxk.out, eng_snoc])
      clear hmem hs he
      generalize eng (xs.take k) = E at *
      go_wp2
      go_round
      case rel => exact ⟨k + 1, by omega, by go_num, by rw [hn2.out]⟩
      case measure => simp [intOf]; omega
    · have hkn : k = n := by omega
      subst hkn
      go_wp2
      go_ret
      exact ⟨ret_int (by rw [List.take_of_length_le (by rw [hl.out]; exact Nat.le_refl _)]), rfl⟩
end Go.Proofs.Ytlednmkbeoopfab
