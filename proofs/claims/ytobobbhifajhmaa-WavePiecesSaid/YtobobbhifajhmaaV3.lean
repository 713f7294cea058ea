/- Windows, and frames weighed with them. -/
import Derived.Test.YtobobbhifajhmaaV2
import Derived.Laws.EntriesVeiled
namespace Go.Proofs.Ytobobbhifajhmaa
open Go.RowKit

def wTri (d e : Int) : Int := rnd (4096 * (e - max d (-d))) e
def wWel (d e : Int) : Int := rnd (4096 * (e * e - d * d)) (e * e)

theorem flat_any (d e : Int) (w : World) : Calls Try.prog 97 #[.int .i64 d, .int .i64 e] w fun e' w' => e' = .returned (.int .i64 4096) ∧ w = w' := by
  go_enter Try.func97, Try.ntmps97
  go_wp2
  go_ret
  exact ⟨rfl, rfl⟩
theorem triangle_any (d e : Int) (w : World) (he : 1 ≤ e) (he2 : e ≤ 5000) (h1 : -e ≤ d) (h2 : d ≤ e) : Calls Try.prog 98 #[.int .i64 d, .int .i64 e] w fun e' w' => e' = .returned (.int .i64 (wTri d e)) ∧ w = w' := by
  go_enter Try.func98, Try.ntmps98
  go_wp2_with (go_at_call 77; refine (divide_any _ _ _ (by omega) (by omega) (by omega) (by omega)).mono ?_; rintro e' w' ⟨rfl, rfl⟩)
  all_goals
    go_ret
    refine ⟨?_, rfl⟩
    first
      | (refine ret_int (a := rnd (4096 * (e - d)) e) (b := wTri d e) ?_; unfold wTri; rw [show max d (-d) = d by omega])
      | (refine ret_int (a := rnd (4096 * (e + d)) e) (b := wTri d e) ?_; unfold wTri; rw [show e - max d (-d) = e + d by omega])
theorem welch_any (d e : Int) (w : World) (he : 1 ≤ e) (he2 : e ≤ 5000) (h1 : -e ≤ d) (h2 : d ≤ e) : Calls Try.prog 99 #[.int .i64 d, .int .i64 e] w fun e' w' => e' = .returned (.int .i64 (wWel d e)) ∧ w = w' := by
  have hd := sq_bd (m := 5000) (x := d) (by omega) (by omega)
  have hd1 := hd.1
  have hd2 := hd.2
  have hee : 1 * 1 ≤ e * e := Int.mul_le_mul he he (by omega) (by omega)
  have hee2 := (sq_bd (m := 5000) (x := e) (by omega) (by omega)).2
  have hde := (sq_bd (m := e) (x := d) h1 h2).2
  clear hd
  go_enter Try.func99, Try.ntmps99
  go_wp2_with (go_at_call 77; refine (divide_any _ _ _ (by omega) (by omega) (by omega) (by omega)).mono ?_; rintro e' w' ⟨rfl, rfl⟩)
  go_ret
  exact ⟨rfl, rfl⟩

/-- the function of a kind of window -/
def wFn (kind d e : Int) : Int := if kind = 1 then 4096 else if kind = 2 then wTri d e else wWel d e
theorem wFn1 (d e : Int) : wFn 1 d e = 4096 := rfl
theorem wFn2 (d e : Int) : wFn 2 d e = wTri d e := rfl
theorem wFn3 (d e : Int) : wFn 3 d e = wWel d e := rfl
/-- weight i of the window of n elements -/
def wAt (kind : Int) (n : Int) (i : Nat) : Int := wFn kind (2 * (i : Int) - (n - 1)) (n + 1)

set_option maxHeartbeats 800000 in
theorem weights1_any (n : Nat) (w : World) (hn : 1 ≤ n) (hn2 : n ≤ 4096) :
    Calls Try.prog 84 #[.agg #[.int .i64 1, .func (.func 97) #[] #[]], .int .i64 (n : Int)] w (RetL .i64 w (tab n (wAt 1 n))) := by
  have hmk := make_int n (by omega)
  go_enter Try.func84, Try.ntmps84
  go_wp2
  clear hmk
  go_loopw [11] (fun iv wr => ∃ k : Nat, iv = .int .i64 k ∧ k ≤ n ∧ Fill w wr (w.heap.size + 1) 3 n k (wAt 1 n) ∧ Blk wr w.heap.size 114 #[.int .i64 1, .func (.func 97) #[] #[]]) (fun iv _ => n - (intOf iv).toNat)
  case atStart => exact ⟨0, rfl, Nat.zero_le _, Fill.start ((Below.refl _ _).alloc (Nat.le_refl _) _) (by simp), (Blk.new _ _ _).alloc _⟩
  case round =>
    obtain ⟨k, rfl, hkn, hF, hB⟩ := hrel
    rcases Nat.lt_or_ge k n with hlt | hge
    · obtain ⟨y, hcy⟩ := hF.cell hlt
      have hcf := hF.frozen k
      have hc1 := hB.cell 1
      have hv := Lib.hid (show wFn 1 (2 * (k : Int) - ((n : Int) - 1)) ((n : Int) + 1) = wAt 1 n k from rfl)
      go_wp2_with (go_at_call 97; refine (flat_any _ _ _).mono ?_; rintro e' w' ⟨rfl, rfl⟩)
      go_roundw
      case rel => exact ⟨k + 1, by go_num, hlt, hF.next hlt hv.out, hB.far (by simp) _⟩
      case measure => simp [intOf]; omega
    · have hkn' : k = n := by omega
      subst hkn'
      have hD := hF.done (by omega)
      go_wp2
      go_ret
      exact ⟨_, _, _, rfl, hD, hF.bel, fresh_at hF.new⟩

set_option maxHeartbeats 800000 in
theorem weights2_any (n : Nat) (w : World) (hn : 1 ≤ n) (hn2 : n ≤ 4096) :
    Calls Try.prog 84 #[.agg #[.int .i64 2, .func (.func 98) #[] #[]], .int .i64 (n : Int)] w (RetL .i64 w (tab n (wAt 2 n))) := by
  have hmk := make_int n (by omega)
  go_enter Try.func84, Try.ntmps84
  go_wp2
  clear hmk
  go_loopw [11] (fun iv wr => ∃ k : Nat, iv = .int .i64 k ∧ k ≤ n ∧ Fill w wr (w.heap.size + 1) 3 n k (wAt 2 n) ∧ Blk wr w.heap.size 114 #[.int .i64 2, .func (.func 98) #[] #[]]) (fun iv _ => n - (intOf iv).toNat)
  case atStart => exact ⟨0, rfl, Nat.zero_le _, Fill.start ((Below.refl _ _).alloc (Nat.le_refl _) _) (by simp), (Blk.new _ _ _).alloc _⟩
  case round =>
    obtain ⟨k, rfl, hkn, hF, hB⟩ := hrel
    rcases Nat.lt_or_ge k n with hlt | hge
    · obtain ⟨y, hcy⟩ := hF.cell hlt
      have hcf := hF.frozen k
      have hc1 := hB.cell 1
      have hv := Lib.hid (show wFn 2 (2 * (k : Int) - ((n : Int) - 1)) ((n : Int) + 1) = wAt 2 n k from rfl)
      go_wp2_with (go_at_call 98; refine (triangle_any _ _ _ (by omega) (by omega) (by omega) (by omega)).mono ?_; rintro e' w' ⟨rfl, rfl⟩)
      go_roundw
      case rel => exact ⟨k + 1, by go_num, hlt, hF.next hlt hv.out, hB.far (by simp) _⟩
      case measure => simp [intOf]; omega
    · have hkn' : k = n := by omega
      subst hkn'
      have hD := hF.done (by omega)
      go_wp2
      go_ret
      exact ⟨_, _, _, rfl, hD, hF.bel, fresh_at hF.new⟩

set_option maxHeartbeats 800000 in
theorem weights3_any (n : Nat) (w : World) (hn : 1 ≤ n) (hn2 : n ≤ 4096) :
    Calls Try.prog 84 #[.agg #[.int .i64 3, .func (.func 99) #[] #[]], .int .i64 (n : Int)] w (RetL .i64 w (tab n (wAt 3 n))) := by
  have hmk := make_int n (by omega)
  go_enter Try.func84, Try.ntmps84
  go_wp2
  clear hmk
  go_loopw [11] (fun iv wr => ∃ k : Nat, iv = .int .i64 k ∧ k ≤ n ∧ Fill w wr (w.heap.size + 1) 3 n k (wAt 3 n) ∧ Blk wr w.heap.size 114 #[.int .i64 3, .func (.func 99) #[] #[]]) (fun iv _ => n - (intOf iv).toNat)
  case atStart => exact ⟨0, rfl, Nat.zero_le _, Fill.start ((Below.refl _ _).alloc (Nat.le_refl _) _) (by simp), (Blk.new _ _ _).alloc _⟩
  case round =>
    obtain ⟨k, rfl, hkn, hF, hB⟩ := hrel
    rcases Nat.lt_or_ge k n with hlt | hge
    · obtain ⟨y, hcy⟩ := hF.cell hlt
      have hcf := hF.frozen k
      have hc1 := hB.cell 1
      have hv := Lib.hid (show wFn 3 (2 * (k : Int) - ((n : Int) - 1)) ((n : Int) + 1) = wAt 3 n k from rfl)
      go_wp2_with (go_at_call 99; refine (welch_any _ _ _ (by omega) (by omega) (by omega) (by omega)).mono ?_; rintro e' w' ⟨rfl, rfl⟩)
      go_roundw
      case rel => exact ⟨k + 1, by go_num, hlt, hF.next hlt hv.out, hB.far (by simp) _⟩
      case measure => simp [intOf]; omega
    · have hkn' : k = n := by omega
      subst hkn'
      have hD := hF.done (by omega)
      go_wp2
      go_ret
      exact ⟨_, _, _, rfl, hD, hF.bel, fresh_at hF.new⟩

end Go.Proofs.Ytobobbhifajhmaa
