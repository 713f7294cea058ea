/- The frames of a list: how many there are; the function that goes through them. -/
import Derived.Test.YtobobbhifajhmaaP0
import Derived.Test.YtobobbhifajhmaaV2
import Derived.Test.YtobobbhifajhmaaL4
import Derived.Laws.CopyOwn
import Derived.Shelf.Abstract
import Derived.Shelf.RegionOpen
import Derived.WalkKit
import Derived.OwnWalkIn
import Derived.TacticsInMore
import Derived.LoopNIn
import Derived.LoopIn
namespace Go.Proofs.Ytobobbhifajhmaa
open Go.RowKit Go.Shelf
attribute [local go_sem] Oper.semAt_some

theorem wpListIn_copy {F : Fence} {n : Nat} {P : Program} {w : World} {ops : Array Oper} {rest : List Oper} {o : Oper} {a : Act} {Q : Exit → Act → World → Prop} (hgd : o.guard = none) (d s : Operand) (dT sT : TypeId)
    (ho : o.op = .call { callee := .builtin .copy, args := #[d, s], argTypes := #[dT, sT] }) (elem : TypeId) (hu : P.underlying dT = some (.slice elem)) (hsz : (P.info? elem).map (·.size) = some 1)
    (g off dLen dCap : Nat) (ad : Addr) (sLen sCap : Nat) (hd : a.eval d = .slice (some ⟨g, off, none⟩) dLen dCap) (hs : a.eval s = .slice (some ad) sLen sCap)
    (cur : Array Value) (t : TypeId) (hg : w.heap[g]? = some (.cells cur t (0, 0))) (cs : List Value) (hn : cs.length = Nat.min sLen dLen)
    (hsrc : ∀ j v, cs[j]? = some v → w.cell? (ad.add j) = some v) (hfit : off + cs.length ≤ cur.size) (h1 : ∀ v ∈ cs, v.oneCell' = true)
    (h : wpListIn F n P ops Q rest (a.put o.dst (goInt cs.length)) (w.setRow g (cur.toList.take off ++ (cs ++ cur.toList.drop (off + cs.length))).toArray)) : wpListIn F n P ops Q (o :: rest) a w := by
  refine wpListIn_plain hgd fun K hK => ?_
  have hrun := run_copy_row (P := P) w dT sT o.type elem g off dLen dCap ad sLen sCap cur t cs hu hsz hg hn hsrc hfit h1
  unfold Oper.wpIn
  refine ⟨?_, ?_⟩
  · simp [Oper.about, ho, resolve, Target.leads, Sem.run_pure]
  · rw [Oper.semAt_plain F _ _ (by rw [ho]; intro c hc'; cases hc')]
    simp [execOp, ho, resolve, invoke, builtin, hd, hs, hrun, Result.andThen]
    exact hK _ _ h

/-- how many frames n elements have -/
def fcount (n s p : Nat) (pad : Bool) : Nat := if pad then (n + p - 1) / p else if n < s then 0 else (n - s) / p + 1
theorem fcount_at {n s p : Nat} {pad : Bool} (hs : 1 ≤ s) (hp : 1 ≤ p) {t : Nat} : t < fcount n s p pad ↔ t * p < n ∧ (pad = true ∨ t * p + s ≤ n) := by
  unfold fcount
  cases pad with
  | true =>
    rw [if_pos rfl]
    have e : t < (n + p - 1) / p ↔ t * p < n := by
      rw [Nat.lt_iff_add_one_le, Nat.le_div_iff_mul_le (by omega), Nat.add_mul]; omega
    rw [e]; simp
  | false =>
    simp only [Bool.false_eq_true, if_false, false_or]
    by_cases h : n < s
    · rw [if_pos h]; omega
    · rw [if_neg h, Nat.lt_add_one_iff, Nat.le_div_iff_mul_le (by omega)]; omega
theorem fcount_le {n s p : Nat} {pad : Bool} (hp : 1 ≤ p) (hs : 1 ≤ s) : fcount n s p pad ≤ n := by
  rcases Nat.eq_zero_or_pos (fcount n s p pad) with h | h
  · omega
  · have := (fcount_at (n := n) (s := s) (p := p) (pad := pad) hs hp (t := fcount n s p pad - 1)).1 (by omega)
    have h2 : (fcount n s p pad - 1) * 1 ≤ (fcount n s p pad - 1) * p := Nat.mul_le_mul_left _ hp
    omega

theorem frameCount_any (n s p : Nat) (pad : Bool) (w : World) (hn : n ≤ 200000) (hs : s ≤ 4096) (hp : 1 ≤ p) (hp2 : p ≤ 4096) :
    Calls Try.prog 81 #[.int .i64 (n : Int), .int .i64 (s : Int), .int .i64 (p : Int), .bool pad] w fun e w' => e = .returned (.int .i64 ((fcount n s p pad : Nat) : Int)) ∧ w = w' := by
  cases pad with
  | true =>
    have hv := Lib.hid (show ((n : Int) + (p : Int) - 1) / (p : Int) = ((fcount n s p true : Nat) : Int) by unfold fcount; rw [if_pos rfl, show (n : Int) + (p : Int) - 1 = ((n + p - 1 : Nat) : Int) by omega]; rfl)
    go_enter Try.func81, Try.ntmps81
    go_wp2_with (go_at_call 71; refine (divideUp_any _ _ _ (by omega) (by omega) (by omega) (by omega)).mono ?_; rintro e w' ⟨rfl, rfl⟩)
    go_ret
    exact ⟨ret_int hv.out, rfl⟩
  | false =>
    by_cases h : n < s
    · have hv := Lib.hid (show (0 : Int) = ((fcount n s p false : Nat) : Int) by unfold fcount; rw [if_neg (by decide), if_pos h]; rfl)
      go_enter Try.func81, Try.ntmps81
      go_wp2
      go_ret
      exact ⟨ret_int hv.out, rfl⟩
    · have hq : ((n : Int) - (s : Int)).tdiv (p : Int) = (((n - s) / p : Nat) : Int) := by
        rw [Int.tdiv_eq_ediv_of_nonneg (by omega), show (n : Int) - (s : Int) = ((n - s : Nat) : Int) by omega]
        rfl
      have hq2 : (n - s) / p ≤ 200000 := Nat.le_trans (Nat.div_le_self _ _) (by omega)
      generalize hQ : (n - s) / p = q at *
      have hv := Lib.hid (show (q : Int) + 1 = ((fcount n s p false : Nat) : Int) by unfold fcount; rw [if_neg (by decide), if_neg h, hQ]; rfl)
      clear hQ
      have hns : ¬ (n : Int) < (s : Int) := by omega
      go_enter Try.func81, Try.ntmps81
      go_wp2
      go_ret
      exact ⟨ret_int hv.out, rfl⟩
end Go.Proofs.Ytobobbhifajhmaa
