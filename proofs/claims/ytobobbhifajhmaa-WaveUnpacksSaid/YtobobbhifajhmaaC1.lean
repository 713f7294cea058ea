/- A copy of a list. -/
import Derived.Test.YtobobbhifajhmaaC0
namespace Go.Proofs.Ytobobbhifajhmaa
open Go.RowKit

theorem Clone_any (A : Option Addr) (n c : Nat) (xs : List Int) (w : World) (h : Sl .i64 w A n c xs) (hn : n ≤ 2000000) :
    Calls Try.prog 92 #[.slice A n c] w fun e w' => ∃ A2 c2, e = .returned (.slice A2 n c2) ∧ Sl .i64 w' A2 n c2 xs ∧ Below w.heap.size w w' ∧ ∀ ad, A2 = some ad → w.heap.size ≤ ad.block := by
  obtain ⟨i0, hi, hz0, hz1, hz2⟩ := info_parts info_int
  cases A with
  | none =>
    have hz : n = 0 := by
      rcases Nat.eq_zero_or_pos n with h0 | h0
      · exact h0
      · obtain ⟨ad, e, _⟩ := h.cell h0
        cases e
    subst hz
    have hl := List.eq_nil_of_length_eq_zero h.len
    subst hl
    have hnil := fun w => Lib.run_eql_slice_nil (P := Try.prog) w 22 3 none 0 c 0 0 Try.underlying22
    go_enter Try.func92, Try.ntmps92
    go_wp2
    go_ret
    exact ⟨none, 0, rfl, Sl.nil _ _, Below.refl _ _, fun ad e => by cases e⟩
  | some ad =>
    have hnil := fun w => Lib.run_eql_slice_nil (P := Try.prog) w 22 3 (some ad) n c 0 0 Try.underlying22
    have h1 := h.alloc (.cells #[] 3)
    have hnews := Lib.hid h1.news
    have hl1 := Lib.hid h.len
    go_enter Try.func92, Try.ntmps92
    go_wp2_with (at_builtin; refine wpList_append_own _ rfl _ _ 22 rfl w.heap.size 3 i0 (.int .i64 0) 1 8 Try.underlying22 hi hz0 hz1 hz2 rfl (by decide) _ 0 [] rfl (World.ownsRow_lit w #[] 0 (Nat.le_refl _) (by decide) rfl) ad n c (ivs .i64 xs) rfl ?c1 hnews.out (oneCell_ivs _ _) ?c3 ?c4 ?c5 ?_)
    case c1 => rw [ivs_len, hl1.out]; simp
    case c3 => unfold maxLen; omega
    case c4 => omega
    case c5 => simp
    intro v1 w1 hown hg _
    have hb := ((Below.refl w.heap.size w).alloc (Nat.le_refl _) (.cells #[] 3)).grown hg (by simp) (fun k hk => by simp [Value.ownBlock] at hk; omega)
    have hown2 : w1.ownsRow w.heap.size 3 1 v1 n (ivs .i64 xs) := by simpa using hown
    have hfr := Lib.hid (fun k (hk : v1.ownBlock = some k) => (hown2.lt k hk).1)
    obtain ⟨A2, c2, rfl, hS2⟩ := Sl.of_own hown2
    go_wp2
    go_ret
    exact ⟨A2, c2, rfl, hS2, hb, fun ad e => by subst e; exact hfr.out _ rfl⟩
end Go.Proofs.Ytobobbhifajhmaa
