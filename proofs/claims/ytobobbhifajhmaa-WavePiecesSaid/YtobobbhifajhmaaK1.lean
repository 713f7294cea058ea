/- Equality of lists of segments. -/
import Derived.Test.YtobobbhifajhmaaK0
import Derived.Laws.StructEq
namespace Go.Proofs.Ytobobbhifajhmaa
open Go.RowKit

/-- the slice value reads as the segments ps -/
structure Sg (w : World) (A : Option Addr) (n c : Nat) (ps : List (Int × Int)) : Prop where
  len : ps.length = n
  cap : n ≤ c
  top : c ≤ 9223372036854775807
  cell : 0 < n → ∃ g, A = some ⟨g, 0, none⟩ ∧ ∀ (j : Nat) (p : Int × Int), ps[j]? = some p → w.cell? ⟨g, j * 2, none⟩ = some (.int .i64 p.1) ∧ w.cell? ⟨g, j * 2 + 1, none⟩ = some (.int .i64 p.2)
theorem Sg.nil (w : World) : Sg w none 0 0 [] := ⟨rfl, Nat.le_refl _, by decide, fun h => absurd h (by omega)⟩
theorem Sg.drewN {w : World} {A : Option Addr} {n c : Nat} {ps : List (Int × Int)} (h : Sg w A n c ps) (i : Nat) : Sg (w.drewN i) A n c ps := ⟨h.len, h.cap, h.top, h.cell⟩
theorem Sg.at_ {w : World} {A : Option Addr} {n c : Nat} {ps : List (Int × Int)} (h : Sg w A n c ps) {j : Nat} (hj : j < n) : ∃ g a b, A = some ⟨g, 0, none⟩ ∧ w.cell? ⟨g, j * 2, none⟩ = some (.int .i64 a) ∧ w.cell? ⟨g, j * 2 + 1, none⟩ = some (.int .i64 b) ∧ Hid (ps[j]? = some (a, b)) := by
  obtain ⟨g, e, hc⟩ := h.cell (by omega)
  have hl : j < ps.length := by rw [h.len]; exact hj
  have := hc j _ (List.getElem?_eq_getElem hl)
  exact ⟨g, ps[j].1, ps[j].2, e, this.1, this.2, List.getElem?_eq_getElem hl⟩
theorem Sg.keep {w w' : World} {A : Option Addr} {n c : Nat} {ps : List (Int × Int)} (h : Sg w A n c ps) (hk : ∀ p : Addr, p.block < w.heap.size → w'.cell? p = w.cell? p) : Sg w' A n c ps :=
  ⟨h.len, h.cap, h.top, fun hn => by
    obtain ⟨g, e, hc⟩ := h.cell hn
    exact ⟨g, e, fun j p hx => by
      have := hc j p hx
      rw [hk _ (World.block_lt_of_cell? _ _ this.1), hk _ (World.block_lt_of_cell? _ _ this.2)]; exact this⟩⟩
theorem Sg.below {w w' : World} {A : Option Addr} {n c : Nat} {ps : List (Int × Int)} (h : Sg w A n c ps) (hb : Below w.heap.size w w') : Sg w' A n c ps := h.keep fun _ hp => hb.cell hp
theorem Sg.alloc {w : World} {A : Option Addr} {n c : Nat} {ps : List (Int × Int)} (h : Sg w A n c ps) (o : Obj) : Sg (w.alloc o) A n c ps := h.keep fun p hp => World.cell?_alloc_lt w o p hp
theorem sgv_at (ps : List (Int × Int)) : ∀ (j : Nat) (p : Int × Int), ps[j]? = some p → (sgv ps)[j * 2]? = some (.int .i64 p.1) ∧ (sgv ps)[j * 2 + 1]? = some (.int .i64 p.2) := by
  induction ps with
  | nil => intro j p h; simp at h
  | cons q ps ih =>
    intro j p h
    have e : sgv (q :: ps) = .int .i64 q.1 :: .int .i64 q.2 :: sgv ps := by simp [sgv]
    rw [e]
    cases j with
    | zero =>
      simp at h
      subst h
      exact ⟨rfl, rfl⟩
    | succ j =>
      rw [List.getElem?_cons_succ] at h
      have := ih j p h
      rw [show (j + 1) * 2 = (j * 2 + 1) + 1 by omega, show (j * 2 + 1) + 1 + 1 = ((j * 2 + 1) + 1) + 1 by omega]
      simp only [List.getElem?_cons_succ]
      exact this
theorem Sg.of_own {w : World} {base : Nat} {v : Value} {n : Nat} {ps : List (Int × Int)} (h : w.ownsRow base 84 2 v n (sgv ps)) : ∃ A c, v = .slice A n c ∧ Sg w A n c ps := by
  have hl := h.1
  rw [sgv_len] at hl
  have hn : ps.length = n := by omega
  rcases h.2 with ⟨rfl, rfl⟩ | ⟨g, cap, cur, rfl, h3, h4, h5, h6, h7, h8⟩
  · obtain rfl : ps = [] := List.eq_nil_of_length_eq_zero hn
    exact ⟨none, 0, rfl, Sg.nil w⟩
  · refine ⟨some ⟨g, 0, none⟩, cap, rfl, hn, h5, by simpa [maxLen] using h6, fun hp => ⟨g, rfl, fun j p hx => ?_⟩⟩
    have hj := lt_of_some hx
    have h9 := sgv_at ps j p hx
    rw [h.cellAt (j * 2) (by omega), h.cellAt (j * 2 + 1) (by omega)]
    exact h9

def sameP (ps qs : List (Int × Int)) : Bool := decide (ps = qs)
theorem sameP_yes {ps qs : List (Int × Int)} (h : ps = qs) : sameP ps qs = true := decide_eq_true h
theorem sameP_no {ps qs : List (Int × Int)} (h : ps ≠ qs) : sameP ps qs = false := decide_eq_false h
theorem takeP_snoc {ps : List (Int × Int)} {k : Nat} {p : Int × Int} (h : ps[k]? = some p) : ps.take (k + 1) = ps.take k ++ [p] := by
  have hl := lt_of_some h
  rw [take_snoc hl]
  rw [List.getElem?_eq_getElem hl] at h
  injection h with h
  rw [h]

set_option maxHeartbeats 1600000 in
theorem SameSegments_any (A A' : Option Addr) (n c n' c' : Nat) (xs ys : List (Int × Int)) (w : World) (h : Sg w A n c xs) (h' : Sg w A' n' c' ys) :
    Calls Try.prog 54 #[.slice A n c, .slice A' n' c'] w fun e w' => ∃ k, e = .returned (.bool (sameP xs ys)) ∧ w' = w.drewN k := by
  have hl := Lib.hid h.len
  have hl' := Lib.hid h'.len
  have hcap := h.cap
  have htop := h.top
  have hcap' := h'.cap
  by_cases hn : n = n'
  · subst hn
    go_enter Try.func54, Try.ntmps54
    go_wp2
    go_loopw [5] (fun iv wr => ∃ k r : Nat, iv = .int .i64 k ∧ k ≤ n ∧ Hid (xs.take k = ys.take k) ∧ wr = w.drewN r) (fun iv _ => n - (intOf iv).toNat)
    case atStart => exact ⟨0, 0, rfl, Nat.zero_le _, rfl, rfl⟩
    case round =>
      obtain ⟨k, r, rfl, hk, he, rfl⟩ := hrel
      have hr := h.drewN r
      have hr' := h'.drewN r
      generalize hw : w.drewN r = w1 at *
      have hw' := Lib.hid hw
      clear hw
      rcases Nat.lt_or_ge k n with hlt | hge
      · obtain ⟨g, a, b, rfl, hc, hd, hx⟩ := hr.at_ hlt
        obtain ⟨g', a', b', rfl, hc', hd', hy⟩ := hr'.at_ hlt
        have i1 : (k : Int) < (n : Int) := by omega
        by_cases hxy : a = a' ∧ b = b'
        · obtain ⟨rfl, rfl⟩ := hxy
          have hs := Lib.hid (show xs.take (k + 1) = ys.take (k + 1) by rw [takeP_snoc hx.out, takeP_snoc hy.out, he.out])
          go_wp2
          go_quiet (fail)
          go_wp2
          go_roundw
          case rel => exact ⟨k + 1, r + nq, by go_num, hlt, hs.out, by rw [← hw'.out]; exact dr_add w r nq⟩
          case measure => simp [intOf]; omega
        · have hs := Lib.hid (sameP_no (ps := xs) (qs := ys) (fun e => hxy (by have h1 := hx.out; rw [e, hy.out] at h1; injection h1 with h1; injection h1 with h1 h2; exact ⟨h1.symm, h2.symm⟩)))
          rcases (show a ≠ a' ∨ (a = a' ∧ b ≠ b') by omega) with hne | ⟨rfl, hne⟩
          · have hb : (a == a') = false := by simpa using hne
            clear hxy
            go_wp2
            go_quiet (fail)
            go_wp2
            go_ret
            exact ⟨r + nq, ret_bool hs.out.symm, by rw [← hw'.out]; exact dr_add w r nq⟩
          · have hb : (b == b') = false := by simpa using hne
            clear hxy
            go_wp2
            go_quiet (fail)
            go_wp2
            go_ret
            exact ⟨r + nq, ret_bool hs.out.symm, by rw [← hw'.out]; exact dr_add w r nq⟩
      · have hkn : k = n := by omega
        subst hkn
        have hs := Lib.hid (sameP_yes (ps := xs) (qs := ys) (by have := he.out; rw [List.take_of_length_le (by rw [hl.out]; exact Nat.le_refl _), List.take_of_length_le (by rw [hl'.out]; exact Nat.le_refl _)] at this; exact this))
        go_wp2
        go_ret
        exact ⟨r, ret_bool hs.out.symm, hw'.out.symm⟩
  · have hs := Lib.hid (sameP_no (ps := xs) (qs := ys) (fun e => hn (by rw [← hl.out, ← hl'.out, e])))
    have hb : ((n : Int) != (n' : Int)) = true := by simp; omega
    have hb2 : decide (n = n') = false := by simpa using hn
    go_enter Try.func54, Try.ntmps54
    go_wp2
    go_ret
    exact ⟨0, ret_bool hs.out.symm, rfl⟩
end Go.Proofs.Ytobobbhifajhmaa
