/- Numbers divided by their sum are a distribution. -/
import Derived.Test.YtbgihlfblmilmaaGreatDoorLI
import Derived.Test.YtbgihlfblmilmaaGreatDoorGY
import Derived.Test.YtbgihlfblmilmaaGreatDoorGU
import Derived.Test.YtbgihlfblmilmaaGreatDoorGQ
namespace Go.Proofs.YtbgihlfblmilmaaGreatDoor.Fr
open Go.RowKit Num

theorem AF.lens {w : World} {s : Bool} {A B : Option Addr} {n c m d L : Nat} {q : Rat} (h : AF w (.agg #[.bool s, .slice A n c, .slice B m d]) q L) : n ≤ L ∧ m ≤ L := by
  obtain ⟨_, _, _, _, _, _, _, _, _, he, _, _, h1, h2, _⟩ := h
  injection he with he
  simp only [Array.mk.injEq, List.cons.injEq, and_true, Value.slice.injEq, Value.bool.injEq] at he
  obtain ⟨rfl, ⟨rfl, rfl, rfl⟩, ⟨rfl, rfl, rfl⟩⟩ := he
  exact ⟨h1, h2⟩
theorem Ls.imp {P Q : World → Value → Rat → Nat → Prop} (hPQ : ∀ w v q L, P w v q L → Q w v q L) {w : World} {A : Option Addr} {n c L : Nat} {qs : List Rat} (h : Ls P w A n c L qs) : Ls Q w A n c L qs :=
  ⟨h.len, h.cap, h.top, fun hn => by
    obtain ⟨ad, e, hc⟩ := h.cell hn
    refine ⟨ad, e, fun j x hx => ?_⟩
    obtain ⟨a, b, d, h1, h2, h3, h4⟩ := hc j x hx
    exact ⟨a, b, d, h1, h2, h3, hPQ _ _ _ _ h4⟩⟩
theorem Ls.fqat {w : World} {A : Option Addr} {n c L : Nat} {qs : List Rat} (h : Ls FQ w A n c L qs) {j : Nat} (hj : j < n) :
    ∃ ad s A1 m1 c1 A2 m2 c2 q, A = some ad ∧ qs[j]? = some q ∧ w.cell? (ad.add (j * 3)) = some (.bool s) ∧ w.cell? ⟨(ad.add (j * 3)).block, (ad.add (j * 3)).off + 1, none⟩ = some (.slice A1 m1 c1) ∧ w.cell? ⟨(ad.add (j * 3)).block, (ad.add (j * 3)).off + 2, none⟩ = some (.slice A2 m2 c2) ∧ FQ w (.agg #[.bool s, .slice A1 m1 c1, .slice A2 m2 c2]) q L := by
  obtain ⟨ad, e, hc⟩ := h.cell (by omega)
  have hl : j < qs.length := by rw [h.len]; exact hj
  obtain ⟨a, b, d, h1, h2, h3, h4⟩ := hc j _ (List.getElem?_eq_getElem hl)
  obtain ⟨s, A1, m1, c1, A2, m2, c2, he⟩ := h4.form
  rw [he] at h4
  injection he with he
  simp only [Array.mk.injEq, List.cons.injEq, and_true] at he
  obtain ⟨rfl, rfl, rfl⟩ := he
  exact ⟨ad, s, A1, m1, c1, A2, m2, c2, _, e, List.getElem?_eq_getElem hl, h1, h2, h3, h4⟩
theorem Ls.fle {w : World} {A : Option Addr} {n c L L' : Nat} {qs : List Rat} (h : Ls FQ w A n c L qs) (hl : L ≤ L') : Ls FQ w A n c L' qs :=
  ⟨h.len, h.cap, h.top, fun hn => by
    obtain ⟨ad, e, hc⟩ := h.cell hn
    refine ⟨ad, e, fun j x hx => ?_⟩
    obtain ⟨a, b, d, h1, h2, h3, h4⟩ := hc j x hx
    exact ⟨a, b, d, h1, h2, h3, h4.le hl⟩⟩
theorem foldl_add (qs : List Rat) : ∀ a : Rat, qs.foldl (· + ·) a = a + qs.foldl (· + ·) 0 := by
  induction qs with
  | nil => intro a; show a = a + 0; grind
  | cons q qs ih =>
    intro a
    rw [List.foldl_cons, List.foldl_cons, ih (a + q), ih (0 + q)]
    grind
theorem foldl_scale (qs : List Rat) (r : Rat) : (qs.map fun q => q * r).foldl (· + ·) 0 = qs.foldl (· + ·) 0 * r := by
  induction qs with
  | nil => simp
  | cons q qs ih =>
    rw [List.map_cons, List.foldl_cons, List.foldl_cons, foldl_add _ (0 + q * r), foldl_add _ (0 + q), ih]
    grind
theorem num_neg (q : Rat) : decide (q.num < 0) = decide (q < 0) := decide_eq_decide.2 (by have h := @Rat.num_nonneg q; rw [← Rat.not_le, ← h]; omega)
theorem sum_nonneg {qs : List Rat} (h : ∀ q ∈ qs, 0 ≤ q) : 0 ≤ qs.foldl (· + ·) 0 := by
  induction qs with
  | nil => exact Rat.le_refl
  | cons q qs ih =>
    rw [List.foldl_cons, foldl_add]
    have h1 := h q (List.mem_cons_self ..)
    have h2 := ih (fun x hx => h x (List.mem_cons_of_mem _ hx))
    grind
theorem scaled_dist {qs : List Rat} (h : ngs qs = false) (hz : qs.foldl (· + ·) 0 ≠ 0) :
    (!(ngs (qs.map fun q => q * (qs.foldl (· + ·) 0)⁻¹)) && decide ((qs.map fun q => q * (qs.foldl (· + ·) 0)⁻¹).foldl (· + ·) 0 = 1)) = true := by
  have hp := ngs_false h
  have hs := sum_nonneg hp
  have h1 : (qs.map fun q => q * (qs.foldl (· + ·) 0)⁻¹).foldl (· + ·) 0 = 1 := by
    rw [foldl_scale, Rat.mul_inv_cancel _ hz]
  have h2 : ngs (qs.map fun q => q * (qs.foldl (· + ·) 0)⁻¹) = false := by
    unfold ngs
    rw [List.any_eq_false]
    intro x hx
    obtain ⟨q, hq, rfl⟩ := List.mem_map.1 hx
    rw [num_neg, decide_eq_true_eq]
    have hi : 0 ≤ (qs.foldl (· + ·) 0)⁻¹ := Rat.le_of_lt (Rat.inv_pos.2 (by rcases Rat.le_iff_lt_or_eq.1 hs with h9 | h9 <;> first | exact h9 | exact absurd h9.symm hz))
    exact Rat.not_lt.2 (Rat.mul_nonneg (hp q hq) hi)
  rw [h1, h2]; rfl
theorem ngs_step {qs : List Rat} {k : Nat} {q : Rat} (hq : qs[k]? = some q) : ngs (qs.take (k + 1)) = (ngs (qs.take k) || decide (q.num < 0)) := by
  unfold ngs
  rw [List.take_add_one, hq, Option.toList_some, List.any_append]
  simp
theorem qs_lt (q : Rat) : decide (qs q < 0) = decide (q.num < 0) := by
  rw [num_neg]
  unfold qs cq
  by_cases h : q < 0
  · rw [if_pos h]; simp [h]
  · rw [if_neg h]
    by_cases h2 : 0 < q
    · rw [if_pos h2]; simp [h]
    · rw [if_neg h2]; simp [h]
end Go.Proofs.YtbgihlfblmilmaaGreatDoor.Fr
