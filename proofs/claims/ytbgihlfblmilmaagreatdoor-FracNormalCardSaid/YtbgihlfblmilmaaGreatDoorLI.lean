/- Lists of numbers as arguments of a law. -/
import Derived.Test.YtbgihlfblmilmaaGreatDoorGU
import Derived.Test.YtbgihlfblmilmaaGreatDoorJK
namespace Go.Proofs.YtbgihlfblmilmaaGreatDoor.Fr
open Go.RowKit Num

/-- a slice of structs as an argument: each is a sign and two slices of digits -/
structure Fa (w : World) (A : Option Addr) (n c : Nat) : Prop where
  cap : n ≤ c
  top : c ≤ 9223372036854775807
  cell : 0 < n → ∃ ad, A = some ad ∧ ∀ (j : Nat), j < n → ∃ s A1 n1 c1 A2 n2 c2 xs ys, w.cell? (ad.add (j * 3)) = some (.bool s) ∧ w.cell? ⟨(ad.add (j * 3)).block, (ad.add (j * 3)).off + 1, none⟩ = some (.slice A1 n1 c1) ∧ w.cell? ⟨(ad.add (j * 3)).block, (ad.add (j * 3)).off + 2, none⟩ = some (.slice A2 n2 c2) ∧ Dg .u32 w A1 n1 c1 xs ∧ Dg .u32 w A2 n2 c2 ys
/-- number j of such a list -/
def At1 (w : World) (A : Option Addr) (j : Nat) (s : Bool) (A1 : Option Addr) (n1 c1 : Nat) (A2 : Option Addr) (n2 c2 : Nat) (xs ys : List Nat) : Prop :=
  ∃ ad, A = some ad ∧ w.cell? (ad.add (j * 3)) = some (.bool s) ∧ w.cell? ⟨(ad.add (j * 3)).block, (ad.add (j * 3)).off + 1, none⟩ = some (.slice A1 n1 c1) ∧ w.cell? ⟨(ad.add (j * 3)).block, (ad.add (j * 3)).off + 2, none⟩ = some (.slice A2 n2 c2) ∧ Dg .u32 w A1 n1 c1 xs ∧ Dg .u32 w A2 n2 c2 ys
theorem Fa.at_ {w : World} {A : Option Addr} {n c : Nat} (h : Fa w A n c) {j : Nat} (hj : j < n) : ∃ s A1 n1 c1 A2 n2 c2 xs ys, At1 w A j s A1 n1 c1 A2 n2 c2 xs ys := by
  obtain ⟨ad, e, hc⟩ := h.cell (by omega)
  obtain ⟨s, A1, n1, c1, A2, n2, c2, xs, ys, h1⟩ := hc j hj
  exact ⟨s, A1, n1, c1, A2, n2, c2, xs, ys, ad, e, h1⟩
/-- the first k numbers have at most K digits in each part -/
def Few (w : World) (A : Option Addr) (K k : Nat) : Prop := ∀ j, j < k → ∃ s A1 n1 c1 A2 n2 c2 xs ys, At1 w A j s A1 n1 c1 A2 n2 c2 xs ys ∧ n1 ≤ K ∧ n2 ≤ K
theorem Few.zero (w : World) (A : Option Addr) (K : Nat) : Few w A K 0 := fun j hj => absurd hj (by omega)
theorem Few.step {w : World} {A : Option Addr} {K k : Nat} (h : Few w A K k) {s : Bool} {A1 : Option Addr} {n1 c1 : Nat} {A2 : Option Addr} {n2 c2 : Nat} {xs ys : List Nat} (h1 : At1 w A k s A1 n1 c1 A2 n2 c2 xs ys) (h2 : n1 ≤ K) (h3 : n2 ≤ K) : Few w A K (k + 1) := by
  intro j hj
  by_cases e : j = k
  · subst e; exact ⟨s, A1, n1, c1, A2, n2, c2, xs, ys, h1, h2, h3⟩
  · exact h j (by omega)
theorem Few.below {w w' : World} {A : Option Addr} {K k : Nat} (h : Few w A K k) (hb : Below w.heap.size w w') : Few w' A K k := by
  intro j hj
  obtain ⟨s, A1, n1, c1, A2, n2, c2, xs, ys, ⟨ad, e, k0, k1, k2, d1, d2⟩, l1, l2⟩ := h j hj
  exact ⟨s, A1, n1, c1, A2, n2, c2, xs, ys, ⟨ad, e, (hb.cell (World.block_lt_of_cell? _ _ k0)).trans k0, (hb.cell (World.block_lt_of_cell? _ _ k1)).trans k1, (hb.cell (World.block_lt_of_cell? _ _ k2)).trans k2, d1.below hb, d2.below hb⟩, l1, l2⟩
theorem Fa.below {w w' : World} {A : Option Addr} {n c : Nat} (h : Fa w A n c) (hb : Below w.heap.size w w') : Fa w' A n c :=
  ⟨h.cap, h.top, fun hn => by
    obtain ⟨ad, e, hc⟩ := h.cell hn
    refine ⟨ad, e, fun j hj => ?_⟩
    obtain ⟨s, A1, n1, c1, A2, n2, c2, xs, ys, k0, k1, k2, d1, d2⟩ := hc j hj
    exact ⟨s, A1, n1, c1, A2, n2, c2, xs, ys, (hb.cell (World.block_lt_of_cell? _ _ k0)).trans k0, (hb.cell (World.block_lt_of_cell? _ _ k1)).trans k1, (hb.cell (World.block_lt_of_cell? _ _ k2)).trans k2, d1.below hb, d2.below hb⟩⟩
theorem Few.af {w : World} {A : Option Addr} {K k : Nat} (h : Few w A K k) {j : Nat} (hj : j < k) : ∃ (q : Rat), ∃ ad, A = some ad ∧ ∃ a b d, w.cell? (ad.add (j * 3)) = some a ∧ w.cell? ⟨(ad.add (j * 3)).block, (ad.add (j * 3)).off + 1, none⟩ = some b ∧ w.cell? ⟨(ad.add (j * 3)).block, (ad.add (j * 3)).off + 2, none⟩ = some d ∧ AF w (.agg #[a, b, d]) q K := by
  obtain ⟨s, A1, n1, c1, A2, n2, c2, xs, ys, ⟨ad, e, k0, k1, k2, d1, d2⟩, l1, l2⟩ := h j hj
  exact ⟨_, ad, e, _, _, _, k0, k1, k2, AF.of d1 d2 l1 l2⟩
theorem Few.ls {w : World} {A : Option Addr} {n c K : Nat} (h : Fa w A n c) (hf : Few w A K n) : ∃ qs, Ls AF w A n c K qs := by
  have hch : ∀ j, ∃ q : Rat, j < n → ∃ ad, A = some ad ∧ ∃ a b d, w.cell? (ad.add (j * 3)) = some a ∧ w.cell? ⟨(ad.add (j * 3)).block, (ad.add (j * 3)).off + 1, none⟩ = some b ∧ w.cell? ⟨(ad.add (j * 3)).block, (ad.add (j * 3)).off + 2, none⟩ = some d ∧ AF w (.agg #[a, b, d]) q K := by
    intro j
    by_cases hj : j < n
    · obtain ⟨q, hq⟩ := hf.af hj
      exact ⟨q, fun _ => hq⟩
    · exact ⟨0, fun h => absurd h hj⟩
  obtain ⟨f, hff⟩ := Classical.axiomOfChoice hch
  refine ⟨(List.range n).map f, by simp, h.cap, h.top, fun hn => ?_⟩
  obtain ⟨ad, e, _⟩ := h.cell hn
  refine ⟨ad, e, fun j q hq => ?_⟩
  have hj : j < n := by
    rcases Nat.lt_or_ge j n with h1 | h1
    · exact h1
    · rw [List.getElem?_eq_none (by simpa using h1)] at hq; cases hq
  rw [List.getElem?_map, List.getElem?_range hj, Option.map_some] at hq
  injection hq with hq
  subst hq
  obtain ⟨ad', e', h1⟩ := hff j hj
  rw [e] at e'
  injection e' with e'
  subst e'
  exact h1
end Go.Proofs.YtbgihlfblmilmaaGreatDoor.Fr
