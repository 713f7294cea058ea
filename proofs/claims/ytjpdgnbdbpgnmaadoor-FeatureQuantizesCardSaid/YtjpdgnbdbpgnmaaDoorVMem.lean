/- Slices of integers in memory: what they read as, and what keeps that. Nothing here speaks of a program's own functions. -/
import Derived.WalkKit
import Derived.Lib.Hide
import Derived.Deep.Draws
import Derived.Laws.MakeOwn
import Derived.OwnWalk
namespace Go.Proofs.YtjpdgnbdbpgnmaaDoor
open Go.RowKit

theorem block_of_add (a : Addr) (n : Nat) : (a.add n).block = a.block := by unfold Addr.add; split <;> rfl
theorem add_of_add (a : Addr) (i j : Nat) : (a.add i).add j = a.add (i + j) := by
  unfold Addr.add
  by_cases hi : i = 0 <;> by_cases hj : j = 0 <;> simp [hi, hj, Nat.add_assoc]
theorem add_new (g j : Nat) : (⟨g, 0, none⟩ : Addr).add j = ⟨g, j, none⟩ := by
  unfold Addr.add
  split
  · subst j; rfl
  · simp

theorem getD_in {xs : List Int} {i : Nat} (h : i < xs.length) : xs.getD i 0 = xs[i] := by simp [List.getD_eq_getElem?_getD, h]
theorem getD_out {xs : List Int} {i : Nat} (h : xs.length ≤ i) : xs.getD i 0 = 0 := by simp [List.getD_eq_getElem?_getD, List.getElem?_eq_none h]
theorem lt_of_some {α : Type} {xs : List α} {j : Nat} {x : α} (h : xs[j]? = some x) : j < xs.length := by
  rcases Nat.lt_or_ge j xs.length with h2 | h2
  · exact h2
  · rw [List.getElem?_eq_none h2] at h; cases h

/-- the cells of integers of a kind -/
def ivs (k : IntKind) (xs : List Int) : List Value := xs.map fun (x : Int) => Value.int k x
theorem ivs_len (k : IntKind) (xs : List Int) : (ivs k xs).length = xs.length := by simp [ivs]
theorem ivs_snoc (k : IntKind) (xs : List Int) (x : Int) : ivs k (xs ++ [x]) = ivs k xs ++ [.int k x] := by simp [ivs]
theorem ivs_app (k : IntKind) (xs ys : List Int) : ivs k (xs ++ ys) = ivs k xs ++ ivs k ys := by simp [ivs]
theorem oneCell_ivs (k : IntKind) (xs : List Int) : ∀ u ∈ ivs k xs, u.oneCell' = true := by
  intro u hu
  simp only [ivs, List.mem_map] at hu
  obtain ⟨x, _, rfl⟩ := hu
  rfl

/-- the slice value with address A, length n and capacity c reads as the list xs of integers of the kind k -/
structure Sl (k : IntKind) (w : World) (A : Option Addr) (n c : Nat) (xs : List Int) : Prop where
  len : xs.length = n
  cap : n ≤ c
  top : c ≤ 9223372036854775807
  cell : 0 < n → ∃ ad, A = some ad ∧ ∀ (j : Nat) (x : Int), xs[j]? = some x → w.cell? (ad.add j) = some (.int k x)

section
variable {k : IntKind} {w w' : World} {A : Option Addr} {n c : Nat} {xs : List Int}
theorem Sl.at_ (h : Sl k w A n c xs) {j : Nat} (hj : j < n) : ∃ ad x, A = some ad ∧ w.cell? (ad.add j) = some (.int k x) ∧ Hid (xs.getD j 0 = x) := by
  obtain ⟨ad, e, hc⟩ := h.cell (by omega)
  have hl : j < xs.length := by rw [h.len]; exact hj
  exact ⟨ad, xs[j], e, hc j _ (List.getElem?_eq_getElem hl), getD_in hl⟩
theorem Sl.keep (h : Sl k w A n c xs) (hk : ∀ p : Addr, p.block < w.heap.size → w'.cell? p = w.cell? p) : Sl k w' A n c xs :=
  ⟨h.len, h.cap, h.top, fun hn => by
    obtain ⟨ad, e, hc⟩ := h.cell hn
    exact ⟨ad, e, fun j x hx => by
      have := hc j x hx
      rw [hk _ (World.block_lt_of_cell? _ _ this)]; exact this⟩⟩
theorem Sl.below (h : Sl k w A n c xs) (hb : Below w.heap.size w w') : Sl k w' A n c xs := h.keep fun _ hp => hb.cell hp
theorem Sl.drew (h : Sl k w A n c xs) : Sl k w.drew A n c xs := ⟨h.len, h.cap, h.top, h.cell⟩
theorem Sl.drewN (h : Sl k w A n c xs) (i : Nat) : Sl k (w.drewN i) A n c xs := ⟨h.len, h.cap, h.top, h.cell⟩
theorem Sl.alloc (h : Sl k w A n c xs) (o : Obj) : Sl k (w.alloc o) A n c xs := h.keep fun p hp => World.cell?_alloc_lt w o p hp
theorem Sl.take (h : Sl k w A n c xs) {m : Nat} (hm : m ≤ n) : Sl k w A m c (xs.take m) :=
  ⟨by rw [List.length_take, h.len]; omega, by have := h.cap; omega, h.top, fun hp => by
    obtain ⟨ad, e, hc⟩ := h.cell (by omega)
    exact ⟨ad, e, fun j x hx => hc j x (by
      rw [List.getElem?_take] at hx
      split at hx
      · exact hx
      · cases hx)⟩⟩
theorem Sl.cut (h : Sl k w A n c xs) {m : Nat} (hm : m ≤ n) : Sl k w (if c = m then A else A.map (·.add m)) (n - m) (c - m) (xs.drop m) :=
  ⟨by rw [List.length_drop, h.len], by have := h.cap; omega, by have := h.top; omega, fun hp => by
    obtain ⟨ad, rfl, hc⟩ := h.cell (by omega)
    have := h.cap
    rw [if_neg (by omega)]
    refine ⟨ad.add m, rfl, fun j x hx => ?_⟩
    rw [add_of_add]
    exact hc _ x (by rw [← hx, List.getElem?_drop])⟩
theorem Sl.nil (k : IntKind) (w : World) : Sl k w none 0 0 [] := ⟨rfl, Nat.le_refl _, by decide, fun h => absurd h (by omega)⟩
theorem Sl.farn (h : Sl k w A n c xs) {g : Nat} (hf : 0 < n → ∀ ad, A = some ad → ad.block ≠ g) (i : Nat) (u : Value) : Sl k (w.setCell ⟨g, i, none⟩ u) A n c xs :=
  ⟨h.len, h.cap, h.top, fun hp => by
    obtain ⟨ad, e, hc⟩ := h.cell hp
    refine ⟨ad, e, fun j x hx => ?_⟩
    rw [World.cell?_setCell_other w _ _ u (fun e2 => by have h2 := congrArg Addr.block e2; rw [block_of_add] at h2; exact hf hp ad e h2.symm)]
    exact hc j x hx⟩
theorem Sl.blt (h : Sl k w A n c xs) (hn : 0 < n) : ∀ ad, A = some ad → ad.block < w.heap.size := by
  intro ad he
  obtain ⟨ad', x, e, hc, _⟩ := h.at_ hn
  rw [he] at e
  injection e with e
  subst e
  have := World.block_lt_of_cell? _ _ hc
  rwa [block_of_add] at this
theorem Sl.ne_new (h : Sl k w A n c xs) {g : Nat} (hg : w.heap.size ≤ g) : 0 < n → ∀ ad, A = some ad → ad.block ≠ g := fun hn ad he => by
  have := h.blt hn ad he
  omega
theorem Sl.news {ad : Addr} (h : Sl k w (some ad) n c xs) : ∀ j u, (ivs k xs)[j]? = some u → w.cell? (ad.add j) = some u := by
  intro j u hu
  simp only [ivs, List.getElem?_map, Option.map_eq_some_iff] at hu
  obtain ⟨x, hx, rfl⟩ := hu
  have hn : 0 < n := by have := lt_of_some hx; rw [h.len] at this; omega
  obtain ⟨ad', e, hc⟩ := h.cell hn
  injection e with e
  subst e
  exact hc j x hx
theorem Sl.of_own {base e : Nat} {v : Value} (h : w.ownsRow base e 1 v n (ivs k xs)) : ∃ A c, v = .slice A n c ∧ Sl k w A n c xs := by
  obtain ⟨hl, h2⟩ := h
  have hn : xs.length = n := by rw [ivs_len] at hl; omega
  rcases h2 with ⟨rfl, rfl⟩ | ⟨g, cap, cur, rfl, h3, h4, h5, h6, h7, h8⟩
  · exact ⟨none, 0, rfl, hn, Nat.le_refl _, by decide, fun h => absurd h (by omega)⟩
  · refine ⟨some ⟨g, 0, none⟩, cap, rfl, hn, h5, by simpa [maxLen] using h6, fun hp => ⟨_, rfl, fun j x hx => ?_⟩⟩
    have hown : w.ownsRow base e 1 (.slice (some ⟨g, 0, none⟩) n cap) n (ivs k xs) := ⟨hl, .inr ⟨g, cap, cur, rfl, h3, h4, h5, h6, h7, h8⟩⟩
    exact hown.cells (g := g) rfl j _ (by simp [ivs, hx])
end

/-- block g holds just these cells, none frozen -/
def Blk (w : World) (g : Nat) (t : TypeId) (cs : Array Value) : Prop := w.heap[g]? = some (.cells cs t (0, 0))
section
variable {w w' : World} {g : Nat} {t : TypeId} {cs : Array Value}
theorem Blk.lt (h : Blk w g t cs) : g < w.heap.size := by
  rcases Nat.lt_or_ge g w.heap.size with hlt | hge
  · exact hlt
  · unfold Blk at h; rw [Array.getElem?_eq_none hge] at h; cases h
theorem Blk.cell (h : Blk w g t cs) (i : Nat) : w.cell? ⟨g, i, none⟩ = cs[i]? := cell_of_row w g i cs t (0, 0) h
theorem Blk.frozen (h : Blk w g t cs) (i : Nat) : w.frozen? ⟨g, i, none⟩ = false := by
  unfold Blk at h
  simp [World.frozen?, h]
theorem Blk.new (w : World) (t : TypeId) (cs : Array Value) : Blk (w.alloc (.cells cs t)) w.heap.size t cs := heap_alloc_new w _
theorem Blk.drew (h : Blk w g t cs) : Blk w.drew g t cs := h
theorem Blk.drewN (h : Blk w g t cs) (n : Nat) : Blk (w.drewN n) g t cs := h
theorem Blk.alloc (h : Blk w g t cs) (o : Obj) : Blk (w.alloc o) g t cs := (Below.heap_alloc w o g h.lt).trans h
theorem Blk.set_ (h : Blk w g t cs) (i : Nat) (u : Value) : Blk (w.setCell ⟨g, i, none⟩ u) g t (cs.setIfInBounds i u) := by
  unfold Blk at h ⊢
  simp [World.setCell, Array.getElem?_modify, h]
theorem Blk.far (h : Blk w g t cs) {p : Addr} (hp : g ≠ p.block) (u : Value) : Blk (w.setCell p u) g t cs := (Below.heap_setCell w p u g hp).trans h
theorem Blk.below (h : Blk w g t cs) (hb : Below w.heap.size w w') : Blk w' g t cs := (hb.block g h.lt).trans h
theorem Blk.grown {row : Option Nat} (h : Blk w g t cs) (hb : w.grownBy w' row) (hg : some g ≠ row) : Blk w' g t cs := (hb.block g h.lt hg).trans h
end

/-- block g begins with the integers xs of the kind k, none frozen -/
def Mk (w : World) (g : Nat) (t : TypeId) (k : IntKind) (xs : List Int) : Prop := Blk w g t (ivs k xs).toArray
section
variable {w w' : World} {g : Nat} {t : TypeId} {k : IntKind} {xs : List Int}
theorem Mk.lt (h : Mk w g t k xs) : g < w.heap.size := Blk.lt h
theorem Mk.cell (h : Mk w g t k xs) {i : Nat} (hi : i < xs.length) : w.cell? ⟨g, i, none⟩ = some (.int k (xs.getD i 0)) := by
  rw [Blk.cell h, getD_in hi]
  simp [ivs, hi]
theorem Mk.frozen (h : Mk w g t k xs) (i : Nat) : w.frozen? ⟨g, i, none⟩ = false := Blk.frozen h i
theorem Mk.new (w : World) (t : TypeId) (k : IntKind) (xs : List Int) : Mk (w.alloc (.cells (ivs k xs).toArray t)) w.heap.size t k xs := Blk.new _ _ _
theorem Mk.drew (h : Mk w g t k xs) : Mk w.drew g t k xs := h
theorem Mk.drewN (h : Mk w g t k xs) (n : Nat) : Mk (w.drewN n) g t k xs := h
theorem Mk.alloc (h : Mk w g t k xs) (o : Obj) : Mk (w.alloc o) g t k xs := Blk.alloc h o
theorem Mk.set_ (h : Mk w g t k xs) (i : Nat) (v : Int) : Mk (w.setCell ⟨g, i, none⟩ (.int k v)) g t k (xs.set i v) := by
  have h2 := Blk.set_ h i (.int k v)
  unfold Mk
  rw [show (ivs k (xs.set i v)).toArray = (ivs k xs).toArray.setIfInBounds i (.int k v) by simp [ivs, List.map_set]]
  exact h2
theorem Mk.far (h : Mk w g t k xs) {p : Addr} (hp : g ≠ p.block) (u : Value) : Mk (w.setCell p u) g t k xs := Blk.far h hp u
theorem Mk.below (h : Mk w g t k xs) (hb : Below w.heap.size w w') : Mk w' g t k xs := Blk.below h hb
theorem Mk.sl (h : Mk w g t k xs) {n : Nat} (hn : xs.length = n) (ht : n ≤ 140737488355328) : Sl k w (some ⟨g, 0, none⟩) n n xs :=
  ⟨hn, Nat.le_refl _, by omega, fun _ => ⟨_, rfl, fun j x hx => by
    have hj := lt_of_some hx
    have hc := h.cell hj
    rw [getD_in hj] at hc
    rw [List.getElem?_eq_getElem hj] at hx
    injection hx with hx
    subst hx
    rw [add_new]; exact hc⟩⟩
end

theorem bel_drewN {B : Nat} {a w : World} (h : Below B a w) (n : Nat) : Below B a (w.drewN n) := ⟨h.os, h.tape, h.output, h.size, h.block⟩
theorem bel_grown {w w' : World} (h : w.grownBy w' none) : Below w.heap.size w w' := ⟨h.os, h.tape, h.output, h.size, fun k hk => h.block k hk (by simp)⟩

/-- n zeros -/
def zs (n : Nat) : List Int := List.replicate n 0
theorem zs_len (n : Nat) : (zs n).length = n := List.length_replicate
theorem made_zs (k : IntKind) (n : Nat) : madeCells #[Value.int k 0] n = (ivs k (zs n)).toArray := by
  apply Array.ext
  · simp [size_madeCells, ivs, zs]
  · intro i h1 h2
    simp [madeCells, ivs, zs, Nat.mod_one]

theorem take_snoc {α : Type} {xs : List α} {k : Nat} (h : k < xs.length) : xs.take (k + 1) = xs.take k ++ [xs[k]] := List.take_succ_eq_append_getElem h
theorem take_snocD {xs : List Int} {k : Nat} {x : Int} (h : k < xs.length) (hx : xs.getD k 0 = x) : xs.take (k + 1) = xs.take k ++ [x] := by
  rw [take_snoc h, ← hx, getD_in h]
/-- a list of which the first k elements are done, the rest zeros -/
theorem set_done {ys : List Int} {k n : Nat} {v : Int} (hl : ys.length = k) (hk : k < n) : (ys ++ zs (n - k)).set k v = (ys ++ [v]) ++ zs (n - (k + 1)) := by
  have e : zs (n - k) = 0 :: zs (n - (k + 1)) := by
    unfold zs
    rw [show n - k = (n - (k + 1)) + 1 by omega, List.replicate_succ]
  rw [e, List.set_append_right _ _ (by omega), hl, Nat.sub_self, List.set_cons_zero]
  simp

/-- the call returned a new or nil slice with the integers ys (at most L of them) beside the code; what was there before is as it was -/
def RetL (k : IntKind) (w : World) (ys : List Int) (e : Ending) (w' : World) : Prop :=
  ∃ A m c, e = .returned (.slice A m c) ∧ Sl k w' A m c ys ∧ Below w.heap.size w w' ∧ Hid (∀ ad, A = some ad → w.heap.size ≤ ad.block)
theorem fresh_at {B g : Nat} (h : B ≤ g) : Hid (∀ ad : Addr, some (⟨g, 0, none⟩ : Addr) = some ad → B ≤ ad.block) := fun ad he => by
  injection he with he
  subst he
  exact h
def RetL2 (k : IntKind) (w : World) (ys : List Int) (code : Int) (e : Ending) (w' : World) : Prop :=
  ∃ A m c, e = .returned (.tuple #[.slice A m c, .int .i64 code]) ∧ Sl k w' A m c ys ∧ Below w.heap.size w w'
end Go.Proofs.YtjpdgnbdbpgnmaaDoor
