/- Slices of integers in memory: what they read as, and what keeps that. Nothing here speaks of a program's own functions. -/
import Derived.WalkKit
import Derived.Lib.Hide
import Derived.Deep.Draws
import Derived.Laws.MakeOwn
import Derived.OwnWalk
import Derived.Test.YtpdfjlbfhnapkaaGreatDoorChecked
import Derived.Lib.LaidTab
import Derived.Lib.ItoaLen
import Derived.Lib.AppendIntMem
namespace Go.Proofs.YtpdfjlbfhnapkaaGreatDoor
open Go.RowKit

theorem block_of_add (a : Addr) (n : Nat) : (a.add n).block = a.block := by unfold Addr.add; split <;> rfl
theorem add_of_add (a : Addr) (i j : Nat) : (a.add i).add j = a.add (i + j) := by
  unfold Addr.add
  by_cases hi : i = 0 <;> by_cases hj : j = 0 <;> simp [hi, hj, Nat.add_assoc]
theorem add_new (g j : Nat) : (⟨g, 0, none⟩ : Addr).add j = ⟨g, j, none⟩ := by
  unfold Addr.add
  split
  · subst j; rfl
  · simp

theorem getD_in {xs : List Int} {i : Nat} (h : i < xs.length) : xs.getD i 0 = xs[i] := by simp [List.getD_eq_getElem?_getD, h]
theorem getD_out {xs : List Int} {i : Nat} (h : xs.length ≤ i) : xs.getD i 0 = 0 := by simp [List.getD_eq_getElem?_getD, List.getElem?_eq_none h]
theorem lt_of_some {α : Type} {xs : List α} {j : Nat} {x : α} (h : xs[j]? = some x) : j < xs.length := by
  rcases Nat.lt_or_ge j xs.length with h2 | h2
  · exact h2
  · rw [List.getElem?_eq_none h2] at h; cases h

/-- the cells of integers of a kind -/
def ivs (k : IntKind) (xs : List Int) : List Value := xs.map fun (x : Int) => Value.int k x
theorem ivs_len (k : IntKind) (xs : List Int) : (ivs k xs).length = xs.length := by simp [ivs]
theorem ivs_snoc (k : IntKind) (xs : List Int) (x : Int) : ivs k (xs ++ [x]) = ivs k xs ++ [.int k x] := by simp [ivs]
theorem ivs_app (k : IntKind) (xs ys : List Int) : ivs k (xs ++ ys) = ivs k xs ++ ivs k ys := by simp [ivs]
theorem oneCell_ivs (k : IntKind) (xs : List Int) : ∀ u ∈ ivs k xs, u.oneCell' = true := by
  intro u hu
  simp only [ivs, List.mem_map] at hu
  obtain ⟨x, _, rfl⟩ := hu
  rfl

/-- the slice value with address A, length n and capacity c reads as the list xs of integers of the kind k -/
structure Sl (k : IntKind) (w : World) (A : Option Addr) (n c : Nat) (xs : List Int) : Prop where
  len : xs.length = n
  cap : n ≤ c
  top : c ≤ 9223372036854775807
  cell : 0 < n → ∃ ad, A = some ad ∧ ∀ (j : Nat) (x : Int), xs[j]? = some x → w.cell? (ad.add j) = some (.int k x)

section
variable {k : IntKind} {w w' : World} {A : Option Addr} {n c : Nat} {xs : List Int}
theorem Sl.at_ (h : Sl k w A n c xs) {j : Nat} (hj : j < n) : ∃ ad x, A = some ad ∧ w.cell? (ad.add j) = some (.int k x) ∧ Hid (xs.getD j 0 = x) := by
  obtain ⟨ad, e, hc⟩ := h.cell (by omega)
  have hl : j < xs.length := by rw [h.len]; exact hj
  exact ⟨ad, xs[j], e, hc j _ (List.getElem?_eq_getElem hl), getD_in hl⟩
theorem Sl.keep (h : Sl k w A n c xs) (hk : ∀ p : Addr, p.block < w.heap.size → w'.cell? p = w.cell? p) : Sl k w' A n c xs :=
  ⟨h.len, h.cap, h.top, fun hn => by
    obtain ⟨ad, e, hc⟩ := h.cell hn
    exact ⟨ad, e, fun j x hx => by
      have := hc j x hx
      rw [hk _ (World.block_lt_of_cell? _ _ this)]; exact this⟩⟩
theorem Sl.below (h : Sl k w A n c xs) (hb : Below w.heap.size w w') : Sl k w' A n c xs := h.keep fun _ hp => hb.cell hp
theorem Sl.drew (h : Sl k w A n c xs) : Sl k w.drew A n c xs := ⟨h.len, h.cap, h.top, h.cell⟩
theorem Sl.drewN (h : Sl k w A n c xs) (i : Nat) : Sl k (w.drewN i) A n c xs := ⟨h.len, h.cap, h.top, h.cell⟩
theorem Sl.alloc (h : Sl k w A n c xs) (o : Obj) : Sl k (w.alloc o) A n c xs := h.keep fun p hp => World.cell?_alloc_lt w o p hp
theorem Sl.take (h : Sl k w A n c xs) {m : Nat} (hm : m ≤ n) : Sl k w A m c (xs.take m) :=
  ⟨by rw [List.length_take, h.len]; omega, by have := h.cap; omega, h.top, fun hp => by
    obtain ⟨ad, e, hc⟩ := h.cell (by omega)
    exact ⟨ad, e, fun j x hx => hc j x (by
      rw [List.getElem?_take] at hx
      split at hx
      · exact hx
      · cases hx)⟩⟩
theorem Sl.cut (h : Sl k w A n c xs) {m : Nat} (hm : m ≤ n) : Sl k w (if c = m then A else A.map (·.add m)) (n - m) (c - m) (xs.drop m) :=
  ⟨by rw [List.length_drop, h.len], by have := h.cap; omega, by have := h.top; omega, fun hp => by
    obtain ⟨ad, rfl, hc⟩ := h.cell (by omega)
    have := h.cap
    rw [if_neg (by omega)]
    refine ⟨ad.add m, rfl, fun j x hx => ?_⟩
    rw [add_of_add]
    exact hc _ x (by rw [← hx, List.getElem?_drop])⟩
theorem Sl.nil (k : IntKind) (w : World) : Sl k w none 0 0 [] := ⟨rfl, Nat.le_refl _, by decide, fun h => absurd h (by omega)⟩
theorem Sl.farn (h : Sl k w A n c xs) {g : Nat} (hf : 0 < n → ∀ ad, A = some ad → ad.block ≠ g) (i : Nat) (u : Value) : Sl k (w.setCell ⟨g, i, none⟩ u) A n c xs :=
  ⟨h.len, h.cap, h.top, fun hp => by
    obtain ⟨ad, e, hc⟩ := h.cell hp
    refine ⟨ad, e, fun j x hx => ?_⟩
    rw [World.cell?_setCell_other w _ _ u (fun e2 => by have h2 := congrArg Addr.block e2; rw [block_of_add] at h2; exact hf hp ad e h2.symm)]
    exact hc j x hx⟩
theorem Sl.blt (h : Sl k w A n c xs) (hn : 0 < n) : ∀ ad, A = some ad → ad.block < w.heap.size := by
  intro ad he
  obtain ⟨ad', x, e, hc, _⟩ := h.at_ hn
  rw [he] at e
  injection e with e
  subst e
  have := World.block_lt_of_cell? _ _ hc
  rwa [block_of_add] at this
theorem Sl.ne_new (h : Sl k w A n c xs) {g : Nat} (hg : w.heap.size ≤ g) : 0 < n → ∀ ad, A = some ad → ad.block ≠ g := fun hn ad he => by
  have := h.blt hn ad he
  omega
theorem Sl.news {ad : Addr} (h : Sl k w (some ad) n c xs) : ∀ j u, (ivs k xs)[j]? = some u → w.cell? (ad.add j) = some u := by
  intro j u hu
  simp only [ivs, List.getElem?_map, Option.map_eq_some_iff] at hu
  obtain ⟨x, hx, rfl⟩ := hu
  have hn : 0 < n := by have := lt_of_some hx; rw [h.len] at this; omega
  obtain ⟨ad', e, hc⟩ := h.cell hn
  injection e with e
  subst e
  exact hc j x hx
theorem Sl.of_own {base e : Nat} {v : Value} (h : w.ownsRow base e 1 v n (ivs k xs)) : ∃ A c, v = .slice A n c ∧ Sl k w A n c xs := by
  obtain ⟨hl, h2⟩ := h
  have hn : xs.length = n := by rw [ivs_len] at hl; omega
  rcases h2 with ⟨rfl, rfl⟩ | ⟨g, cap, cur, rfl, h3, h4, h5, h6, h7, h8⟩
  · exact ⟨none, 0, rfl, hn, Nat.le_refl _, by decide, fun h => absurd h (by omega)⟩
  · refine ⟨some ⟨g, 0, none⟩, cap, rfl, hn, h5, by simpa [maxLen] using h6, fun hp => ⟨_, rfl, fun j x hx => ?_⟩⟩
    have hown : w.ownsRow base e 1 (.slice (some ⟨g, 0, none⟩) n cap) n (ivs k xs) := ⟨hl, .inr ⟨g, cap, cur, rfl, h3, h4, h5, h6, h7, h8⟩⟩
    exact hown.cells (g := g) rfl j _ (by simp [ivs, hx])
end

/-- block g holds just these cells, none frozen -/
def Blk (w : World) (g : Nat) (t : TypeId) (cs : Array Value) : Prop := w.heap[g]? = some (.cells cs t (0, 0))
section
variable {w w' : World} {g : Nat} {t : TypeId} {cs : Array Value}
theorem Blk.lt (h : Blk w g t cs) : g < w.heap.size := by
  rcases Nat.lt_or_ge g w.heap.size with hlt | hge
  · exact hlt
  · unfold Blk at h; rw [Array.getElem?_eq_none hge] at h; cases h
theorem Blk.cell (h : Blk w g t cs) (i : Nat) : w.cell? ⟨g, i, none⟩ = cs[i]? := cell_of_row w g i cs t (0, 0) h
theorem Blk.frozen (h : Blk w g t cs) (i : Nat) : w.frozen? ⟨g, i, none⟩ = false := by
  unfold Blk at h
  simp [World.frozen?, h]
theorem Blk.new (w : World) (t : TypeId) (cs : Array Value) : Blk (w.alloc (.cells cs t)) w.heap.size t cs := heap_alloc_new w _
theorem Blk.drew (h : Blk w g t cs) : Blk w.drew g t cs := h
theorem Blk.drewN (h : Blk w g t cs) (n : Nat) : Blk (w.drewN n) g t cs := h
theorem Blk.alloc (h : Blk w g t cs) (o : Obj) : Blk (w.alloc o) g t cs := (Below.heap_alloc w o g h.lt).trans h
theorem Blk.set_ (h : Blk w g t cs) (i : Nat) (u : Value) : Blk (w.setCell ⟨g, i, none⟩ u) g t (cs.setIfInBounds i u) := by
  unfold Blk at h ⊢
  simp [World.setCell, Array.getElem?_modify, h]
theorem Blk.far (h : Blk w g t cs) {p : Addr} (hp : g ≠ p.block) (u : Value) : Blk (w.setCell p u) g t cs := (Below.heap_setCell w p u g hp).trans h
theorem Blk.below (h : Blk w g t cs) (hb : Below w.heap.size w w') : Blk w' g t cs := (hb.block g h.lt).trans h
theorem Blk.grown {row : Option Nat} (h : Blk w g t cs) (hb : w.grownBy w' row) (hg : some g ≠ row) : Blk w' g t cs := (hb.block g h.lt hg).trans h
end

/-- block g begins with the integers xs of the kind k, none frozen -/
def Mk (w : World) (g : Nat) (t : TypeId) (k : IntKind) (xs : List Int) : Prop := Blk w g t (ivs k xs).toArray
section
variable {w w' : World} {g : Nat} {t : TypeId} {k : IntKind} {xs : List Int}
theorem Mk.lt (h : Mk w g t k xs) : g < w.heap.size := Blk.lt h
theorem Mk.cell (h : Mk w g t k xs) {i : Nat} (hi : i < xs.length) : w.cell? ⟨g, i, none⟩ = some (.int k (xs.getD i 0)) := by
  rw [Blk.cell h, getD_in hi]
  simp [ivs, hi]
theorem Mk.frozen (h : Mk w g t k xs) (i : Nat) : w.frozen? ⟨g, i, none⟩ = false := Blk.frozen h i
theorem Mk.new (w : World) (t : TypeId) (k : IntKind) (xs : List Int) : Mk (w.alloc (.cells (ivs k xs).toArray t)) w.heap.size t k xs := Blk.new _ _ _
theorem Mk.drew (h : Mk w g t k xs) : Mk w.drew g t k xs := h
theorem Mk.drewN (h : Mk w g t k xs) (n : Nat) : Mk (w.drewN n) g t k xs := h
theorem Mk.alloc (h : Mk w g t k xs) (o : Obj) : Mk (w.alloc o) g t k xs := Blk.alloc h o
theorem Mk.set_ (h : Mk w g t k xs) (i : Nat) (v : Int) : Mk (w.setCell ⟨g, i, none⟩ (.int k v)) g t k (xs.set i v) := by
  have h2 := Blk.set_ h i (.int k v)
  unfold Mk
  rw [show (ivs k (xs.set i v)).toArray = (ivs k xs).toArray.setIfInBounds i (.int k v) by simp [ivs, List.map_set]]
  exact h2
theorem Mk.far (h : Mk w g t k xs) {p : Addr} (hp : g ≠ p.block) (u : Value) : Mk (w.setCell p u) g t k xs := Blk.far h hp u
theorem Mk.below (h : Mk w g t k xs) (hb : Below w.heap.size w w') : Mk w' g t k xs := Blk.below h hb
theorem Mk.sl (h : Mk w g t k xs) {n : Nat} (hn : xs.length = n) (ht : n ≤ 140737488355328) : Sl k w (some ⟨g, 0, none⟩) n n xs :=
  ⟨hn, Nat.le_refl _, by omega, fun _ => ⟨_, rfl, fun j x hx => by
    have hj := lt_of_some hx
    have hc := h.cell hj
    rw [getD_in hj] at hc
    rw [List.getElem?_eq_getElem hj] at hx
    injection hx with hx
    subst hx
    rw [add_new]; exact hc⟩⟩
end

theorem bel_drewN {B : Nat} {a w : World} (h : Below B a w) (n : Nat) : Below B a (w.drewN n) := ⟨h.os, h.tape, h.output, h.size, h.block⟩
theorem bel_grown {w w' : World} (h : w.grownBy w' none) : Below w.heap.size w w' := ⟨h.os, h.tape, h.output, h.size, fun k hk => h.block k hk (by simp)⟩

/-- n zeros -/
def zs (n : Nat) : List Int := List.replicate n 0
theorem zs_len (n : Nat) : (zs n).length = n := List.length_replicate
theorem made_zs (k : IntKind) (n : Nat) : madeCells #[Value.int k 0] n = (ivs k (zs n)).toArray := by
  apply Array.ext
  · simp [size_madeCells, ivs, zs]
  · intro i h1 h2
    simp [madeCells, ivs, zs, Nat.mod_one]

theorem take_snoc {α : Type} {xs : List α} {k : Nat} (h : k < xs.length) : xs.take (k + 1) = xs.take k ++ [xs[k]] := List.take_succ_eq_append_getElem h
theorem take_snocD {xs : List Int} {k : Nat} {x : Int} (h : k < xs.length) (hx : xs.getD k 0 = x) : xs.take (k + 1) = xs.take k ++ [x] := by
  rw [take_snoc h, ← hx, getD_in h]
/-- a list of which the first k elements are done, the rest zeros -/
theorem set_done {ys : List Int} {k n : Nat} {v : Int} (hl : ys.length = k) (hk : k < n) : (ys ++ zs (n - k)).set k v = (ys ++ [v]) ++ zs (n - (k + 1)) := by
  have e : zs (n - k) = 0 :: zs (n - (k + 1)) := by
    unfold zs
    rw [show n - k = (n - (k + 1)) + 1 by omega, List.replicate_succ]
  rw [e, List.set_append_right _ _ (by omega), hl, Nat.sub_self, List.set_cons_zero]
  simp

/-- the call returned a new or nil slice with the integers ys (at most L of them) beside the code; what was there before is as it was -/
def RetL (k : IntKind) (w : World) (ys : List Int) (e : Ending) (w' : World) : Prop :=
  ∃ A m c, e = .returned (.slice A m c) ∧ Sl k w' A m c ys ∧ Below w.heap.size w w' ∧ Hid (∀ ad, A = some ad → w.heap.size ≤ ad.block)
theorem fresh_at {B g : Nat} (h : B ≤ g) : Hid (∀ ad : Addr, some (⟨g, 0, none⟩ : Addr) = some ad → B ≤ ad.block) := fun ad he => by
  injection he with he
  subst he
  exact h
def RetL2 (k : IntKind) (w : World) (ys : List Int) (code : Int) (e : Ending) (w' : World) : Prop :=
  ∃ A m c, e = .returned (.tuple #[.slice A m c, .int .i64 code]) ∧ Sl k w' A m c ys ∧ Below w.heap.size w w'
end Go.Proofs.YtpdfjlbfhnapkaaGreatDoor

/- Strings and slices of strings in memory; a parser, which lies in a block of its own. -/
namespace Go.Proofs.YtpdfjlbfhnapkaaGreatDoor
open Go.RowKit

abbrev Str := List UInt8

/-- the slice value with address A, length n and capacity c reads as the list xs of strings -/
structure Ss (w : World) (A : Option Addr) (n c : Nat) (xs : List Str) : Prop where
  len : xs.length = n
  cap : n ≤ c
  top : c ≤ 9223372036854775807
  cell : 0 < n → ∃ ad, A = some ad ∧ ∀ (j : Nat) (x : Str), xs[j]? = some x → w.cell? (ad.add j) = some (.string ⟨x.toArray⟩)

section
variable {w w' : World} {A : Option Addr} {n c : Nat} {xs : List Str}
theorem Ss.nil (w : World) (c : Nat) (hc : c ≤ 9223372036854775807) (A : Option Addr) : Ss w A 0 c [] := ⟨rfl, Nat.zero_le _, hc, fun h => absurd h (by omega)⟩
theorem Ss.at_ (h : Ss w A n c xs) {j : Nat} (hj : j < n) : ∃ ad x, A = some ad ∧ w.cell? (ad.add j) = some (.string ⟨x.toArray⟩) ∧ Hid (xs[j]? = some x) := by
  obtain ⟨ad, e, hc⟩ := h.cell (by omega)
  have hl : j < xs.length := by rw [h.len]; exact hj
  exact ⟨ad, xs[j], e, hc j _ (List.getElem?_eq_getElem hl), List.getElem?_eq_getElem hl⟩
theorem Ss.keep (h : Ss w A n c xs) (hk : ∀ p : Addr, p.block < w.heap.size → (∀ ad, A = some ad → p.block = ad.block) → w'.cell? p = w.cell? p) : Ss w' A n c xs :=
  ⟨h.len, h.cap, h.top, fun hn => by
    obtain ⟨ad, e, hc⟩ := h.cell hn
    exact ⟨ad, e, fun j x hx => by
      have := hc j x hx
      rw [hk _ (World.block_lt_of_cell? _ _ this) (fun ad2 e2 => by rw [e] at e2; injection e2 with e2; subst e2; exact block_of_add _ _)]; exact this⟩⟩
theorem Ss.below (h : Ss w A n c xs) (hb : Below w.heap.size w w') : Ss w' A n c xs := h.keep fun _ hp _ => hb.cell hp
theorem Ss.drew (h : Ss w A n c xs) : Ss w.drew A n c xs := ⟨h.len, h.cap, h.top, h.cell⟩
theorem Ss.drewN (h : Ss w A n c xs) (i : Nat) : Ss (w.drewN i) A n c xs := ⟨h.len, h.cap, h.top, h.cell⟩
theorem Ss.alloc (h : Ss w A n c xs) (o : Obj) : Ss (w.alloc o) A n c xs := h.keep fun p hp _ => World.cell?_alloc_lt w o p hp
theorem Ss.blt (h : Ss w A n c xs) (hn : 0 < n) (ad : Addr) (he : A = some ad) : ad.block < w.heap.size := by
  obtain ⟨ad', e, hc⟩ := h.cell hn
  rw [he] at e
  injection e with e
  subst e
  have hl : 0 < xs.length := by rw [h.len]; exact hn
  have := World.block_lt_of_cell? _ _ (hc 0 _ (List.getElem?_eq_getElem hl))
  rwa [block_of_add] at this
theorem Ss.take (h : Ss w A n c xs) {m : Nat} (hm : m ≤ n) : Ss w A m c (xs.take m) :=
  ⟨by rw [List.length_take, h.len]; omega, by have := h.cap; omega, h.top, fun hp => by
    obtain ⟨ad, e, hc⟩ := h.cell (by omega)
    exact ⟨ad, e, fun j x hx => hc j x (by
      rw [List.getElem?_take] at hx
      split at hx
      · exact hx
      · cases hx)⟩⟩
theorem Ss.cut (h : Ss w A n c xs) {m : Nat} (hm : m ≤ n) : Ss w (if c = m then A else A.map (·.add m)) (n - m) (c - m) (xs.drop m) :=
  ⟨by rw [List.length_drop, h.len], by have := h.cap; omega, by have := h.top; omega, fun hp => by
    obtain ⟨ad, rfl, hc⟩ := h.cell (by omega)
    have := h.cap
    rw [if_neg (by omega)]
    exact ⟨ad.add m, rfl, fun j x hx => by
      rw [List.getElem?_drop] at hx
      rw [add_of_add]
      exact hc (m + j) x hx⟩⟩
end

/-- only block g may have turned; new ones may be there -/
def Upto (g : Nat) (w w' : World) : Prop := w.grownBy w' (some g)
theorem Upto.refl (g : Nat) (w : World) : Upto g w w := ⟨rfl, rfl, rfl, Nat.le_refl _, fun _ _ _ => rfl⟩
theorem Upto.trans {g : Nat} {a b c : World} (h : Upto g a b) (k : Upto g b c) : Upto g a c :=
  ⟨k.os.trans h.os, k.tape.trans h.tape, k.output.trans h.output, Nat.le_trans h.size k.size, fun i hi hne => (k.block i (Nat.lt_of_lt_of_le hi h.size) hne).trans (h.block i hi hne)⟩
theorem Upto.bel {g : Nat} {a b c : World} (h : Upto g a b) (k : Below b.heap.size b c) : Upto g a c :=
  ⟨k.os.trans h.os, k.tape.trans h.tape, k.output.trans h.output, Nat.le_trans h.size k.size, fun i hi hne => (k.block i (Nat.lt_of_lt_of_le hi h.size)).trans (h.block i hi hne)⟩
theorem Upto.drewN {g : Nat} {a b : World} (h : Upto g a b) (n : Nat) : Upto g a (b.drewN n) := ⟨h.os, h.tape, h.output, h.size, h.block⟩
theorem Upto.alloc {g : Nat} {a b : World} (h : Upto g a b) (o : Obj) : Upto g a (b.alloc o) := h.bel ((Below.refl b.heap.size b).alloc (Nat.le_refl _) o)
theorem Upto.set_ {g : Nat} {a b : World} (h : Upto g a b) (i : Nat) (u : Value) : Upto g a (b.setCell ⟨g, i, none⟩ u) :=
  ⟨h.os, h.tape, h.output, by simpa [World.setCell] using h.size, fun k hk hne => (Below.heap_setCell b _ u k (by intro e; simp at e; exact hne (by rw [e]))).trans (h.block k hk hne)⟩
theorem Upto.below {g B : Nat} {a b : World} (h : Upto g a b) (hB : B ≤ g) (hs : B ≤ a.heap.size) : Below B a b :=
  ⟨h.os, h.tape, h.output, h.size, fun k hk => h.block k (Nat.lt_of_lt_of_le hk hs) (fun e => by injection e with e; omega)⟩
theorem Upto.blk {g b : Nat} {a w' : World} {t : TypeId} {cs : Array Value} (h : Upto g a w') (hB : Blk a b t cs) (hne : b ≠ g) : Blk w' b t cs := (h.block b hB.lt (fun e => hne (by injection e))).trans hB
theorem Upto.cell {g : Nat} {a w' : World} {p : Addr} {v : Value} (h : Upto g a w') (hc : a.cell? p = some v) (hne : p.block ≠ g) : w'.cell? p = some v := by
  have hl := World.block_lt_of_cell? _ _ hc
  have he := h.block p.block hl (fun e => hne (by injection e))
  have : ∀ x y : World, x.heap[p.block]? = y.heap[p.block]? → x.cell? p = y.cell? p := fun x y hxy => by
    simp [World.cell?, hxy]
  rw [this _ _ he]; exact hc
theorem Upto.ss {g : Nat} {a w' : World} {A : Option Addr} {n c : Nat} {xs : List Str} (h : Upto g a w') (hS : Ss a A n c xs) (hne : ∀ ad, A = some ad → ad.block ≠ g) : Ss w' A n c xs :=
  ⟨hS.len, hS.cap, hS.top, fun hn => by
    obtain ⟨ad, e, hc⟩ := hS.cell hn
    exact ⟨ad, e, fun j x hx => h.cell (hc j x hx) (by rw [block_of_add]; exact hne ad e)⟩⟩

/-- a parser that lies at g and has these words left -/
def Pz (w : World) (g : Nat) (ws : List Str) : Prop := ∃ A n c, Blk w g 107 #[.slice A n c] ∧ Ss w A n c ws ∧ ∀ ad, A = some ad → ad.block ≠ g
theorem Pz.below {w w' : World} {g : Nat} {ws : List Str} (h : Pz w g ws) (hb : Below w.heap.size w w') : Pz w' g ws := by
  obtain ⟨A, n, c, h1, h2, h3⟩ := h
  exact ⟨A, n, c, h1.below hb, h2.below hb, h3⟩
theorem Pz.drewN {w : World} {g : Nat} {ws : List Str} (h : Pz w g ws) (k : Nat) : Pz (w.drewN k) g ws := by
  obtain ⟨A, n, c, h1, h2, h3⟩ := h
  exact ⟨A, n, c, h1.drewN k, h2.drewN k, h3⟩

/-- whether a word is the next one -/
def tkB (x : Str) : List Str → Bool
  | [] => false
  | y :: _ => decide (y = x)
/-- the words behind a word, if it is the next one -/
def tkR (x : Str) (ws : List Str) : List Str := if tkB x ws then ws.tail else ws

theorem bytes_ext {a b : ByteArray} (h : a.data = b.data) : a = b := by cases a; cases b; congr 1
theorem str_eq {x y : Str} : ((⟨x.toArray⟩ : ByteArray) = ⟨y.toArray⟩) ↔ x = y := ⟨fun h => by
  have : x.toArray = y.toArray := by injection h
  simpa using congrArg Array.toList this, fun h => by rw [h]⟩

theorem ret_bool {a b : Bool} (h : a = b) : Ending.returned (.bool a) = .returned (.bool b) := by rw [h]
theorem ret_int {a b : Int} (h : a = b) : Ending.returned (.int .i64 a) = .returned (.int .i64 b) := by rw [h]
theorem ret_str {x y : Str} (h : x = y) : Ending.returned (.string ⟨x.toArray⟩) = .returned (.string ⟨y.toArray⟩) := by rw [h]

set_option maxHeartbeats 1600000 in
theorem take_any (g : Nat) (x : Str) (ws : List Str) (w : World) (h : Pz w g ws) :
    Calls Tryz.prog 127 #[.pointer (some ⟨g, 0, none⟩), .string ⟨x.toArray⟩] w fun e w' => e = .returned (.bool (tkB x ws)) ∧ Pz w' g (tkR x ws) ∧ Upto g w w' := by
  obtain ⟨A, n, c, hB, hS, hne⟩ := h
  have k0 := hB.cell 0
  have hf0 := hB.frozen 0
  have hcap := hS.cap
  have htop := hS.top
  cases ws with
  | nil =>
    have hn : n = 0 := by rw [← hS.len]; rfl
    subst hn
    go_enter Tryz.func127, Tryz.ntmps127
    go_wp2
    go_ret
    exact ⟨rfl, ⟨A, 0, c, hB, hS, hne⟩, Upto.refl _ _⟩
  | cons y ys =>
    have hn0 : n = ys.length + 1 := by rw [← hS.len]; rfl
    obtain ⟨ad, hA, hc⟩ := hS.cell (by omega)
    subst hA
    have hc0 := hc 0 y rfl
    rw [show ad.add 0 = ad from by unfold Addr.add; simp] at hc0
    have n1 : 0 < n := by omega
    have n2 : ((n : Int) == 0) = false := by rw [beq_eq_false_iff_ne]; omega
    have n3 : ¬ n = 0 := by omega
    have hcut := hS.cut (m := 1) (by omega)
    have ha1 := Lib.hid (show (⟨ad.block, ad.off + 1, none⟩ : Addr) = ad.add 1 by unfold Addr.add; simp)
    clear hc hn0
    by_cases hyx : y = x
    · have hbx : (y == x) = true := by simp [hyx]
      have ht := Lib.hid (show tkB x (y :: ys) = true from decide_eq_true hyx)
      have hr := Lib.hid (show tkR x (y :: ys) = ys by unfold tkR; rw [ht.out]; rfl)
      clear hyx
      by_cases hc1 : c = 1
      · subst hc1
        rw [if_pos rfl, show n - 1 = 0 by omega] at hcut
        go_enter Tryz.func127, Tryz.ntmps127
        go_wp2
        go_ret
        exact ⟨ret_bool ht.out.symm, by rw [hr.out]; exact ⟨some ad, 0, 0, hB.set_ 0 _, (Upto.refl g w).set_ 0 _ |>.ss hcut hne, hne⟩, (Upto.refl g w).set_ 0 _⟩
      · rw [if_neg hc1] at hcut
        have hne1 : ∀ a2, some (ad.add 1) = some a2 → a2.block ≠ g := fun a2 e => by injection e with e; subst e; rw [block_of_add]; exact hne ad rfl
        go_enter Tryz.func127, Tryz.ntmps127
        go_wp2
        go_ret
        rw [ha1.out]
        exact ⟨ret_bool ht.out.symm, by rw [hr.out]; exact ⟨some (ad.add 1), n - 1, c - 1, hB.set_ 0 _, (Upto.refl g w).set_ 0 _ |>.ss hcut hne1, hne1⟩, (Upto.refl g w).set_ 0 _⟩
    · have hbx : (y == x) = false := by rw [beq_eq_false_iff_ne]; exact hyx
      have ht := Lib.hid (show tkB x (y :: ys) = false from decide_eq_false hyx)
      have hr := Lib.hid (show tkR x (y :: ys) = y :: ys by unfold tkR; rw [ht.out]; rfl)
      go_enter Tryz.func127, Tryz.ntmps127
      go_wp2
      go_ret
      exact ⟨ret_bool ht.out.symm, by rw [hr.out]; exact ⟨_, n, c, hB, hS, hne⟩, Upto.refl _ _⟩
end Go.Proofs.YtpdfjlbfhnapkaaGreatDoor

/- The words of numbers and months; what a parser takes. -/
namespace Go.Proofs.YtpdfjlbfhnapkaaGreatDoor
open Go.RowKit

def smallL : List Str := [[122, 101, 114, 111], [111, 110, 101], [116, 119, 111], [116, 104, 114, 101, 101], [102, 111, 117, 114], [102, 105, 118, 101], [115, 105, 120], [115, 101, 118, 101, 110], [101, 105, 103, 104, 116], [110, 105, 110, 101], [116, 101, 110], [101, 108, 101, 118, 101, 110], [116, 119, 101, 108, 118, 101], [116, 104, 105, 114, 116, 101, 101, 110], [102, 111, 117, 114, 116, 101, 101, 110], [102, 105, 102, 116, 101, 101, 110], [115, 105, 120, 116, 101, 101, 110], [115, 101, 118, 101, 110, 116, 101, 101, 110], [101, 105, 103, 104, 116, 101, 101, 110], [110, 105, 110, 101, 116, 101, 101, 110]]
def tensL : List Str := [[116, 119, 101, 110, 116, 121], [116, 104, 105, 114, 116, 121], [102, 111, 114, 116, 121], [102, 105, 102, 116, 121], [115, 105, 120, 116, 121], [115, 101, 118, 101, 110, 116, 121], [101, 105, 103, 104, 116, 121], [110, 105, 110, 101, 116, 121]]
def monthsL : List Str := [[106, 97, 110, 117, 97, 114, 121], [102, 101, 98, 114, 117, 97, 114, 121], [109, 97, 114, 99, 104], [97, 112, 114, 105, 108], [109, 97, 121], [106, 117, 110, 101], [106, 117, 108, 121], [97, 117, 103, 117, 115, 116], [115, 101, 112, 116, 101, 109, 98, 101, 114], [111, 99, 116, 111, 98, 101, 114], [110, 111, 118, 101, 109, 98, 101, 114], [100, 101, 99, 101, 109, 98, 101, 114]]
def othersL : List Str := [[109, 105, 110, 117, 115], [97, 110, 100], [100, 105, 103, 105, 116, 115], [112, 111, 105, 110, 116], [104, 111, 117, 114, 115], [111, 104], [116, 104, 101], [111, 102], [100, 111, 108, 108, 97, 114], [100, 111, 108, 108, 97, 114, 115], [99, 101, 110, 116], [99, 101, 110, 116, 115]]
def irrL : List (Str × Str) := [([111, 110, 101], [102, 105, 114, 115, 116]), ([116, 119, 111], [115, 101, 99, 111, 110, 100]), ([116, 104, 114, 101, 101], [116, 104, 105, 114, 100]), ([102, 105, 118, 101], [102, 105, 102, 116, 104]), ([101, 105, 103, 104, 116], [101, 105, 103, 104, 116, 104]), ([110, 105, 110, 101], [110, 105, 110, 116, 104]), ([116, 119, 101, 108, 118, 101], [116, 119, 101, 108, 102, 116, 104])]
def powL : List (Nat × Str) := [(1000000000, [98, 105, 108, 108, 105, 111, 110]), (1000000, [109, 105, 108, 108, 105, 111, 110]), (1000, [116, 104, 111, 117, 115, 97, 110, 100])]
def smallN (n : Nat) : Str := smallL.getD n []
def tensN (n : Nat) : Str := tensL.getD (n - 2) []
def monthN (n : Nat) : Str := monthsL.getD (n - 1) []
/-- the tables, as they lie in memory -/
structure WT (w : World) : Prop where
  small : ∀ i, i < 20 → w.cell? ⟨11, i, none⟩ = some (.string ⟨(smallL.getD i []).toArray⟩)
  tens : ∀ i, i < 8 → w.cell? ⟨10, i, none⟩ = some (.string ⟨(tensL.getD i []).toArray⟩)
  months : ∀ i, i < 12 → w.cell? ⟨7, i, none⟩ = some (.string ⟨(monthsL.getD i []).toArray⟩)
  others : ∀ i, i < 12 → w.cell? ⟨0, i, none⟩ = some (.string ⟨(othersL.getD i []).toArray⟩)
  irr1 : ∀ i, i < 7 → w.cell? ⟨4, 2 * i, none⟩ = some (.string ⟨(irrL.getD i ([], [])).1.toArray⟩)
  irr2 : ∀ i, i < 7 → w.cell? ⟨4, 2 * i + 1, none⟩ = some (.string ⟨(irrL.getD i ([], [])).2.toArray⟩)
  pow1 : ∀ i, i < 3 → w.cell? ⟨3, 2 * i, none⟩ = some (.int .i64 ((powL.getD i (0, [])).1 : Nat))
  pow2 : ∀ i, i < 3 → w.cell? ⟨3, 2 * i + 1, none⟩ = some (.string ⟨(powL.getD i (0, [])).2.toArray⟩)
  p10 : Lib.TabIs Tryz.prog w "internal/strconv.uint64pow10" .u64 Lib.pow10Tab
  ml : ∃ m : Int, w.cell? ⟨5, 0, none⟩ = some (.int .i64 m)
/-- t is a table -/
def IsT (t : Nat) : Prop := t = 11 ∨ t = 10 ∨ t = 7 ∨ t = 0 ∨ t = 4 ∨ t = 3 ∨ t = 6 ∨ t = 5
/-- g is no table -/
def NT (g : Nat) : Prop := ∀ t, IsT t → t ≠ g
theorem cell_heap {w w' : World} {p : Addr} (h : w'.heap[p.block]? = w.heap[p.block]?) : w'.cell? p = w.cell? p := by simp [World.cell?, h]
theorem g10 : Tryz.prog.globalNamed "internal/strconv.uint64pow10" = some 6 := by kernel_rfl
theorem WT.keep {w w' : World} (h : WT w) (hk : ∀ t, IsT t → w'.heap[t]? = w.heap[t]?) : WT w' :=
  ⟨fun i hi => (cell_heap (hk _ (by simp [IsT]))).trans (h.small i hi), fun i hi => (cell_heap (hk _ (by simp [IsT]))).trans (h.tens i hi), fun i hi => (cell_heap (hk _ (by simp [IsT]))).trans (h.months i hi), fun i hi => (cell_heap (hk _ (by simp [IsT]))).trans (h.others i hi), fun i hi => (cell_heap (hk _ (by simp [IsT]))).trans (h.irr1 i hi), fun i hi => (cell_heap (hk _ (by simp [IsT]))).trans (h.irr2 i hi), fun i hi => (cell_heap (hk _ (by simp [IsT]))).trans (h.pow1 i hi), fun i hi => (cell_heap (hk _ (by simp [IsT]))).trans (h.pow2 i hi), by
    have h1 := h.p10
    unfold Lib.TabIs World.var? at h1 ⊢
    rw [g10] at h1 ⊢
    simp only [Option.bind_some] at h1 ⊢
    rw [hk _ (by simp [IsT])]
    exact h1, by
    obtain ⟨m, hm⟩ := h.ml
    exact ⟨m, (cell_heap (hk _ (by simp [IsT]))).trans hm⟩⟩
theorem WT.lt {w : World} (h : WT w) {t : Nat} (ht : IsT t) : t < w.heap.size := by
  have key : ∀ (t i : Nat) (v : Value), w.cell? ⟨t, i, none⟩ = some v → t < w.heap.size := fun t i v hc => World.block_lt_of_cell? _ _ hc
  rcases ht with rfl | rfl | rfl | rfl | rfl | rfl | rfl | rfl
  · exact key _ _ _ (h.small 0 (by decide))
  · exact key _ _ _ (h.tens 0 (by decide))
  · exact key _ _ _ (h.months 0 (by decide))
  · exact key _ _ _ (h.others 0 (by decide))
  · exact key _ _ _ (h.irr1 0 (by decide))
  · exact key _ _ _ (h.pow1 0 (by decide))
  · have h1 := h.p10
    unfold Lib.TabIs World.var? at h1
    rw [g10] at h1
    simp only [Option.bind_some] at h1
    rcases Nat.lt_or_ge 6 w.heap.size with h2 | h2
    · exact h2
    · rw [Array.getElem?_eq_none h2] at h1; cases h1
  · obtain ⟨m, hm⟩ := h.ml
    exact key _ _ _ hm
theorem WT.below {w w' : World} (h : WT w) (hb : Below w.heap.size w w') : WT w' := h.keep fun t ht => hb.block t (h.lt ht)
theorem WT.upto {w w' : World} {g : Nat} (h : WT w) (hN : NT g) (hU : Upto g w w') : WT w' := h.keep fun t ht => hU.block t (h.lt ht) (fun e => by injection e with e; exact hN t ht e)
theorem WT.nt {w : World} (h : WT w) {g : Nat} (hg : w.heap.size ≤ g) : NT g := fun t ht => by have := h.lt ht; omega
theorem WT.drewN {w : World} (h : WT w) (k : Nat) : WT (w.drewN k) := ⟨h.small, h.tens, h.months, h.others, h.irr1, h.irr2, h.pow1, h.pow2, h.p10, h.ml⟩
theorem WT.alloc {w : World} (h : WT w) (o : Obj) : WT (w.alloc o) := h.below ((Below.refl _ _).alloc (Nat.le_refl _) o)

/-- a parser that lies at g and has these words left, and the tables -/
def PW (w : World) (g : Nat) (ws : List Str) : Prop := Pz w g ws ∧ WT w ∧ NT g
theorem PW.below {w w' : World} {g : Nat} {ws : List Str} (h : PW w g ws) (hb : Below w.heap.size w w') : PW w' g ws := ⟨h.1.below hb, h.2.1.below hb, h.2.2⟩
theorem PW.drewN {w : World} {g : Nat} {ws : List Str} (h : PW w g ws) (k : Nat) : PW (w.drewN k) g ws := ⟨h.1.drewN k, h.2.1.drewN k, h.2.2⟩
theorem PW.alloc {w : World} {g : Nat} {ws : List Str} (h : PW w g ws) (o : Obj) : PW (w.alloc o) g ws := h.below ((Below.refl _ _).alloc (Nat.le_refl _) o)
theorem PW.lt {w : World} {g : Nat} {ws : List Str} (h : PW w g ws) : g < w.heap.size := by
  obtain ⟨⟨A, n, c, hB, _⟩, _⟩ := h
  exact hB.lt

theorem takeW (g : Nat) (x : Str) (ws : List Str) (w : World) (h : PW w g ws) :
    Calls Tryz.prog 127 #[.pointer (some ⟨g, 0, none⟩), .string ⟨x.toArray⟩] w fun e w' => e = .returned (.bool (tkB x ws)) ∧ PW w' g (tkR x ws) ∧ Upto g w w' :=
  (take_any g x ws w h.1).mono fun _ _ ⟨h1, h2, h3⟩ => ⟨h1, ⟨h2, h.2.1.upto h.2.2 h3, h.2.2⟩, h3⟩

/-- a name of numbers: what a function value answers -/
def Nm (fid : Nat) (nm : Nat → Str) (lo hi : Nat) : Prop := ∀ n, lo ≤ n → n ≤ hi → ∀ w, WT w → Calls Tryz.prog fid #[.int .i64 (n : Int)] w fun e w' => e = .returned (.string ⟨(nm n).toArray⟩) ∧ w = w'
theorem small_any : Nm 177 smallN 0 19 := by
  intro n _ h w hT
  have hc := hT.small n (by omega)
  have h1 : (0 : Int) ≤ (n : Int) := by omega
  have h2 : (n : Int) < 20 := by omega
  have h3 : n < 20 := by omega
  go_enter Tryz.func177, Tryz.ntmps177
  go_wp2
  go_ret
  exact ⟨rfl, rfl⟩
theorem tens_any : Nm 175 tensN 2 9 := by
  intro n h0 h w hT
  have hc := hT.tens (n - 2) (by omega)
  obtain ⟨k, hk⟩ : ∃ k, n - 2 = k := ⟨_, rfl⟩
  have hw : IntKind.i64.wrap ((n : Int) - 2) = (k : Int) := by rw [IntWalk.i64_in _ (by omega)]; omega
  have h1 : (0 : Int) ≤ (k : Int) := by omega
  have h2 : (k : Int) < 8 := by omega
  have h3 : k < 8 := by omega
  have hn := Lib.hid (show tensN n = tensL.getD k [] by unfold tensN; rw [hk])
  rw [hk] at hc
  clear hk
  go_enter Tryz.func175, Tryz.ntmps175
  go_wp2
  go_ret
  exact ⟨ret_str hn.out.symm, rfl⟩
theorem month_any : Nm 149 monthN 1 12 := by
  intro n h0 h w hT
  have hc := hT.months (n - 1) (by omega)
  obtain ⟨k, hk⟩ : ∃ k, n - 1 = k := ⟨_, rfl⟩
  have hw : IntKind.i64.wrap ((n : Int) - 1) = (k : Int) := by rw [IntWalk.i64_in _ (by omega)]; omega
  have h1 : (0 : Int) ≤ (k : Int) := by omega
  have h2 : (k : Int) < 12 := by omega
  have h3 : k < 12 := by omega
  have hn := Lib.hid (show monthN n = monthsL.getD k [] by unfold monthN; rw [hk])
  rw [hk] at hc
  clear hk
  go_enter Tryz.func149, Tryz.ntmps149
  go_wp2
  go_ret
  exact ⟨ret_str hn.out.symm, rfl⟩
end Go.Proofs.YtpdfjlbfhnapkaaGreatDoor
