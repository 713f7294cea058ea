/- Slices of integers in memory: what they read as, and what keeps that. Nothing here speaks of a program's own functions. -/
import Derived.WalkKit
import Derived.Lib.Hide
import Derived.Deep.Draws
import Derived.Laws.MakeOwn
import Derived.OwnWalk
import Derived.Test.YtoljffghaklpdaaDoorChecked
import Derived.WalkSpells
import Derived.IntWalk
import Derived.BigQuiet
import Derived.Deep.QuietTactic
import Derived.RangeFuncOwn
import Derived.RangeFuncBox
import Derived.Maps.AppendAt
namespace Go.Proofs.YtoljffghaklpdaaDoor
open Go.RowKit

theorem block_of_add (a : Addr) (n : Nat) : (a.add n).block = a.block := by unfold Addr.add; split <;> rfl
theorem add_of_add (a : Addr) (i j : Nat) : (a.add i).add j = a.add (i + j) := by
  unfold Addr.add
  by_cases hi : i = 0 <;> by_cases hj : j = 0 <;> simp [hi, hj, Nat.add_assoc]
theorem add_new (g j : Nat) : (⟨g, 0, none⟩ : Addr).add j = ⟨g, j, none⟩ := by
  unfold Addr.add
  split
  · subst j; rfl
  · simp

theorem getD_in {xs : List Int} {i : Nat} (h : i < xs.length) : xs.getD i 0 = xs[i] := by simp [List.getD_eq_getElem?_getD, h]
theorem getD_out {xs : List Int} {i : Nat} (h : xs.length ≤ i) : xs.getD i 0 = 0 := by simp [List.getD_eq_getElem?_getD, List.getElem?_eq_none h]
theorem lt_of_some {α : Type} {xs : List α} {j : Nat} {x : α} (h : xs[j]? = some x) : j < xs.length := by
  rcases Nat.lt_or_ge j xs.length with h2 | h2
  · exact h2
  · rw [List.getElem?_eq_none h2] at h; cases h

/-- the cells of integers of a kind -/
def ivs (k : IntKind) (xs : List Int) : List Value := xs.map fun (x : Int) => Value.int k x
theorem ivs_len (k : IntKind) (xs : List Int) : (ivs k xs).length = xs.length := by simp [ivs]
theorem ivs_snoc (k : IntKind) (xs : List Int) (x : Int) : ivs k (xs ++ [x]) = ivs k xs ++ [.int k x] := by simp [ivs]
theorem ivs_app (k : IntKind) (xs ys : List Int) : ivs k (xs ++ ys) = ivs k xs ++ ivs k ys := by simp [ivs]
theorem oneCell_ivs (k : IntKind) (xs : List Int) : ∀ u ∈ ivs k xs, u.oneCell' = true := by
  intro u hu
  simp only [ivs, List.mem_map] at hu
  obtain ⟨x, _, rfl⟩ := hu
  rfl

/-- the slice value with address A, length n and capacity c reads as the list xs of integers of the kind k -/
structure Sl (k : IntKind) (w : World) (A : Option Addr) (n c : Nat) (xs : List Int) : Prop where
  len : xs.length = n
  cap : n ≤ c
  top : c ≤ 9223372036854775807
  cell : 0 < n → ∃ ad, A = some ad ∧ ∀ (j : Nat) (x : Int), xs[j]? = some x → w.cell? (ad.add j) = some (.int k x)

section
variable {k : IntKind} {w w' : World} {A : Option Addr} {n c : Nat} {xs : List Int}
theorem Sl.at_ (h : Sl k w A n c xs) {j : Nat} (hj : j < n) : ∃ ad x, A = some ad ∧ w.cell? (ad.add j) = some (.int k x) ∧ Hid (xs.getD j 0 = x) := by
  obtain ⟨ad, e, hc⟩ := h.cell (by omega)
  have hl : j < xs.length := by rw [h.len]; exact hj
  exact ⟨ad, xs[j], e, hc j _ (List.getElem?_eq_getElem hl), getD_in hl⟩
theorem Sl.keep (h : Sl k w A n c xs) (hk : ∀ p : Addr, p.block < w.heap.size → w'.cell? p = w.cell? p) : Sl k w' A n c xs :=
  ⟨h.len, h.cap, h.top, fun hn => by
    obtain ⟨ad, e, hc⟩ := h.cell hn
    exact ⟨ad, e, fun j x hx => by
      have := hc j x hx
      rw [hk _ (World.block_lt_of_cell? _ _ this)]; exact this⟩⟩
theorem Sl.below (h : Sl k w A n c xs) (hb : Below w.heap.size w w') : Sl k w' A n c xs := h.keep fun _ hp => hb.cell hp
theorem Sl.drew (h : Sl k w A n c xs) : Sl k w.drew A n c xs := ⟨h.len, h.cap, h.top, h.cell⟩
theorem Sl.drewN (h : Sl k w A n c xs) (i : Nat) : Sl k (w.drewN i) A n c xs := ⟨h.len, h.cap, h.top, h.cell⟩
theorem Sl.alloc (h : Sl k w A n c xs) (o : Obj) : Sl k (w.alloc o) A n c xs := h.keep fun p hp => World.cell?_alloc_lt w o p hp
theorem Sl.take (h : Sl k w A n c xs) {m : Nat} (hm : m ≤ n) : Sl k w A m c (xs.take m) :=
  ⟨by rw [List.length_take, h.len]; omega, by have := h.cap; omega, h.top, fun hp => by
    obtain ⟨ad, e, hc⟩ := h.cell (by omega)
    exact ⟨ad, e, fun j x hx => hc j x (by
      rw [List.getElem?_take] at hx
      split at hx
      · exact hx
      · cases hx)⟩⟩
theorem Sl.cut (h : Sl k w A n c xs) {m : Nat} (hm : m ≤ n) : Sl k w (if c = m then A else A.map (·.add m)) (n - m) (c - m) (xs.drop m) :=
  ⟨by rw [List.length_drop, h.len], by have := h.cap; omega, by have := h.top; omega, fun hp => by
    obtain ⟨ad, rfl, hc⟩ := h.cell (by omega)
    have := h.cap
    rw [if_neg (by omega)]
    refine ⟨ad.add m, rfl, fun j x hx => ?_⟩
    rw [add_of_add]
    exact hc _ x (by rw [← hx, List.getElem?_drop])⟩
theorem Sl.nil (k : IntKind) (w : World) : Sl k w none 0 0 [] := ⟨rfl, Nat.le_refl _, by decide, fun h => absurd h (by omega)⟩
theorem Sl.farn (h : Sl k w A n c xs) {g : Nat} (hf : 0 < n → ∀ ad, A = some ad → ad.block ≠ g) (i : Nat) (u : Value) : Sl k (w.setCell ⟨g, i, none⟩ u) A n c xs :=
  ⟨h.len, h.cap, h.top, fun hp => by
    obtain ⟨ad, e, hc⟩ := h.cell hp
    refine ⟨ad, e, fun j x hx => ?_⟩
    rw [World.cell?_setCell_other w _ _ u (fun e2 => by have h2 := congrArg Addr.block e2; rw [block_of_add] at h2; exact hf hp ad e h2.symm)]
    exact hc j x hx⟩
theorem Sl.blt (h : Sl k w A n c xs) (hn : 0 < n) : ∀ ad, A = some ad → ad.block < w.heap.size := by
  intro ad he
  obtain ⟨ad', x, e, hc, _⟩ := h.at_ hn
  rw [he] at e
  injection e with e
  subst e
  have := World.block_lt_of_cell? _ _ hc
  rwa [block_of_add] at this
theorem Sl.ne_new (h : Sl k w A n c xs) {g : Nat} (hg : w.heap.size ≤ g) : 0 < n → ∀ ad, A = some ad → ad.block ≠ g := fun hn ad he => by
  have := h.blt hn ad he
  omega
theorem Sl.news {ad : Addr} (h : Sl k w (some ad) n c xs) : ∀ j u, (ivs k xs)[j]? = some u → w.cell? (ad.add j) = some u := by
  intro j u hu
  simp only [ivs, List.getElem?_map, Option.map_eq_some_iff] at hu
  obtain ⟨x, hx, rfl⟩ := hu
  have hn : 0 < n := by have := lt_of_some hx; rw [h.len] at this; omega
  obtain ⟨ad', e, hc⟩ := h.cell hn
  injection e with e
  subst e
  exact hc j x hx
theorem Sl.of_own {base e : Nat} {v : Value} (h : w.ownsRow base e 1 v n (ivs k xs)) : ∃ A c, v = .slice A n c ∧ Sl k w A n c xs := by
  obtain ⟨hl, h2⟩ := h
  have hn : xs.length = n := by rw [ivs_len] at hl; omega
  rcases h2 with ⟨rfl, rfl⟩ | ⟨g, cap, cur, rfl, h3, h4, h5, h6, h7, h8⟩
  · exact ⟨none, 0, rfl, hn, Nat.le_refl _, by decide, fun h => absurd h (by omega)⟩
  · refine ⟨some ⟨g, 0, none⟩, cap, rfl, hn, h5, by simpa [maxLen] using h6, fun hp => ⟨_, rfl, fun j x hx => ?_⟩⟩
    have hown : w.ownsRow base e 1 (.slice (some ⟨g, 0, none⟩) n cap) n (ivs k xs) := ⟨hl, .inr ⟨g, cap, cur, rfl, h3, h4, h5, h6, h7, h8⟩⟩
    exact hown.cells (g := g) rfl j _ (by simp [ivs, hx])
end

/-- block g holds just these cells, none frozen -/
def Blk (w : World) (g : Nat) (t : TypeId) (cs : Array Value) : Prop := w.heap[g]? = some (.cells cs t (0, 0))
section
variable {w w' : World} {g : Nat} {t : TypeId} {cs : Array Value}
theorem Blk.lt (h : Blk w g t cs) : g < w.heap.size := by
  rcases Nat.lt_or_ge g w.heap.size with hlt | hge
  · exact hlt
  · unfold Blk at h; rw [Array.getElem?_eq_none hge] at h; cases h
theorem Blk.cell (h : Blk w g t cs) (i : Nat) : w.cell? ⟨g, i, none⟩ = cs[i]? := cell_of_row w g i cs t (0, 0) h
theorem Blk.frozen (h : Blk w g t cs) (i : Nat) : w.frozen? ⟨g, i, none⟩ = false := by
  unfold Blk at h
  simp [World.frozen?, h]
theorem Blk.new (w : World) (t : TypeId) (cs : Array Value) : Blk (w.alloc (.cells cs t)) w.heap.size t cs := heap_alloc_new w _
theorem Blk.drew (h : Blk w g t cs) : Blk w.drew g t cs := h
theorem Blk.drewN (h : Blk w g t cs) (n : Nat) : Blk (w.drewN n) g t cs := h
theorem Blk.alloc (h : Blk w g t cs) (o : Obj) : Blk (w.alloc o) g t cs := (Below.heap_alloc w o g h.lt).trans h
theorem Blk.set_ (h : Blk w g t cs) (i : Nat) (u : Value) : Blk (w.setCell ⟨g, i, none⟩ u) g t (cs.setIfInBounds i u) := by
  unfold Blk at h ⊢
  simp [World.setCell, Array.getElem?_modify, h]
theorem Blk.far (h : Blk w g t cs) {p : Addr} (hp : g ≠ p.block) (u : Value) : Blk (w.setCell p u) g t cs := (Below.heap_setCell w p u g hp).trans h
theorem Blk.below (h : Blk w g t cs) (hb : Below w.heap.size w w') : Blk w' g t cs := (hb.block g h.lt).trans h
theorem Blk.grown {row : Option Nat} (h : Blk w g t cs) (hb : w.grownBy w' row) (hg : some g ≠ row) : Blk w' g t cs := (hb.block g h.lt hg).trans h
end

/-- block g begins with the integers xs of the kind k, none frozen -/
def Mk (w : World) (g : Nat) (t : TypeId) (k : IntKind) (xs : List Int) : Prop := Blk w g t (ivs k xs).toArray
section
variable {w w' : World} {g : Nat} {t : TypeId} {k : IntKind} {xs : List Int}
theorem Mk.lt (h : Mk w g t k xs) : g < w.heap.size := Blk.lt h
theorem Mk.cell (h : Mk w g t k xs) {i : Nat} (hi : i < xs.length) : w.cell? ⟨g, i, none⟩ = some (.int k (xs.getD i 0)) := by
  rw [Blk.cell h, getD_in hi]
  simp [ivs, hi]
theorem Mk.frozen (h : Mk w g t k xs) (i : Nat) : w.frozen? ⟨g, i, none⟩ = false := Blk.frozen h i
theorem Mk.new (w : World) (t : TypeId) (k : IntKind) (xs : List Int) : Mk (w.alloc (.cells (ivs k xs).toArray t)) w.heap.size t k xs := Blk.new _ _ _
theorem Mk.drew (h : Mk w g t k xs) : Mk w.drew g t k xs := h
theorem Mk.drewN (h : Mk w g t k xs) (n : Nat) : Mk (w.drewN n) g t k xs := h
theorem Mk.alloc (h : Mk w g t k xs) (o : Obj) : Mk (w.alloc o) g t k xs := Blk.alloc h o
theorem Mk.set_ (h : Mk w g t k xs) (i : Nat) (v : Int) : Mk (w.setCell ⟨g, i, none⟩ (.int k v)) g t k (xs.set i v) := by
  have h2 := Blk.set_ h i (.int k v)
  unfold Mk
  rw [show (ivs k (xs.set i v)).toArray = (ivs k xs).toArray.setIfInBounds i (.int k v) by simp [ivs, List.map_set]]
  exact h2
theorem Mk.far (h : Mk w g t k xs) {p : Addr} (hp : g ≠ p.block) (u : Value) : Mk (w.setCell p u) g t k xs := Blk.far h hp u
theorem Mk.below (h : Mk w g t k xs) (hb : Below w.heap.size w w') : Mk w' g t k xs := Blk.below h hb
theorem Mk.sl (h : Mk w g t k xs) {n : Nat} (hn : xs.length = n) (ht : n ≤ 140737488355328) : Sl k w (some ⟨g, 0, none⟩) n n xs :=
  ⟨hn, Nat.le_refl _, by omega, fun _ => ⟨_, rfl, fun j x hx => by
    have hj := lt_of_some hx
    have hc := h.cell hj
    rw [getD_in hj] at hc
    rw [List.getElem?_eq_getElem hj] at hx
    injection hx with hx
    subst hx
    rw [add_new]; exact hc⟩⟩
end

theorem bel_drewN {B : Nat} {a w : World} (h : Below B a w) (n : Nat) : Below B a (w.drewN n) := ⟨h.os, h.tape, h.output, h.size, h.block⟩
theorem bel_grown {w w' : World} (h : w.grownBy w' none) : Below w.heap.size w w' := ⟨h.os, h.tape, h.output, h.size, fun k hk => h.block k hk (by simp)⟩

/-- n zeros -/
def zs (n : Nat) : List Int := List.replicate n 0
theorem zs_len (n : Nat) : (zs n).length = n := List.length_replicate
theorem made_zs (k : IntKind) (n : Nat) : madeCells #[Value.int k 0] n = (ivs k (zs n)).toArray := by
  apply Array.ext
  · simp [size_madeCells, ivs, zs]
  · intro i h1 h2
    simp [madeCells, ivs, zs, Nat.mod_one]

theorem take_snoc {α : Type} {xs : List α} {k : Nat} (h : k < xs.length) : xs.take (k + 1) = xs.take k ++ [xs[k]] := List.take_succ_eq_append_getElem h
theorem take_snocD {xs : List Int} {k : Nat} {x : Int} (h : k < xs.length) (hx : xs.getD k 0 = x) : xs.take (k + 1) = xs.take k ++ [x] := by
  rw [take_snoc h, ← hx, getD_in h]
/-- a list of which the first k elements are done, the rest zeros -/
theorem set_done {ys : List Int} {k n : Nat} {v : Int} (hl : ys.length = k) (hk : k < n) : (ys ++ zs (n - k)).set k v = (ys ++ [v]) ++ zs (n - (k + 1)) := by
  have e : zs (n - k) = 0 :: zs (n - (k + 1)) := by
    unfold zs
    rw [show n - k = (n - (k + 1)) + 1 by omega, List.replicate_succ]
  rw [e, List.set_append_right _ _ (by omega), hl, Nat.sub_self, List.set_cons_zero]
  simp

/-- the call returned a new or nil slice with the integers ys (at most L of them) beside the code; what was there before is as it was -/
def RetL (k : IntKind) (w : World) (ys : List Int) (e : Ending) (w' : World) : Prop :=
  ∃ A m c, e = .returned (.slice A m c) ∧ Sl k w' A m c ys ∧ Below w.heap.size w w' ∧ Hid (∀ ad, A = some ad → w.heap.size ≤ ad.block)
theorem fresh_at {B g : Nat} (h : B ≤ g) : Hid (∀ ad : Addr, some (⟨g, 0, none⟩ : Addr) = some ad → B ≤ ad.block) := fun ad he => by
  injection he with he
  subst he
  exact h
def RetL2 (k : IntKind) (w : World) (ys : List Int) (code : Int) (e : Ending) (w' : World) : Prop :=
  ∃ A m c, e = .returned (.tuple #[.slice A m c, .int .i64 code]) ∧ Sl k w' A m c ys ∧ Below w.heap.size w w'
end Go.Proofs.YtoljffghaklpdaaDoor


/- Checks of lists, division with rounding, lists by their elements, lists being filled. (From the texts of wave.) -/
namespace Go.Proofs.YtoljffghaklpdaaDoor
open Go.RowKit

def okB (lo hi : Int) (x : Int) : Bool := decide (lo ≤ x) && decide (x ≤ hi)
theorem okB_mk {lo hi x : Int} (h1 : lo ≤ x) (h2 : x ≤ hi) : okB lo hi x = true := by unfold okB; rw [decide_eq_true h1, decide_eq_true h2]; rfl
theorem okB_lo {lo hi x : Int} (h1 : ¬ lo ≤ x) : okB lo hi x = false := by unfold okB; rw [decide_eq_false h1]; rfl
theorem okB_hi {lo hi x : Int} (h1 : ¬ x ≤ hi) : okB lo hi x = false := by unfold okB; rw [decide_eq_false h1, Bool.and_false]
theorem okB_iff {lo hi x : Int} : okB lo hi x = true ↔ lo ≤ x ∧ x ≤ hi := by unfold okB; simp

/-- all elements are from lo to hi -/
def allB (lo hi : Int) (xs : List Int) : Bool := xs.all (okB lo hi)
theorem allB_mem {lo hi : Int} {xs : List Int} (h : allB lo hi xs = true) : ∀ x ∈ xs, lo ≤ x ∧ x ≤ hi := fun x hx => okB_iff.1 (List.all_eq_true.1 h x hx)
theorem allB_get {lo hi : Int} {xs : List Int} (h : allB lo hi xs = true) {j : Nat} {x : Int} (hj : j < xs.length) (hx : xs.getD j 0 = x) : lo ≤ x ∧ x ≤ hi := by
  rw [getD_in hj] at hx
  exact allB_mem h x (by rw [← hx]; exact List.getElem_mem hj)
theorem allB_snoc {lo hi : Int} {xs : List Int} {x : Int} : allB lo hi (xs ++ [x]) = (allB lo hi xs && okB lo hi x) := by unfold allB; simp
theorem allB_no {lo hi : Int} {xs : List Int} {k : Nat} {x : Int} (hk : k < xs.length) (hx : xs.getD k 0 = x) (h : okB lo hi x = false) : allB lo hi xs = false := by
  cases ha : allB lo hi xs with
  | false => rfl
  | true =>
    have := allB_get ha hk hx
    rw [okB_iff.2 this] at h
    cases h

theorem ret_bool {a b : Bool} (h : a = b) : Ending.returned (.bool a) = .returned (.bool b) := by rw [h]
theorem ret_int {k : IntKind} {a b : Int} (h : a = b) : Ending.returned (.int k a) = .returned (.int k b) := by rw [h]

theorem within_any (n lo hi : Int) (w : World) : Calls Tryd.prog 72 #[.int .i64 n, .int .i64 lo, .int .i64 hi] w fun e w' => e = .returned (.bool (okB lo hi n)) ∧ w = w' := by
  by_cases h1 : lo ≤ n
  · by_cases h2 : n ≤ hi
    · have hh := Lib.hid (okB_mk h1 h2)
      go_enter Tryd.func72, Tryd.ntmps72
      go_wp2
      go_ret
      exact ⟨ret_bool hh.out.symm, rfl⟩
    · have hh := Lib.hid (okB_hi (lo := lo) h2)
      have hd : decide (n ≤ hi) = false := by simpa using h2
      go_enter Tryd.func72, Tryd.ntmps72
      go_wp2
      go_ret
      exact ⟨ret_bool hh.out.symm, rfl⟩
  · have hh := Lib.hid (okB_lo (hi := hi) h1)
    have hd : decide (lo ≤ n) = false := by simpa using h1
    go_enter Tryd.func72, Tryd.ntmps72
    go_wp2
    go_ret
    exact ⟨ret_bool hh.out.symm, rfl⟩

set_option maxHeartbeats 400000 in
theorem allWithin_any (A : Option Addr) (n c : Nat) (xs : List Int) (lo hi : Int) (w : World) (h : Sl .i64 w A n c xs) :
    Calls Tryd.prog 89 #[.slice A n c, .int .i64 lo, .int .i64 hi] w fun e w' => e = .returned (.bool (allB lo hi xs)) ∧ w = w' := by
  have hl := Lib.hid h.len
  have hcap := h.cap
  have htop := h.top
  go_enter Tryd.func89, Tryd.ntmps89
  go_wp2
  go_loop [11] (fun iv => ∃ k : Nat, k ≤ n ∧ iv = .int .i64 k ∧ Hid (allB lo hi (xs.take k) = true)) (fun iv => n - (intOf iv).toNat)
  case atStart => exact ⟨0, Nat.zero_le _, rfl, rfl⟩
  case round =>
    obtain ⟨k, hk, rfl, ha⟩ := hrel
    rcases Nat.lt_or_ge k n with hlt | hge
    · obtain ⟨ad, x, rfl, hc, hx⟩ := h.at_ hlt
      cases hb : okB lo hi x with
      | true =>
        have hb' := Lib.hid hb
        go_wp2_with (go_at_call 72; refine (within_any _ _ _ _).mono ?_; rintro e w' ⟨rfl, rfl⟩)
        go_round
        case rel => exact ⟨k + 1, by omega, by go_num, show _ = _ by rw [take_snocD (by rw [hl.out]; exact hlt) hx.out, allB_snoc, ha.out, hb'.out]; rfl⟩
        case measure => simp [intOf]; omega
      | false =>
        have hb' := Lib.hid hb
        go_wp2_with (go_at_call 72; refine (within_any _ _ _ _).mono ?_; rintro e w' ⟨rfl, rfl⟩)
        go_ret
        exact ⟨ret_bool (allB_no (by rw [hl.out]; exact hlt) hx.out hb'.out).symm, rfl⟩
    · have hkn : k = n := by omega
      subst hkn
      go_wp2
      go_ret
      exact ⟨ret_bool (by rw [← ha.out, List.take_of_length_le (by rw [hl.out]; exact Nat.le_refl _)]), rfl⟩

def rnd (a b : Int) : Int := if a < 0 then -((2 * -a + b) / (2 * b)) else (2 * a + b) / (2 * b)
theorem rnd_neg {a b : Int} (h : a < 0) : rnd a b = -((2 * -a + b) / (2 * b)) := if_pos h
theorem rnd_pos {a b : Int} (h : 0 ≤ a) : rnd a b = (2 * a + b) / (2 * b) := if_neg (by omega)

theorem rnd_bd {a b : Int} (ha : 0 ≤ a) (hb : 1 ≤ b) : 0 ≤ rnd a b ∧ rnd a b ≤ a := by
  rw [rnd_pos ha]
  refine ⟨Int.ediv_nonneg (by omega) (by omega), ?_⟩
  have h1 : a * 1 ≤ a * b := Int.mul_le_mul_of_nonneg_left hb ha
  have h2 : (2 * a + b) / (2 * b) < a + 1 := Int.ediv_lt_of_lt_mul (by omega) (by
    rw [Int.add_mul, Int.mul_left_comm a 2 b]; omega)
  omega
theorem rnd_opp {a b : Int} (h : a < 0) : rnd a b = -rnd (-a) b := by rw [rnd_neg h, rnd_pos (by omega)]
theorem rnd_abs {a b m : Int} (hb : 1 ≤ b) (h1 : -m ≤ a) (h2 : a ≤ m) : -m ≤ rnd a b ∧ rnd a b ≤ m := by
  by_cases h : 0 ≤ a
  · have := rnd_bd h hb; omega
  · have := rnd_bd (a := -a) (by omega) hb
    rw [rnd_opp (by omega)]; omega

theorem divide_pos (a b : Int) (w : World) (ha : 0 ≤ a) (ha2 : a ≤ 4000000000000000000) (hb : 1 ≤ b) (hb2 : b ≤ 1000000000000000000) :
    Calls Tryd.prog 64 #[.int .i64 a, .int .i64 b] w fun e w' => e = .returned (.int .i64 (rnd a b)) ∧ w = w' := by
  have hh := Lib.hid (rnd_pos (b := b) ha)
  have hd : decide (a < 0) = false := by simpa using ha
  go_enter Tryd.func64, Tryd.ntmps64
  go_wp2
  go_ret
  exact ⟨ret_int hh.out.symm, rfl⟩
theorem divide_any (a b : Int) (w : World) (ha : -4000000000000000000 ≤ a) (ha2 : a ≤ 4000000000000000000) (hb : 1 ≤ b) (hb2 : b ≤ 1000000000000000000) :
    Calls Tryd.prog 64 #[.int .i64 a, .int .i64 b] w fun e w' => e = .returned (.int .i64 (rnd a b)) ∧ w = w' := by
  by_cases h0 : 0 ≤ a
  · exact divide_pos a b w h0 ha2 hb hb2
  · have hn : a < 0 := by omega
    have hh := Lib.hid (rnd_opp (b := b) hn)
    have hbd := Lib.hid (rnd_bd (a := -a) (by omega) hb)
    go_enter Tryd.func64, Tryd.ntmps64
    go_wp2_with fail
    refine (divide_pos _ _ _ (by omega) (by omega) hb hb2).mono ?_
    rintro e w' ⟨rfl, rfl⟩
    have hq1 := hbd.out.1
    have hq2 := hbd.out.2
    go_wp2
    go_ret
    exact ⟨ret_int hh.out.symm, rfl⟩


/-- f at the first n places -/
def tab (n : Nat) (f : Nat → Int) : List Int := (List.range n).map f
theorem tab_len (n : Nat) (f : Nat → Int) : (tab n f).length = n := by simp [tab]
theorem tab_zero (f : Nat → Int) : tab 0 f = [] := rfl
theorem tab_succ (n : Nat) (f : Nat → Int) : tab (n + 1) f = tab n f ++ [f n] := by simp [tab, List.range_succ]
theorem tab_getD {n : Nat} {f : Nat → Int} {i : Nat} (h : i < n) : (tab n f).getD i 0 = f i := by
  rw [getD_in (by rw [tab_len]; exact h)]; simp [tab]
theorem tab_congr {n : Nat} {f g : Nat → Int} (h : ∀ i, i < n → f i = g i) : tab n f = tab n g := by
  induction n with
  | zero => rfl
  | succ n ih => rw [tab_succ, tab_succ, ih (fun i hi => h i (by omega)), h n (by omega)]
theorem tab_self (xs : List Int) : tab xs.length (fun i => xs.getD i 0) = xs := by
  apply List.ext_getElem
  · rw [tab_len]
  · intro i h1 h2
    have := tab_getD (f := fun i => xs.getD i 0) h2
    rw [getD_in h1, getD_in h2] at this
    exact this

/-- block g is being filled with f: k of n places are done; what was there in w is as it was -/
structure Fill (w wr : World) (g : Nat) (t : TypeId) (n k : Nat) (f : Nat → Int) : Prop where
  own : Mk wr g t .i64 (tab k f ++ zs (n - k))
  bel : Below w.heap.size w wr
  new : w.heap.size ≤ g
theorem Fill.cell {w wr : World} {g : Nat} {t : TypeId} {n k : Nat} {f : Nat → Int} (h : Fill w wr g t n k f) (hk : k < n) : ∃ y, wr.cell? ⟨g, k, none⟩ = some (.int .i64 y) :=
  ⟨_, h.own.cell (by simp [tab_len, zs_len]; omega)⟩
theorem Fill.frozen {w wr : World} {g : Nat} {t : TypeId} {n k : Nat} {f : Nat → Int} (h : Fill w wr g t n k f) (i : Nat) : wr.frozen? ⟨g, i, none⟩ = false := h.own.frozen i
theorem Fill.next {w wr : World} {g : Nat} {t : TypeId} {n k : Nat} {f : Nat → Int} (h : Fill w wr g t n k f) (hk : k < n) {v : Int} (hv : v = f k) : Fill w (wr.setCell ⟨g, k, none⟩ (.int .i64 v)) g t n (k + 1) f :=
  ⟨by have := h.own.set_ k v
      rw [set_done (tab_len k f) hk, hv, ← tab_succ] at this
      rw [← hv] at this
      exact this, h.bel.setCell h.new _, h.new⟩
theorem Fill.start {w w1 : World} {t : TypeId} {n g : Nat} {f : Nat → Int} (hb : Below w.heap.size w w1) (hg : w1.heap.size = g) : Fill w (w1.alloc (.cells (ivs .i64 (zs n)).toArray t)) g t n 0 f := by
  subst hg
  exact ⟨by rw [tab_zero, List.nil_append]; exact Mk.new _ _ _ _, hb.alloc hb.size _, hb.size⟩
theorem Fill.done {w wr : World} {g : Nat} {t : TypeId} {n : Nat} {f : Nat → Int} (h : Fill w wr g t n n f) (hn : n ≤ 140737488355328) : Sl .i64 wr (some ⟨g, 0, none⟩) n n (tab n f) := by
  have := h.own
  rw [Nat.sub_self, show zs 0 = [] from rfl, List.append_nil] at this
  exact this.sl (tab_len _ _) hn

theorem info_int : (Tryd.prog.info? 3).map (fun i => (i.zero, i.size, i.bytes)) = some (some (.int .i64 0), 1, 8) := by kernel_rfl
theorem make_int (n : Nat) (hn : n ≤ 17592186044416) (w : World) :
    (Instr.makeSlice 30 (.int .i64 (n : Int)) (.int .i64 (n : Int))).run Tryd.prog w = .ok (.slice (some ⟨w.heap.size, 0, none⟩) n n) (w.alloc (.cells (ivs .i64 (zs n)).toArray 3)) := by
  obtain ⟨i0, hi, hz0, hz1, hz2⟩ := info_parts info_int
  have := run_make (P := Tryd.prog) w 30 3 i0 (.int .i64 0) Tryd.underlying30 hi hz0 .i64 .i64 n n (by omega) (by omega) (by rw [hz2]; omega) (by omega)
  rw [this, hz1]
  have e : Value.cells (Value.int .i64 0) = #[Value.int .i64 0] := rfl
  rw [e, made_zs]
  simp


theorem divideUp_any (a b : Int) (w : World) (ha : 0 ≤ a) (ha2 : a ≤ 4000000000000000000) (hb : 1 ≤ b) (hb2 : b ≤ 1000000000000000000) :
    Calls Tryd.prog 65 #[.int .i64 a, .int .i64 b] w fun e w' => e = .returned (.int .i64 ((a + b - 1) / b)) ∧ w = w' := by
  go_enter Tryd.func65, Tryd.ntmps65
  go_wp2
  go_ret
  exact ⟨rfl, rfl⟩

end Go.Proofs.YtoljffghaklpdaaDoor

namespace Go.Proofs.YtoljffghaklpdaaDoor
open Go.RowKit

theorem dr_add (w : World) (i j : Nat) : (w.drewN i).drewN j = w.drewN (i + j) := by unfold World.drewN; simp [Nat.add_assoc]

def sameB (xs ys : List Int) : Bool := decide (xs = ys)
theorem sameB_yes {xs ys : List Int} (h : xs = ys) : sameB xs ys = true := decide_eq_true h
theorem sameB_no {xs ys : List Int} (h : xs ≠ ys) : sameB xs ys = false := decide_eq_false h

set_option maxHeartbeats 800000 in
theorem Same_any (A A' : Option Addr) (n c n' c' : Nat) (xs ys : List Int) (w : World) (h : Sl .i64 w A n c xs) (h' : Sl .i64 w A' n' c' ys) :
    Calls Tryd.prog 26 #[.slice A n c, .slice A' n' c'] w fun e w' => ∃ k, e = .returned (.bool (sameB xs ys)) ∧ w' = w.drewN k := by
  have hl := Lib.hid h.len
  have hl' := Lib.hid h'.len
  have hcap := h.cap
  have htop := h.top
  have hcap' := h'.cap
  by_cases hn : n = n'
  · subst hn
    go_enter Tryd.func26, Tryd.ntmps26
    go_wp2
    go_loopw [5] (fun iv wr => ∃ k r : Nat, iv = .int .i64 k ∧ k ≤ n ∧ Hid (xs.take k = ys.take k) ∧ wr = w.drewN r) (fun iv _ => n - (intOf iv).toNat)
    case atStart => exact ⟨0, 0, rfl, Nat.zero_le _, rfl, rfl⟩
    case round =>
      obtain ⟨k, r, rfl, hk, he, rfl⟩ := hrel
      have hr := h.drewN r
      have hr' := h'.drewN r
      generalize hw : w.drewN r = w1 at *
      have hw := Lib.hid hw
      rcases Nat.lt_or_ge k n with hlt | hge
      · obtain ⟨ad, x, rfl, hc, hx⟩ := hr.at_ hlt
        obtain ⟨ad', y, rfl, hc', hy⟩ := hr'.at_ hlt
        have i1 : (k : Int) < (n : Int) := by omega
        by_cases hxy : x = y
        · subst hxy
          have hs := Lib.hid (show xs.take (k + 1) = ys.take (k + 1) by rw [take_snocD (by rw [hl.out]; exact hlt) hx.out, take_snocD (by rw [hl'.out]; exact hlt) hy.out, he.out])
          go_wp2
          go_quiet (fail)
          go_wp2
          go_roundw
          case rel => exact ⟨k + 1, r + nq, by go_num, hlt, hs.out, by rw [← hw.out]; exact dr_add w r nq⟩
          case measure => simp [intOf]; omega
        · have hs := Lib.hid (sameB_no (xs := xs) (ys := ys) (fun e => hxy (by rw [← hx.out, ← hy.out, e])))
          have hb : (x == y) = false := by simpa using hxy
          have hb' : (x != y) = true := by simpa using hxy
          go_wp2
          go_quiet (fail)
          go_wp2
          go_ret
          exact ⟨r + nq, ret_bool hs.out.symm, by rw [← hw.out]; exact dr_add w r nq⟩
      · have hkn : k = n := by omega
        subst hkn
        have hs := Lib.hid (sameB_yes (xs := xs) (ys := ys) (by have := he.out; rw [List.take_of_length_le (by rw [hl.out]; exact Nat.le_refl _), List.take_of_length_le (by rw [hl'.out]; exact Nat.le_refl _)] at this; exact this))
        go_wp2
        go_ret
        exact ⟨r, ret_bool hs.out.symm, hw.out.symm⟩
  · have hs := Lib.hid (sameB_no (xs := xs) (ys := ys) (fun e => hn (by rw [← hl.out, ← hl'.out, e])))
    have hb : ((n : Int) != (n' : Int)) = true := by simp; omega
    have hb2 : decide (n = n') = false := by simpa using hn
    go_enter Tryd.func26, Tryd.ntmps26
    go_wp2
    go_ret
    exact ⟨0, ret_bool hs.out.symm, rfl⟩

set_option maxHeartbeats 800000 in
theorem All_any (A : Option Addr) (n c : Nat) (xs : List Int) (lo hi : Int) (w : World) (h : Sl .i64 w A n c xs) :
    Calls Tryd.prog 23 #[.slice A n c, .int .i64 lo, .int .i64 hi] w fun e w' => e = .returned (.bool (allB lo hi xs)) ∧ w = w' := by
  have hl := Lib.hid h.len
  have hcap := h.cap
  have htop := h.top
  go_enter Tryd.func23, Tryd.ntmps23
  go_wp2
  go_loop [7] (fun iv => ∃ k : Nat, k ≤ n ∧ iv = .int .i64 k ∧ Hid (allB lo hi (xs.take k) = true)) (fun iv => n - (intOf iv).toNat)
  case atStart => exact ⟨0, Nat.zero_le _, rfl, rfl⟩
  case round =>
    obtain ⟨k, hk, rfl, ha⟩ := hrel
    rcases Nat.lt_or_ge k n with hlt | hge
    · obtain ⟨ad, x, rfl, hc, hx⟩ := h.at_ hlt
      by_cases h1 : lo ≤ x
      · have h1d : decide (x < lo) = false := by simpa using h1
        by_cases h2 : x ≤ hi
        · have h2d : decide (hi < x) = false := by simpa using h2
          have hb := Lib.hid (okB_mk h1 h2)
          go_wp2
          go_round
          case rel => exact ⟨k + 1, by omega, by go_num, show _ = _ by rw [take_snocD (by rw [hl.out]; exact hlt) hx.out, allB_snoc, ha.out, hb.out]; rfl⟩
          case measure => simp [intOf]; omega
        · have hb := Lib.hid (okB_hi (lo := lo) h2)
          have h2' : hi < x := by omega
          go_wp2
          go_ret
          exact ⟨ret_bool (allB_no (by rw [hl.out]; exact hlt) hx.out hb.out).symm, rfl⟩
      · have hb := Lib.hid (okB_lo (hi := hi) h1)
        have h1' : x < lo := by omega
        go_wp2
        go_ret
        exact ⟨ret_bool (allB_no (by rw [hl.out]; exact hlt) hx.out hb.out).symm, rfl⟩
    · have hkn : k = n := by omega
      subst hkn
      go_wp2
      go_ret
      exact ⟨ret_bool (by rw [← ha.out, List.take_of_length_le (by rw [hl.out]; exact Nat.le_refl _)]), rfl⟩
theorem Round_pos (a b : Int) (w : World) (ha : 0 ≤ a) (ha2 : a ≤ 4000000000000000000) (hb : 1 ≤ b) (hb2 : b ≤ 1000000000000000000) :
    Calls Tryd.prog 66 #[.int .i64 a, .int .i64 b] w fun e w' => e = .returned (.int .i64 (rnd a b)) ∧ w = w' := by
  have hh := Lib.hid (rnd_pos (b := b) ha)
  have hd : decide (a < 0) = false := by simpa using ha
  go_enter Tryd.func66, Tryd.ntmps66
  go_wp2
  go_ret
  exact ⟨ret_int hh.out.symm, rfl⟩
theorem Round_any (a b : Int) (w : World) (ha : -4000000000000000000 ≤ a) (ha2 : a ≤ 4000000000000000000) (hb : 1 ≤ b) (hb2 : b ≤ 1000000000000000000) :
    Calls Tryd.prog 66 #[.int .i64 a, .int .i64 b] w fun e w' => e = .returned (.int .i64 (rnd a b)) ∧ w = w' := by
  by_cases h0 : 0 ≤ a
  · exact Round_pos a b w h0 ha2 hb hb2
  · have hn : a < 0 := by omega
    have hh := Lib.hid (rnd_opp (b := b) hn)
    have hbd := Lib.hid (rnd_bd (a := -a) (by omega) hb)
    go_enter Tryd.func66, Tryd.ntmps66
    go_wp2_with fail
    refine (Round_pos _ _ _ (by omega) (by omega) hb hb2).mono ?_
    rintro e w' ⟨rfl, rfl⟩
    have hq1 := hbd.out.1
    have hq2 := hbd.out.2
    go_wp2
    go_ret
    exact ⟨ret_int hh.out.symm, rfl⟩


theorem oneCell1 (y : Int) : ∀ u ∈ ([.int .i64 y] : List Value), u.oneCell' = true := by
  intro u hu
  simp at hu
  subst hu
  rfl
theorem news_one (w : World) (t : TypeId) (y : Value) : ∀ j u, ([y] : List Value)[j]? = some u → (w.alloc (.cells #[y] t)).cell? ((⟨w.heap.size, 0, none⟩ : Addr).add j) = some u := by
  intro j u hu
  rw [add_new, (Blk.new w t #[y]).cell j]
  simpa using hu

end Go.Proofs.YtoljffghaklpdaaDoor

namespace Go.Proofs.YtoljffghaklpdaaDoor
open Go.RowKit
/-- the slice value reads as n rows; row r is the slice value (B r, L r, C r) and reads as X r -/
structure Rs (w : World) (A : Option Addr) (n c : Nat) (B : Nat → Option Addr) (L C : Nat → Nat) (X : Nat → List Int) : Prop where
  cap : n ≤ c
  top : c ≤ 9223372036854775807
  cell : 0 < n → ∃ ad, A = some ad ∧ ∀ r, r < n → w.cell? (ad.add r) = some (.slice (B r) (L r) (C r))
  row : ∀ r, r < n → Sl .i64 w (B r) (L r) (C r) (X r)
  nil : ∀ r, r < n → B r = none → C r = 0
  few : ∀ r, r < n → L r ≤ 17592186044416
theorem Rs.below {w w' : World} {A : Option Addr} {n c : Nat} {B : Nat → Option Addr} {L C : Nat → Nat} {X : Nat → List Int} (h : Rs w A n c B L C X) (hb : Below w.heap.size w w') : Rs w' A n c B L C X :=
  ⟨h.cap, h.top, fun hn => by
    obtain ⟨ad, e, hc⟩ := h.cell hn
    exact ⟨ad, e, fun r hr => by
      have := hc r hr
      rw [hb.cell (World.block_lt_of_cell? _ _ this)]; exact this⟩, fun r hr => (h.row r hr).below hb, h.nil, h.few⟩
theorem Rs.at_ {w : World} {A : Option Addr} {n c : Nat} {B : Nat → Option Addr} {L C : Nat → Nat} {X : Nat → List Int} (h : Rs w A n c B L C X) {r : Nat} (hr : r < n) : ∃ ad, A = some ad ∧ w.cell? (ad.add r) = some (.slice (B r) (L r) (C r)) := by
  obtain ⟨ad, e, hc⟩ := h.cell (by omega)
  exact ⟨ad, e, hc r hr⟩

theorem grown_none {W W' : World} (h : Below W.heap.size W W') : W.grownBy W' none := ⟨h.os, h.tape, h.output, h.size, fun k hk _ => h.block k hk⟩

/-- the cells of a list of n rows of s elements each, row r in block G r -/
def rowV (G : Nat → Nat) (s n : Nat) : List Value := (List.range n).map fun r => .slice (some ⟨G r, 0, none⟩) s s
theorem rowV_len (G : Nat → Nat) (s n : Nat) : (rowV G s n).length = n := by simp [rowV]
theorem rowV_snoc (G : Nat → Nat) (s n g : Nat) : rowV (fun r => if r = n then g else G r) s (n + 1) = rowV G s n ++ [.slice (some ⟨g, 0, none⟩) s s] := by
  unfold rowV
  rw [List.range_succ, List.map_append]
  congr 1
  · apply List.map_congr_left
    intro r hr
    have := List.mem_range.1 hr
    simp [show ¬ r = n by omega]
  · simp
theorem blk_type {W : World} {g g' : Nat} {t e : TypeId} {cs : Array Value} {base size n cap : Nat} {xs : List Value} (h : Blk W g t cs) (ho : W.ownsRow base e size (.slice (some ⟨g', 0, none⟩) n cap) n xs) (hte : t ≠ e) : g ≠ g' := by
  rintro rfl
  rcases ho.2 with ⟨h2, _⟩ | ⟨g2, cap2, cur, h2, h3, h4, _⟩
  · cases h2
  · injection h2 with h5 h6 h7
    injection h5 with h5
    injection h5 with h5
    subst h5
    unfold Blk at h
    rw [h] at h4
    injection h4 with h4
    injection h4 with h4 h6
    exact hte h6
theorem blk_row {W : World} {g : Nat} {t e : TypeId} {cs : Array Value} {base size n : Nat} {V : Value} {xs : List Value} (h : Blk W g t cs) (ho : W.ownsRow base e size V n xs) (hte : t ≠ e) : some g ≠ V.ownBlock := by
  rcases ho.2 with ⟨rfl, _⟩ | ⟨g2, cap2, cur, rfl, _⟩
  · simp [Value.ownBlock]
  · intro e2
    simp only [Value.ownBlock, Option.some.injEq] at e2
    exact blk_type h ho hte e2
theorem Blk.kept {W W' : World} {row : Option Nat} {g : Nat} {t : TypeId} {cs : Array Value} (h : Blk W g t cs) (hg : W.grownBy W' row) (hr : ∀ r, row = some r → ∃ o : Obj, W.heap[r]? = some o ∧ o.isCells = false) : Blk W' g t cs :=
  h.grown hg (fun e => by
    obtain ⟨o, ho, hc⟩ := hr g e.symm
    unfold Blk at h
    rw [h] at ho
    cases ho
    cases hc)
theorem Sl.kept {k : IntKind} {W W' : World} {A : Option Addr} {n c : Nat} {xs : List Int} {row : Option Nat} (h : Sl k W A n c xs) (hg : W.grownBy W' row) (hr : ∀ r, row = some r → ∃ o : Obj, W.heap[r]? = some o ∧ o.isCells = false) : Sl k W' A n c xs :=
  ⟨h.len, h.cap, h.top, fun hn => by
    obtain ⟨ad, e, hc⟩ := h.cell hn
    exact ⟨ad, e, fun j x hx => cell_kept (hc j x hx) hg hr⟩⟩
theorem own_kept {W W' : World} {base e size n : Nat} {V : Value} {xs : List Value} {row : Option Nat} (h : W.ownsRow base e size V n xs) (hg : W.grownBy W' row) (hr : ∀ r, row = some r → ∃ o : Obj, W.heap[r]? = some o ∧ o.isCells = false) : W'.ownsRow base e size V n xs := by
  obtain ⟨hl, h2⟩ := h
  rcases h2 with h2 | ⟨g, cap, cur, rfl, h3, h4, h5⟩
  · exact ⟨hl, .inl h2⟩
  · refine ⟨hl, .inr ⟨g, cap, cur, rfl, h3, ?_, h5⟩⟩
    exact Blk.kept (cs := cur) (t := e) (g := g) h4 hg hr

theorem own_bel {W W' : World} {base e size n : Nat} {V : Value} {xs : List Value} (h : W.ownsRow base e size V n xs) (hb : Below W.heap.size W W') : W'.ownsRow base e size V n xs := own_kept h (grown_none hb) (fun r e => by cases e)
theorem own_cells {W : World} {base e size g n cap : Nat} {xs : List Value} (h : W.ownsRow base e size (.slice (some ⟨g, 0, none⟩) n cap) n xs) : ∃ cur, W.heap[g]? = some (.cells cur e (0, 0)) := by
  rcases h.2 with ⟨h2, _⟩ | ⟨g2, cap2, cur, h2, h3, h4, _⟩
  · cases h2
  · injection h2 with h5 h6 h7
    injection h5 with h5
    injection h5 with h5
    subst h5
    exact ⟨cur, h4⟩
theorem own_blk {W W' : World} {base e size g n cap : Nat} {xs : List Value} (h : W.ownsRow base e size (.slice (some ⟨g, 0, none⟩) n cap) n xs) (hb : W'.heap[g]? = W.heap[g]?) : W'.ownsRow base e size (.slice (some ⟨g, 0, none⟩) n cap) n xs := by
  obtain ⟨hl, h2⟩ := h
  rcases h2 with h2 | ⟨g2, cap2, cur, h2, h3, h4, h5⟩
  · exact ⟨hl, .inl h2⟩
  · injection h2 with h6 h7 h8
    injection h6 with h6
    injection h6 with h6
    subst h6 h8
    exact ⟨hl, .inr ⟨g, cap, cur, rfl, h3, hb.trans h4, h5⟩⟩
theorem blk_ne {W : World} {g g' : Nat} {t t' : TypeId} {cs cs' : Array Value} (h : Blk W g t cs) (h' : Blk W g' t' cs') (ht : t ≠ t') : g ≠ g' := by
  rintro rfl
  unfold Blk at h h'
  rw [h] at h'
  injection h' with h'
  injection h' with h1 h2
  exact ht h2
theorem Rs.kept {W W' : World} {A : Option Addr} {n c : Nat} {B : Nat → Option Addr} {L C : Nat → Nat} {X : Nat → List Int} {row : Option Nat} (h : Rs W A n c B L C X) (hg : W.grownBy W' row) (hr : ∀ r, row = some r → ∃ o : Obj, W.heap[r]? = some o ∧ o.isCells = false) : Rs W' A n c B L C X :=
  ⟨h.cap, h.top, fun hn => by
    obtain ⟨ad, e, hc⟩ := h.cell hn
    exact ⟨ad, e, fun r hlt => cell_kept (hc r hlt) hg hr⟩, fun r hlt => (h.row r hlt).kept hg hr, h.nil, h.few⟩
/-- a list of the call's own of t rows of the call's own -/
structure OwnRs (W : World) (base : Nat) (V : Value) (t : Nat) (G : Nat → Nat) (s : Nat) (X : Nat → List Int) : Prop where
  own : W.ownsRow base 30 1 V t (rowV G s t)
  mks : ∀ r, r < t → Mk W (G r) 3 .i64 (X r)
  len : ∀ r, r < t → (X r).length = s
theorem OwnRs.rs {W : World} {base : Nat} {V : Value} {t : Nat} {G : Nat → Nat} {s : Nat} {X : Nat → List Int} (h : OwnRs W base V t G s X) (hs : s ≤ 17592186044416) : ∃ A c, V = .slice A t c ∧ Rs W A t c (fun r => some ⟨G r, 0, none⟩) (fun _ => s) (fun _ => s) X := by
  rcases h.own.2 with ⟨rfl, rfl⟩ | ⟨g, cap, cur, rfl, h3, h4, h5, h6, h7, h8⟩
  · exact ⟨none, 0, rfl, ⟨Nat.le_refl _, by decide, fun h => absurd h (by omega), fun r h => absurd h (by omega), fun r h => absurd h (by omega), fun r h => absurd h (by omega)⟩⟩
  · refine ⟨some ⟨g, 0, none⟩, cap, rfl, ⟨h5, by simpa [maxLen] using h6, fun hn => ⟨_, rfl, fun r hr => ?_⟩, fun r hr => (h.mks r hr).sl (h.len r hr) (by omega), fun r hr e => (by cases e), fun r hr => hs⟩⟩
    have := h.own.cells (g := g) rfl r (.slice (some ⟨G r, 0, none⟩) s s) (by simp [rowV, hr])
    exact this

/-- the call returned rows beside a code -/
def RetRs (w : World) (n : Nat) (X : Nat → List Int) (code : Int) (e : Ending) (w' : World) : Prop :=
  ∃ A c B L C, e = .returned (.tuple #[.slice A n c, .int .i64 code]) ∧ Rs w' A n c B L C X ∧ Below w.heap.size w w'
theorem rs_nil (w : World) (X : Nat → List Int) : Rs w none 0 0 (fun _ => none) (fun _ => 0) (fun _ => 0) X :=
  ⟨Nat.le_refl _, by decide, fun h => absurd h (by omega), fun r h => absurd h (by omega), fun r h => absurd h (by omega), fun r h => absurd h (by omega)⟩

theorem Fill.zero {w wr : World} {g : Nat} {t : TypeId} {n k : Nat} {f : Nat → Int} (h : Fill w wr g t n k f) (hk : k < n) (hf : f k = 0) : Fill w wr g t n (k + 1) f :=
  ⟨by have h2 := h.own
      rw [show tab (k + 1) f ++ zs (n - (k + 1)) = tab k f ++ zs (n - k) by
        rw [tab_succ, hf, List.append_assoc]
        congr 1
        rw [show n - k = (n - (k + 1)) + 1 by omega]
        rfl]
      exact h2, h.bel, h.new⟩
theorem OwnRs.below {W W' : World} {base : Nat} {V : Value} {t : Nat} {G : Nat → Nat} {s : Nat} {X : Nat → List Int} (h : OwnRs W base V t G s X) (hb : Below W.heap.size W W') : OwnRs W' base V t G s X :=
  ⟨own_bel h.own hb, fun r hr => (h.mks r hr).below hb, h.len⟩
theorem OwnRs.nil_ (W : World) (base s : Nat) (X : Nat → List Int) : OwnRs W base (.slice none 0 0) 0 (fun _ => 0) s X :=
  ⟨World.ownsRow_nil _ _ _ _, fun r h => absurd h (by omega), fun r h => absurd h (by omega)⟩
/-- a row of the call's own is appended -/
theorem OwnRs.push {W w5 : World} {base : Nat} {V : Value} {t : Nat} {G : Nat → Nat} {s g g' cap : Nat} {X : Nat → List Int} {o : Obj} (h : OwnRs W base V t G s X) (hG : Mk W g 3 .i64 (X t)) (hl : (X t).length = s)
    (hown : w5.ownsRow base 30 1 (.slice (some ⟨g', 0, none⟩) (t + 1) cap) (t + 1) (rowV G s t ++ [.slice (some ⟨g, 0, none⟩) s s])) (hgr : (W.alloc o).grownBy w5 V.ownBlock) :
    OwnRs w5 base (.slice (some ⟨g', 0, none⟩) (t + 1) cap) (t + 1) (fun r => if r = t then g else G r) s X := by
  refine ⟨by rw [rowV_snoc]; exact hown, fun r hr => ?_, fun r hr => ?_⟩
  · by_cases hrt : r = t
    · subst hrt
      rw [if_pos rfl]
      exact (Blk.alloc hG o).grown hgr (blk_row hG h.own (by decide))
    · rw [if_neg hrt]
      have hm := h.mks r (by omega)
      exact (Blk.alloc hm o).grown hgr (blk_row hm h.own (by decide))
  · by_cases hrt : r = t
    · subst hrt; exact hl
    · exact h.len r (by omega)

set_option maxHeartbeats 1600000 in
theorem SameLists_eq (A A' : Option Addr) (n c c' : Nat) (B B' : Nat → Option Addr) (L C L' C' : Nat → Nat) (X X' : Nat → List Int) (w : World) (h : Rs w A n c B L C X) (h' : Rs w A' n c' B' L' C' X') (he : ∀ r, r < n → X r = X' r) :
    Calls Tryd.prog 46 #[.slice A n c, .slice A' n c'] w fun e w' => e = .returned (.bool true) ∧ ∃ k, w' = w.drewN k := by
  have hcap := h.cap
  have htop := h.top
  have hcap' := h'.cap
  have he := Lib.hid he
  go_enter Tryd.func46, Tryd.ntmps46
  go_wp2
  go_loopw [5] (fun iv wr => ∃ k r : Nat, iv = .int .i64 k ∧ k ≤ n ∧ wr = w.drewN r) (fun iv _ => n - (intOf iv).toNat)
  case atStart => exact ⟨0, 0, rfl, Nat.zero_le _, rfl⟩
  case round =>
    obtain ⟨k, r, rfl, hk, rfl⟩ := hrel
    rcases Nat.lt_or_ge k n with hlt | hge
    · obtain ⟨ad, rfl, hc⟩ := h.at_ hlt
      obtain ⟨ad', rfl, hc'⟩ := h'.at_ hlt
      have hcr : (w.drewN r).cell? (ad.add k) = some (.slice (B k) (L k) (C k)) := hc
      have hcr' : (w.drewN r).cell? (ad'.add k) = some (.slice (B' k) (L' k) (C' k)) := hc'
      have i0 : (0 : Int) ≤ (k : Int) := by omega
      have i1 : (k : Int) < (n : Int) := by omega
      have hk1 := (h.row k hlt).drewN r
      have hk2 := (h'.row k hlt).drewN r
      generalize hw : w.drewN r = w1 at *
      have hw := Lib.hid hw
      have hs := Lib.hid (fun (i : Nat) => show Calls Tryd.prog 26 #[.slice (B k) (L k) (C k), .slice (B' k) (L' k) (C' k)] (w1.drewN i) (fun e w' => e = .returned (.bool true) ∧ ∃ j, w' = (w1.drewN i).drewN j) from (Same_any _ _ _ _ _ _ _ _ _ (hk1.drewN i) (hk2.drewN i)).mono fun e w' ⟨j, h1, h2⟩ => by
        rw [sameB_yes (he.out k hlt)] at h1
        exact ⟨h1, j, h2⟩)
      clear hk1 hk2
      go_wp2
      go_quiet (first | (go_at_call 26; exact Calls.quiet_of (hs.out _)))
      go_wp2
      go_roundw
      case rel => exact ⟨k + 1, r + nq, by go_num, hlt, by rw [← hw.out]; exact dr_add w r nq⟩
      case measure => simp [intOf]; omega
    · have hkn : k = n := by omega
      subst hkn
      go_wp2
      go_ret
      exact ⟨rfl, r, rfl⟩

/-- element i, 0 behind the end -/
def gD (xs : List Int) (i : Nat) : Int := xs.getD i 0
theorem tab_add (a b : Nat) (f : Nat → Int) : tab (a + b) f = tab a f ++ tab b (fun i => f (a + i)) := by
  induction b with
  | zero => rw [tab_zero, List.append_nil]; rfl
  | succ b ih => rw [← Nat.add_assoc, tab_succ, ih, tab_succ, List.append_assoc]
theorem tab_take {n U : Nat} (h : n ≤ U) (f : Nat → Int) : (tab U f).take n = tab n f := by
  obtain ⟨d, rfl⟩ : ∃ d, U = n + d := ⟨U - n, by omega⟩
  rw [tab_add]
  exact List.take_left' (tab_len _ _)
theorem tab_drop {n U : Nat} (h : n ≤ U) (f : Nat → Int) : (tab U f).drop n = tab (U - n) (fun i => f (n + i)) := by
  obtain ⟨d, rfl⟩ : ∃ d, U = n + d := ⟨U - n, by omega⟩
  rw [tab_add, show n + d - n = d by omega]
  exact List.drop_left' (tab_len _ _)
theorem Rs.drewN {w : World} {A : Option Addr} {n c : Nat} {B : Nat → Option Addr} {L C : Nat → Nat} {X : Nat → List Int} (h : Rs w A n c B L C X) (i : Nat) : Rs (w.drewN i) A n c B L C X := h.below (bel_drewN (Below.refl _ _) i)
theorem Rs.take {w : World} {A : Option Addr} {n c : Nat} {B : Nat → Option Addr} {L C : Nat → Nat} {X : Nat → List Int} (h : Rs w A n c B L C X) {m : Nat} (hm : m ≤ n) : Rs w A m c B L C X :=
  ⟨by have := h.cap; omega, h.top, fun hp => by
    obtain ⟨ad, e, hc⟩ := h.cell (by omega)
    exact ⟨ad, e, fun r hr => hc r (by omega)⟩, fun r hr => h.row r (by omega), fun r hr => h.nil r (by omega), fun r hr => h.few r (by omega)⟩
theorem info_sl : (Tryd.prog.info? 30).map (fun i => (i.zero, i.size, i.bytes)) = some (some (.slice none 0 0), 1, 24) := by kernel_rfl
end Go.Proofs.YtoljffghaklpdaaDoor
