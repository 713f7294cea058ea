/- Readings: how many ways there are, and which; what lies in memory. -/
import Derived.Test.YtpdfjlbfhnapkaaGreatDoorTP
namespace Go.Proofs.YtpdfjlbfhnapkaaGreatDoor
open Go.RowKit
set_option linter.unusedSimpArgs false
set_option linter.unusedVariables false
set_option maxRecDepth 100000

/-- how many ways there are to write the rest, at most 501 -/
def wayF (ws : List Str) : Nat → Nat → Nat
  | 0, _ => 1
  | k + 1, a => if ws.length ≤ a then 1 else (stepsF ws a).foldl (fun acc s => min (acc + wayF ws k s.2) 501) 0
def way (ws : List Str) (a : Nat) : Nat := wayF ws (ws.length - a) a
theorem foldl_congr {α β : Type} (f g : β → α → β) : ∀ (l : List α) (b : β), (∀ x ∈ l, ∀ b, f b x = g b x) → l.foldl f b = l.foldl g b := by
  intro l
  induction l with
  | nil => intro b _; rfl
  | cons x xs ih =>
    intro b h
    rw [List.foldl_cons, List.foldl_cons, h x List.mem_cons_self, ih _ (fun y hy => h y (List.mem_cons_of_mem _ hy))]
theorem wayF_fuel (ws : List Str) : ∀ k a, ws.length - a ≤ k → ∀ j, ws.length - a ≤ j → wayF ws k a = wayF ws j a := by
  intro k
  induction k with
  | zero =>
    intro a h j _
    cases j with
    | zero => rfl
    | succ j => show 1 = if ws.length ≤ a then 1 else _; rw [if_pos (by omega)]
  | succ k ih =>
    intro a h j hj
    by_cases ha : ws.length ≤ a
    · cases j with
      | zero => show (if ws.length ≤ a then 1 else _) = 1; rw [if_pos ha]
      | succ j => show (if ws.length ≤ a then 1 else _) = (if ws.length ≤ a then 1 else _); rw [if_pos ha, if_pos ha]
    · cases j with
      | zero => omega
      | succ j =>
        show (if ws.length ≤ a then 1 else _) = (if ws.length ≤ a then 1 else _)
        rw [if_neg ha, if_neg ha]
        refine foldl_congr _ _ _ _ (fun x hx b => ?_)
        have := stepsF_in (by omega : a < ws.length) x hx
        show min (b + wayF ws k x.2) 501 = min (b + wayF ws j x.2) 501
        rw [ih x.2 (by omega) j (by omega)]
theorem way_end (ws : List Str) {a : Nat} (h : ws.length ≤ a) : way ws a = 1 := by
  unfold way
  rw [show ws.length - a = 0 by omega]; rfl
theorem way_at (ws : List Str) {a : Nat} (h : a < ws.length) : way ws a = (stepsF ws a).foldl (fun acc s => min (acc + way ws s.2) 501) 0 := by
  unfold way
  obtain ⟨k, hk⟩ : ∃ k, ws.length - a = k + 1 := ⟨ws.length - a - 1, by omega⟩
  rw [hk]
  show (if ws.length ≤ a then 1 else _) = _
  rw [if_neg (by omega)]
  refine foldl_congr _ _ _ _ (fun x hx b => ?_)
  have := stepsF_in h x hx
  show min (b + wayF ws k x.2) 501 = min (b + wayF ws (ws.length - x.2) x.2) 501
  rw [wayF_fuel ws k x.2 (by omega) (ws.length - x.2) (by omega)]
theorem wayfold_le (ws : List Str) : ∀ (l : List (Str × Nat)) (b : Nat), b ≤ 501 → l.foldl (fun acc s => min (acc + way ws s.2) 501) b ≤ 501 := by
  intro l
  induction l with
  | nil => intro b h; exact h
  | cons x xs ih => intro b _; rw [List.foldl_cons]; exact ih _ (by omega)
theorem way_le (ws : List Str) (a : Nat) : way ws a ≤ 501 := by
  by_cases h : ws.length ≤ a
  · rw [way_end ws h]; decide
  · rw [way_at ws (by omega)]; exact wayfold_le ws _ _ (by decide)
/-- the readings of the rest, part by part -/
def rdF (ws : List Str) : Nat → Nat → List (List Str)
  | 0, _ => [[]]
  | k + 1, a => if ws.length ≤ a then [[]] else (stepsF ws a).flatMap fun s => if 0 < way ws s.2 then (rdF ws k s.2).map (s.1 :: ·) else []
def rd (ws : List Str) (a : Nat) : List (List Str) := rdF ws (ws.length - a) a
theorem flatMap_congr' {α β : Type} {f g : α → List β} : ∀ (l : List α), (∀ x ∈ l, f x = g x) → l.flatMap f = l.flatMap g := by
  intro l
  induction l with
  | nil => intro _; rfl
  | cons x xs ih => intro h; rw [List.flatMap_cons, List.flatMap_cons, h x List.mem_cons_self, ih (fun y hy => h y (List.mem_cons_of_mem _ hy))]
theorem rdF_fuel (ws : List Str) : ∀ k a, ws.length - a ≤ k → ∀ j, ws.length - a ≤ j → rdF ws k a = rdF ws j a := by
  intro k
  induction k with
  | zero =>
    intro a h j _
    cases j with
    | zero => rfl
    | succ j => show [[]] = if ws.length ≤ a then [[]] else _; rw [if_pos (by omega)]
  | succ k ih =>
    intro a h j hj
    by_cases ha : ws.length ≤ a
    · cases j with
      | zero => show (if ws.length ≤ a then [[]] else _) = [[]]; rw [if_pos ha]
      | succ j => show (if ws.length ≤ a then [[]] else _) = (if ws.length ≤ a then [[]] else _); rw [if_pos ha, if_pos ha]
    · cases j with
      | zero => omega
      | succ j =>
        show (if ws.length ≤ a then [[]] else _) = (if ws.length ≤ a then [[]] else _)
        rw [if_neg ha, if_neg ha]
        refine flatMap_congr' _ (fun x hx => ?_)
        have := stepsF_in (by omega : a < ws.length) x hx
        rw [ih x.2 (by omega) j (by omega)]
theorem rd_end (ws : List Str) {a : Nat} (h : ws.length ≤ a) : rd ws a = [[]] := by
  unfold rd
  rw [show ws.length - a = 0 by omega]; rfl
theorem rd_at (ws : List Str) {a : Nat} (h : a < ws.length) : rd ws a = (stepsF ws a).flatMap fun s => if 0 < way ws s.2 then (rd ws s.2).map (s.1 :: ·) else [] := by
  unfold rd
  obtain ⟨k, hk⟩ : ∃ k, ws.length - a = k + 1 := ⟨ws.length - a - 1, by omega⟩
  rw [hk]
  show (if ws.length ≤ a then [[]] else _) = _
  rw [if_neg (by omega)]
  refine flatMap_congr' _ (fun x hx => ?_)
  have := stepsF_in h x hx
  rw [rdF_fuel ws k x.2 (by omega) (ws.length - x.2) (by omega)]
/-- so many ways as readings -/
theorem way_rd (ws : List Str) : ∀ k a, ws.length - a ≤ k → way ws a = min (rd ws a).length 501 := by
  intro k
  induction k with
  | zero => intro a h; rw [way_end ws (by omega), rd_end ws (by omega)]; rfl
  | succ k ih =>
    intro a h
    by_cases ha : ws.length ≤ a
    · rw [way_end ws ha, rd_end ws ha]; rfl
    · rw [way_at ws (by omega), rd_at ws (by omega)]
      have key : ∀ (l : List (Str × Nat)) (b n : Nat), (∀ x ∈ l, way ws x.2 = min (rd ws x.2).length 501) → b = min n 501 → l.foldl (fun acc s => min (acc + way ws s.2) 501) b = min (n + (l.flatMap fun s => if 0 < way ws s.2 then (rd ws s.2).map (s.1 :: ·) else []).length) 501 := by
        intro l
        induction l with
        | nil => intro b n _ hb; simp [hb]
        | cons x xs ih2 =>
          intro b n hx hb
          rw [List.foldl_cons, List.flatMap_cons, List.length_append]
          have h1 := hx x List.mem_cons_self
          rw [ih2 (min (b + way ws x.2) 501) (n + (if 0 < way ws x.2 then (rd ws x.2).map (x.1 :: ·) else []).length) (fun y hy => hx y (List.mem_cons_of_mem _ hy)) (by
            split
            · rw [List.length_map]; omega
            · simp only [List.length_nil]; omega)]
          congr 1
          omega
      have := key (stepsF ws a) 0 0 (fun x hx => by
        have := stepsF_in (by omega : a < ws.length) x hx
        exact ih x.2 (by omega)) (by decide)
      rw [this, Nat.zero_add]
/-- what lies in memory: the ways from some word on, and how many -/
structure St (ws : List Str) (w2 : World) (g j : Nat) (f : Nat → Int) (wr : World) : Prop where
  rows : ∃ cs : Array Value, Blk wr g 78 cs ∧ cs.size = ws.length ∧ ∀ i, j ≤ i → i < ws.length → ∃ V, cs[i]? = some V ∧ wr.ownsRow (g + 2) 81 2 V (stepsF ws i).length (spv (stepsF ws i))
  ways : ∃ ys : List Int, Mk wr (g + 1) 3 .i64 ys ∧ ys.length = ws.length + 1 ∧ ∀ i, i ≤ ws.length → ys[i]? = some (f i)
  bel : Below g w2 wr
  big : g + 2 ≤ wr.heap.size
section
variable {ws : List Str} {w2 wr wx : World} {g j : Nat} {f : Nat → Int}
theorem St.below (h : St ws w2 g j f wr) (hb : Below wr.heap.size wr wx) : St ws w2 g j f wx := by
  obtain ⟨⟨cs, hB, hc, hr⟩, ⟨ys, hM, hl, hy⟩, hbe, hbg⟩ := h
  exact ⟨⟨cs, hB.below hb, hc, fun i h1 h2 => by obtain ⟨V, h3, h4⟩ := hr i h1 h2; exact ⟨V, h3, own_below h4 hb⟩⟩, ⟨ys, hM.below hb, hl, hy⟩, hbe.trans (hb.mono (by omega)), Nat.le_trans hbg hb.size⟩
theorem St.drewN (h : St ws w2 g j f wr) (k : Nat) : St ws w2 g j f (wr.drewN k) := h.below (bel_drewN (Below.refl _ _) k)
theorem St.way_ (h : St ws w2 g j f wr) {i : Nat} (hi : i ≤ ws.length) : wr.cell? ⟨g + 1, i, none⟩ = some (.int .i64 (f i)) := by
  obtain ⟨ys, hM, hl, hy⟩ := h.ways
  have h1 := hM.cell (i := i) (by omega)
  rw [List.getD_eq_getElem?_getD, hy i hi] at h1
  exact h1
theorem St.wayz (h : St ws w2 g j f wr) (i : Nat) : wr.frozen? ⟨g + 1, i, none⟩ = false := by
  obtain ⟨ys, hM, _, _⟩ := h.ways
  exact hM.frozen i
theorem St.rowz (h : St ws w2 g j f wr) (i : Nat) : wr.frozen? ⟨g, i, none⟩ = false := by
  obtain ⟨cs, hB, _⟩ := h.rows
  exact hB.frozen i
theorem St.row (h : St ws w2 g j f wr) {i : Nat} (h1 : j ≤ i) (h2 : i < ws.length) : ∃ V, wr.cell? ⟨g, i, none⟩ = some V ∧ wr.ownsRow (g + 2) 81 2 V (stepsF ws i).length (spv (stepsF ws i)) := by
  obtain ⟨cs, hB, _, hr⟩ := h.rows
  obtain ⟨V, h3, h4⟩ := hr i h1 h2
  exact ⟨V, (hB.cell i).trans h3, h4⟩
theorem St.setw (h : St ws w2 g j f wr) (i : Nat) (hi : i ≤ ws.length) (v : Int) : St ws w2 g j (fun k => if k = i then v else f k) (wr.setCell ⟨g + 1, i, none⟩ (.int .i64 v)) := by
  obtain ⟨⟨cs, hB, hc, hr⟩, ⟨ys, hM, hl, hy⟩, hbe, hbg⟩ := h
  refine ⟨⟨cs, hB.far (by show g ≠ g + 1; omega) _, hc, fun k h1 h2 => ?_⟩, ⟨ys.set i v, hM.set_ i v, by rw [List.length_set]; exact hl, fun k hk => ?_⟩, hbe.setCell (by show g ≤ g + 1; omega) _, by rw [World.size_setCell]; exact hbg⟩
  · obtain ⟨V, h3, h4⟩ := hr k h1 h2
    exact ⟨V, h3, own_grown h4 (grown_set wr (g + 1) i _) (fun q e => by injection e with e; omega)⟩
  · rw [List.getElem?_set]
    by_cases e : i = k
    · subst e; simp; omega
    · rw [if_neg e, if_neg (fun e2 => e e2.symm)]; exact hy k hk
theorem St.setr (h : St ws w2 g (j + 1) f wr) (hj : j < ws.length) {V : Value} (hV : wr.ownsRow (g + 2) 81 2 V (stepsF ws j).length (spv (stepsF ws j))) : St ws w2 g j f (wr.setCell ⟨g, j, none⟩ V) := by
  obtain ⟨⟨cs, hB, hc, hr⟩, ⟨ys, hM, hl, hy⟩, hbe, hbg⟩ := h
  refine ⟨⟨cs.setIfInBounds j V, hB.set_ j V, by simp [hc], fun k h1 h2 => ?_⟩, ⟨ys, hM.far (by show g + 1 ≠ g; omega) _, hl, hy⟩, hbe.setCell (Nat.le_refl _) _, by rw [World.size_setCell]; exact hbg⟩
  have hg := grown_set wr g j V
  by_cases e : j = k
  · subst e
    exact ⟨V, by simp [hc, hj], own_grown hV hg (fun q e => by injection e with e; omega)⟩
  · obtain ⟨V2, h3, h4⟩ := hr k (by omega) h2
    refine ⟨V2, ?_, own_grown h4 hg (fun q e => by injection e with e; omega)⟩
    rw [Array.getElem?_setIfInBounds_ne (by omega)]
    exact h3
end
/-- an append, and what it keeps of the row that it began with -/
theorem run_append_keep {P : Program} (w : World) (base : Nat) (t ty e : TypeId) (i : TypeInfo) (z : Value) (size bytes : Nat) (ht : P.underlying t = some (.slice e)) (hi : P.info? e = some i) (hz : i.zero = some z)
    (hsize : i.size = size) (hby : i.bytes = bytes) (hzs : z.cells.size = size) (hsz : 0 < size)
    (v : Value) (n : Nat) (xs : List Value) (hown : w.ownsRow base e size v n xs)
    (a : Addr) (m c : Nat) (hm1 : m ≠ 0) (news : List Value) (hl : news.length = m * size) (hnews : ∀ j u, news[j]? = some u → w.cell? (a.add j) = some u) (h1 : ∀ u ∈ news, u.oneCell' = true)
    (h63 : n + m ≤ maxLen) (hbytes : (n + m) * bytes ≤ 140737488355328) (hbase : base ≤ w.heap.size) :
    ∃ v' w', (Builtin.append_ #[t, t] ty #[v, .slice (some a) m c]).run P w = .ok v' w' ∧ w'.ownsRow base e size v' (n + m) (xs ++ news) ∧ w.grownBy w' v.ownBlock ∧
      ((v'.ownBlock = some w.heap.size ∧ w'.ownsRow base e size v n xs ∧ w.grownBy w' none) ∨ (v'.ownBlock = v.ownBlock ∧ ∀ W : World, W.ownsRow base e size v' (n + m) (xs ++ news) → W.ownsRow base e size v n xs)) := by
  subst hsize
  subst hby
  have hsmall : n + m ≤ 9223372036854775807 := by simp only [maxLen] at h63; omega
  have hlen : (xs ++ news).length = (n + m) * i.size := by rw [List.length_append, hown.1, hl, Nat.add_mul]
  have grown : ∀ (old : Nat), old < n + m → ∀ (row : Option Nat),
      (w.drew.alloc (.cells (xs.toArray ++ news.toArray ++ Builtin.zeroCells z.cells (grownCap w (n + m) old e - (n + m))) e)).ownsRow base e i.size
        (.slice (some ⟨w.heap.size, 0, none⟩) (n + m) (grownCap w (n + m) old e)) (n + m) (xs ++ news) ∧
      w.grownBy (w.drew.alloc (.cells (xs.toArray ++ news.toArray ++ Builtin.zeroCells z.cells (grownCap w (n + m) old e - (n + m))) e)) row := by
    intro old ho row
    have hge := grownCap_ge w (n + m) old e
    have hcm : grownCap w (n + m) old e ≤ maxLen := grownCap_le_maxLen w (n + m) old e h63
    refine ⟨⟨hlen, .inr ⟨w.heap.size, _, _, rfl, hbase, heap_alloc_new w.drew _, hge, hcm, ?_, ?_⟩⟩, ⟨rfl, rfl, rfl, by simp, fun k hk _ => Below.heap_alloc w.drew _ k hk⟩⟩
    · simp only [Array.size_append, List.size_toArray, size_zeroCells, hzs, hown.1, hl, ← Nat.add_mul]
      congr 1
      omega
    · simp only [Array.toList_append, List.append_assoc]
      rw [← List.append_assoc, ← hlen]
      exact List.take_left
  have hkeep : ∀ w' : World, w.grownBy w' none → w'.ownsRow base e i.size v n xs := fun w' hg => own_grown hown hg (fun k h => by cases h)
  rcases hown.2 with ⟨rfl, rfl⟩ | ⟨g, cap, cur, rfl, hbg, hg, hnc, hcm, hcs, htake⟩
  · have hx : xs = [] := List.eq_nil_of_length_eq_zero (by simpa using hown.1)
    subst hx
    have hr := run_append_nil (P := P) w t ty e i z ht hi hz a m c news hl hnews (by omega) (by omega) (by have hb := hbytes; simp only [Nat.zero_add] at hb; omega)
    have hgr := grown 0 (by omega) (Value.ownBlock (.slice none 0 0))
    have hgn := (grown 0 (by omega) none).2
    simp only [Nat.zero_add, List.nil_append, Array.empty_append] at hgr hgn ⊢
    exact ⟨_, _, hr, hgr.1, hgr.2, Or.inl ⟨rfl, hkeep _ hgn, hgn⟩⟩
  · by_cases hroom : n + m ≤ cap
    · have hfit : n * i.size + news.length ≤ cur.size := by rw [hl, hcs, ← Nat.add_mul]; exact Nat.mul_le_mul_right _ hroom
      have hr := run_append_room (P := P) w t ty e i ht hi g n cap cur hg a m c news hl hnews h1 hroom hfit
      refine ⟨_, _, hr, ⟨hlen, .inr ⟨g, cap, _, rfl, hbg, setRow_heap w g cur _ e _ hg, hroom, hcm, ?_, ?_⟩⟩, ⟨rfl, rfl, rfl, by simp, fun k _ hk => setRow_other w g k _ (fun e => hk (by simp [Value.ownBlock, e]))⟩, Or.inr ⟨rfl, ?_⟩⟩
      · simp only [List.size_toArray, List.length_append, List.length_take, List.length_drop, Array.length_toList]
        omega
      · rw [htake, ← hlen]
        exact List.take_left
      · intro W hW
        rcases hW.2 with ⟨h0, _⟩ | ⟨g9, cap9, cur9, h0, q1, q2, q3, q4, q5, q6⟩
        · cases h0
        · injection h0 with h01 h02 h03
          injection h01 with h01
          injection h01 with h01
          subst h01
          subst h03
          refine ⟨hown.1, .inr ⟨g, cap, cur9, rfl, hbg, q2, hnc, hcm, q5, ?_⟩⟩
          have h9 := congrArg (List.take (n * i.size)) q6
          rw [List.take_take, Nat.min_eq_left (Nat.mul_le_mul_right _ (by omega)), List.take_append_of_le_length (by rw [hown.1]; exact Nat.le_refl _)] at h9
          exact h9.trans (List.take_of_length_le (by rw [hown.1]; exact Nat.le_refl _))
    · have holds : ∀ j u, xs[j]? = some u → w.cell? ((⟨g, 0, none⟩ : Addr).add j) = some u := hown.cells (g := g) rfl
      have hr := run_append_grow (P := P) w t ty e i z ht hi hz ⟨g, 0, none⟩ n cap xs hown.1 holds a m c news hl hnews (by omega) (by omega) (growslice_fits (by omega) hbytes)
      have hgr := grown cap (by omega) (Value.ownBlock (.slice (some ⟨g, 0, none⟩) n cap))
      have hgn := (grown cap (by omega) none).2
      exact ⟨_, _, hr, hgr.1, hgr.2, Or.inl ⟨rfl, hkeep _ hgn, hgn⟩⟩
theorem step_append_keep {P : Program} {w : World} {o : Oper} {a : Act} {Q : Exit → Act → World → Prop} {ops : Array Oper} {K : Act → World → Prop} {E : Prop} (hgd : o.guard = none) (s x : Operand) (t : TypeId)
    (ho : o.op = .call { callee := .builtin .append, args := #[s, x], argTypes := #[t, t] })
    (base : Nat) (e : TypeId) (i : TypeInfo) (z : Value) (size bytes : Nat) (ht : P.underlying t = some (.slice e)) (hi : P.info? e = some i) (hz : i.zero = some z)
    (hsize : i.size = size) (hby : i.bytes = bytes) (hzs : z.cells.size = size) (hsz : 0 < size)
    (v : Value) (n : Nat) (xs : List Value) (hs : a.eval s = v) (hown : w.ownsRow base e size v n xs)
    (ad : Addr) (m c : Nat) (hm1 : m ≠ 0) (news : List Value) (hx : a.eval x = .slice (some ad) m c) (hS : Src w (some ad) m c news size)
    (h63 : n + m ≤ maxLen) (hbytes : (n + m) * bytes ≤ 140737488355328) (hbase : base ≤ w.heap.size)
    (h : ∀ v' w', w'.ownsRow base e size v' (n + m) (xs ++ news) → w.grownBy w' v.ownBlock → ((v'.ownBlock = some w.heap.size ∧ w'.ownsRow base e size v n xs ∧ w.grownBy w' none) ∨ (v'.ownBlock = v.ownBlock ∧ ∀ W : World, W.ownsRow base e size v' (n + m) (xs ++ news) → W.ownsRow base e size v n xs)) → K (a.put o.dst v') w') :
    if Region.wanted o (yielded ops a.tmps) = true then Oper.wp P o a w K Q else E := by
  have hw : Region.wanted o (yielded ops a.tmps) = true := by simp [Region.wanted, hgd]
  rw [if_pos hw]
  obtain ⟨v', w', hr, h2, h3, h5⟩ := run_append_keep (P := P) w base t o.type e i z size bytes ht hi hz hsize hby hzs hsz v n xs hown ad m c hm1 news hS.len (hS.cell ad rfl) hS.one h63 hbytes hbase
  unfold Oper.wp execOp
  simp only [ho, resolve, invoke, builtin, Sem.run_bind, Sem.run_pure, Result.andThen_ok, List.map_toArray, List.map_cons, List.map_nil, hs, hx, hr]
  exact h v' w' h2 h3 h5
end Go.Proofs.YtpdfjlbfhnapkaaGreatDoor
