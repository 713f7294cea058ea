/- Appending and joining slices of strings. -/
import Derived.Test.YtpdfjlbfhnapkaaGreatDoorSJ
import Derived.Laws.AppendOwnNone
import Derived.Laws.OwnMore
import Derived.Deep.AppendLies
import Derived.Maps.AppendAt
import Derived.Lib.AppendZerosOnto
import Derived.Lib.Walk
import Derived.Deep.QuietTactic
namespace Go.Proofs.YtpdfjlbfhnapkaaGreatDoor
open Go.RowKit
set_option linter.unusedSimpArgs false

theorem grown_refl (w : World) (row : Option Nat) : w.grownBy w row := ⟨rfl, rfl, rfl, Nat.le_refl _, fun _ _ _ => rfl⟩

/-- what the source's cells are -/
structure Src (w : World) (A : Option Addr) (m c : Nat) (news : List Value) (size : Nat) : Prop where
  len : news.length = m * size
  none_ : A = none → m = 0 ∧ c = 0
  cell : ∀ ad, A = some ad → ∀ j u, news[j]? = some u → w.cell? (ad.add j) = some u
  one : ∀ u ∈ news, u.oneCell' = true
section
variable {P : Program} {w : World} {o : Oper} {a : Act} {Q : Exit → Act → World → Prop}
theorem run_append_any (t ty : TypeId) (base : Nat) (e : TypeId) (i : TypeInfo) (z : Value) (size bytes : Nat) (ht : P.underlying t = some (.slice e)) (hi : P.info? e = some i) (hz : i.zero = some z)
    (hsize : i.size = size) (hby : i.bytes = bytes) (hzs : z.cells.size = size) (hsz : 0 < size)
    (v : Value) (n : Nat) (xs : List Value) (hown : w.ownsRow base e size v n xs)
    (A : Option Addr) (m c : Nat) (news : List Value) (hS : Src w A m c news size)
    (h63 : n + m ≤ maxLen) (hbytes : (n + m) * bytes ≤ 140737488355328) (hbase : base ≤ w.heap.size) :
    ∃ v' w', (Builtin.append_ #[t, t] ty #[v, .slice A m c]).run P w = .ok v' w' ∧ w'.ownsRow base e size v' (n + m) (xs ++ news) ∧ w.grownBy w' v.ownBlock ∧ (v'.ownBlock = v.ownBlock ∨ v'.ownBlock = some w.heap.size) := by
  cases A with
  | none =>
    obtain ⟨rfl, rfl⟩ := hS.none_ rfl
    have hnil : news = [] := List.eq_nil_of_length_eq_zero (by have := hS.len; omega)
    subst hnil
    rw [List.append_nil]
    exact ⟨v, w, run_append_owned_none (P := P) (w := w) base t ty e i size ht hi v n xs hown, hown, grown_refl w _, .inl rfl⟩
  | some ad =>
    obtain ⟨v', w', hr, h2, h3, _, h5⟩ := run_append_own_at (P := P) w base t ty e i z size bytes ht hi hz hsize hby hzs hsz v n xs hown ad m c news hS.len (hS.cell ad rfl) hS.one h63 hbytes hbase
    exact ⟨v', w', hr, h2, h3, h5⟩
theorem wp_append_any {K : Act → World → Prop} (s x : Operand) (t : TypeId)
    (ho : o.op = .call { callee := .builtin .append, args := #[s, x], argTypes := #[t, t] })
    (base : Nat) (e : TypeId) (i : TypeInfo) (z : Value) (size bytes : Nat) (ht : P.underlying t = some (.slice e)) (hi : P.info? e = some i) (hz : i.zero = some z)
    (hsize : i.size = size) (hby : i.bytes = bytes) (hzs : z.cells.size = size) (hsz : 0 < size)
    (v : Value) (n : Nat) (xs : List Value) (hs : a.eval s = v) (hown : w.ownsRow base e size v n xs)
    (A : Option Addr) (m c : Nat) (news : List Value) (hx : a.eval x = .slice A m c) (hS : Src w A m c news size)
    (h63 : n + m ≤ maxLen) (hbytes : (n + m) * bytes ≤ 140737488355328) (hbase : base ≤ w.heap.size)
    (h : ∀ v' w', w'.ownsRow base e size v' (n + m) (xs ++ news) → w.grownBy w' v.ownBlock → (v'.ownBlock = v.ownBlock ∨ v'.ownBlock = some w.heap.size) → K (a.put o.dst v') w') : o.wp P a w K Q := by
  obtain ⟨v', w', hr, h2, h3, h5⟩ := run_append_any (P := P) (w := w) t o.type base e i z size bytes ht hi hz hsize hby hzs hsz v n xs hown A m c news hS h63 hbytes hbase
  unfold Oper.wp execOp
  simp only [ho, resolve, invoke, builtin, Sem.run_bind, Sem.run_pure, Result.andThen_ok, List.map_toArray, List.map_cons, List.map_nil, hs, hx, hr]
  exact h v' w' h2 h3 h5
theorem wpList_append_any {ops : Array Oper} {rest : List Oper} (hgd : o.guard = none) (s x : Operand) (t : TypeId)
    (ho : o.op = .call { callee := .builtin .append, args := #[s, x], argTypes := #[t, t] })
    (base : Nat) (e : TypeId) (i : TypeInfo) (z : Value) (size bytes : Nat) (ht : P.underlying t = some (.slice e)) (hi : P.info? e = some i) (hz : i.zero = some z)
    (hsize : i.size = size) (hby : i.bytes = bytes) (hzs : z.cells.size = size) (hsz : 0 < size)
    (v : Value) (n : Nat) (xs : List Value) (hs : a.eval s = v) (hown : w.ownsRow base e size v n xs)
    (A : Option Addr) (m c : Nat) (news : List Value) (hx : a.eval x = .slice A m c) (hS : Src w A m c news size)
    (h63 : n + m ≤ maxLen) (hbytes : (n + m) * bytes ≤ 140737488355328) (hbase : base ≤ w.heap.size)
    (h : ∀ v' w', w'.ownsRow base e size v' (n + m) (xs ++ news) → w.grownBy w' v.ownBlock → (v'.ownBlock = v.ownBlock ∨ v'.ownBlock = some w.heap.size) → wpList P ops Q rest (a.put o.dst v') w') : wpList P ops Q (o :: rest) a w :=
  wpList_plain hgd fun _ hK => wp_append_any s x t ho base e i z size bytes ht hi hz hsize hby hzs hsz v n xs hs hown A m c news hx hS h63 hbytes hbase fun v' w' h2 h3 h5 => hK _ _ (h v' w' h2 h3 h5)
theorem step_append_any {ops : Array Oper} {K : Act → World → Prop} {E : Prop} (hgd : o.guard = none) (s x : Operand) (t : TypeId)
    (ho : o.op = .call { callee := .builtin .append, args := #[s, x], argTypes := #[t, t] })
    (base : Nat) (e : TypeId) (i : TypeInfo) (z : Value) (size bytes : Nat) (ht : P.underlying t = some (.slice e)) (hi : P.info? e = some i) (hz : i.zero = some z)
    (hsize : i.size = size) (hby : i.bytes = bytes) (hzs : z.cells.size = size) (hsz : 0 < size)
    (v : Value) (n : Nat) (xs : List Value) (hs : a.eval s = v) (hown : w.ownsRow base e size v n xs)
    (A : Option Addr) (m c : Nat) (news : List Value) (hx : a.eval x = .slice A m c) (hS : Src w A m c news size)
    (h63 : n + m ≤ maxLen) (hbytes : (n + m) * bytes ≤ 140737488355328) (hbase : base ≤ w.heap.size)
    (h : ∀ v' w', w'.ownsRow base e size v' (n + m) (xs ++ news) → w.grownBy w' v.ownBlock → (v'.ownBlock = v.ownBlock ∨ v'.ownBlock = some w.heap.size) → K (a.put o.dst v') w') :
    if Region.wanted o (yielded ops a.tmps) = true then Oper.wp P o a w K Q else E := by
  have hw : Region.wanted o (yielded ops a.tmps) = true := by simp [Region.wanted, hgd]
  rw [if_pos hw]
  exact wp_append_any s x t ho base e i z size bytes ht hi hz hsize hby hzs hsz v n xs hs hown A m c news hx hS h63 hbytes hbase h
end
theorem own_same {a b : World} {base e size n : Nat} {v : Value} {xs : List Value} (h : a.ownsRow base e size v n xs) (hb : ∀ k, base ≤ k → k < a.heap.size → b.heap[k]? = a.heap[k]?) : b.ownsRow base e size v n xs := by
  obtain ⟨hl, h2⟩ := h
  rcases h2 with h2 | ⟨g, cap, cur, rfl, h3, h4, h5, h6, h7, h8⟩
  · exact ⟨hl, .inl h2⟩
  · have hlt : g < a.heap.size := by
      rcases Nat.lt_or_ge g a.heap.size with h | h
      · exact h
      · rw [Array.getElem?_eq_none h] at h4; cases h4
    exact ⟨hl, .inr ⟨g, cap, cur, rfl, h3, (hb g h3 hlt).trans h4, h5, h6, h7, h8⟩⟩
theorem own_below {a b : World} {base e size n : Nat} {v : Value} {xs : List Value} (h : a.ownsRow base e size v n xs) (hb : Below a.heap.size a b) : b.ownsRow base e size v n xs :=
  own_same h fun k _ hk => hb.block k hk
theorem own_mono {a : World} {base base' e size n : Nat} {v : Value} {xs : List Value} (h : a.ownsRow base e size v n xs) (hb : base' ≤ base) : a.ownsRow base' e size v n xs := by
  obtain ⟨hl, h2⟩ := h
  rcases h2 with h2 | ⟨g, cap, cur, rfl, h3, h4⟩
  · exact ⟨hl, .inl h2⟩
  · exact ⟨hl, .inr ⟨g, cap, cur, rfl, Nat.le_trans hb h3, h4⟩⟩
theorem own_grown {a b : World} {base e size n : Nat} {v : Value} {xs : List Value} {row : Option Nat} (h : a.ownsRow base e size v n xs) (hb : a.grownBy b row) (hr : ∀ k, row = some k → ¬ (base ≤ k)) : b.ownsRow base e size v n xs :=
  own_same h fun k hk hlt => hb.block k hlt (fun e => hr k e.symm hk)
/-- a row of the call's own as a source -/
theorem Src.of_own {w : World} {base e size n : Nat} {v : Value} {xs : List Value} (h : w.ownsRow base e size v n xs) (h1 : ∀ u ∈ xs, u.oneCell' = true) : ∃ A c, v = .slice A n c ∧ Src w A n c xs size := by
  have hl := h.1
  rcases h.2 with ⟨rfl, h0⟩ | ⟨g, cap, cur, hv, h3, h4, h5, h6, h7, h8⟩
  · subst h0
    exact ⟨none, 0, rfl, hl, fun _ => ⟨rfl, rfl⟩, fun ad e => by (cases e), h1⟩
  · subst hv
    have hown : w.ownsRow base e size (.slice (some ⟨g, 0, none⟩) n cap) n xs := h
    exact ⟨some ⟨g, 0, none⟩, cap, rfl, hl, fun e => by (cases e), fun ad e => by
      injection e with e
      subst e
      exact hown.cells (g := g) rfl, h1⟩
theorem Src.nil (w : World) (size : Nat) : Src w none 0 0 [] size := ⟨by simp, fun _ => ⟨rfl, rfl⟩, fun ad e => by (cases e), fun u hu => by simp at hu⟩
theorem blt_of_cell {w : World} {p : Addr} {u : Value} (h : w.cell? p = some u) : p.block < w.heap.size := World.block_lt_of_cell? _ _ h
theorem Src.keep {w w' : World} {A : Option Addr} {m c size : Nat} {news : List Value} (h : Src w A m c news size) (hk : ∀ ad, A = some ad → ad.block < w.heap.size → ∀ p : Addr, p.block = ad.block → w'.cell? p = w.cell? p) : Src w' A m c news size :=
  ⟨h.len, h.none_, fun ad e j u hu => by
    have hc := h.cell ad e j u hu
    have hlt := blt_of_cell hc
    rw [block_of_add] at hlt
    exact (hk ad e hlt (ad.add j) (block_of_add ad j)).trans hc, h.one⟩
theorem Src.below {w w' : World} {A : Option Addr} {m c size : Nat} {news : List Value} (h : Src w A m c news size) (hb : Below w.heap.size w w') : Src w' A m c news size :=
  h.keep fun ad _ hlt p hp => hb.cell (by omega)
theorem cell_grown {w w' : World} {row : Option Nat} (hb : w.grownBy w' row) {p : Addr} (hp : p.block < w.heap.size) (hr : some p.block ≠ row) : w'.cell? p = w.cell? p := World.cell?_of_block (hb.block _ hp hr)


/-- what was there is as it was, but for a row that is new -/
theorem bel_grown2 {w0 w w' : World} {row : Option Nat} (hb : Below w0.heap.size w0 w) (hg : w.grownBy w' row) (hr : ∀ k, row = some k → w0.heap.size ≤ k) : Below w0.heap.size w0 w' :=
  ⟨hg.os.trans hb.os, hg.tape.trans hb.tape, hg.output.trans hb.output, Nat.le_trans hb.size hg.size, fun k hk => (hg.block k (Nat.lt_of_lt_of_le hk hb.size) (fun e => by have := hr k e.symm; omega)).trans (hb.block k hk)⟩
def sumN (n : Nat → Nat) : Nat → Nat
  | 0 => 0
  | k + 1 => sumN n k + n k
theorem sumN_succ (n : Nat → Nat) (k : Nat) : sumN n (k + 1) = sumN n k + n k := rfl
theorem sumN_le (n : Nat → Nat) {k K : Nat} (h : k ≤ K) : sumN n k ≤ sumN n K := by
  induction K with
  | zero =>
    have : k = 0 := by omega
    subst this
    exact Nat.le_refl _
  | succ K ih =>
    rcases Nat.lt_or_ge K k with h1 | h1
    · have : k = K + 1 := by omega
      subst this
      exact Nat.le_refl _
    · rw [sumN_succ]
      have := ih h1
      omega
def catN {α : Type} (xs : Nat → List α) : Nat → List α
  | 0 => []
  | k + 1 => catN xs k ++ xs k
theorem catN_succ {α : Type} (xs : Nat → List α) (k : Nat) : catN xs (k + 1) = catN xs k ++ xs k := rfl

/-- the slice value reads as the slice values (a j, n j, cc j) -/
structure Ls (w : World) (A : Option Addr) (K c : Nat) (a : Nat → Option Addr) (n cc : Nat → Nat) : Prop where
  cap : K ≤ c
  top : c ≤ 9223372036854775807
  cell : 0 < K → ∃ ad, A = some ad ∧ ∀ j, j < K → w.cell? (ad.add j) = some (.slice (a j) (n j) (cc j))
theorem Ls.at_ {w : World} {A : Option Addr} {K c : Nat} {a : Nat → Option Addr} {n cc : Nat → Nat} (h : Ls w A K c a n cc) {j : Nat} (hj : j < K) : ∃ ad, A = some ad ∧ w.cell? (ad.add j) = some (.slice (a j) (n j) (cc j)) := by
  obtain ⟨ad, e, hc⟩ := h.cell (by omega)
  exact ⟨ad, e, hc j hj⟩
theorem Ls.below {w w' : World} {A : Option Addr} {K c : Nat} {a : Nat → Option Addr} {n cc : Nat → Nat} (h : Ls w A K c a n cc) (hb : Below w.heap.size w w') : Ls w' A K c a n cc :=
  ⟨h.cap, h.top, fun hn => by
    obtain ⟨ad, e, hc⟩ := h.cell hn
    exact ⟨ad, e, fun r hr => by
      have := hc r hr
      rw [hb.cell (World.block_lt_of_cell? _ _ this)]; exact this⟩⟩
theorem info_str : (Tryz.prog.info? 9).map (fun i => (i.zero, i.size, i.bytes)) = some (some (.string ⟨#[]⟩), 1, 16) := by kernel_rfl
theorem growS_zero (w : World) : Calls Tryz.prog 230 #[.slice none 0 0, .int .i64 0] w fun e w' => e = .returned (.slice none 0 0) ∧ w' = w := by
  go_enter Tryz.func230, Tryz.ntmps230
  go_wp2
  go_ret
  exact ⟨rfl, rfl⟩
set_option maxHeartbeats 800000 in
set_option maxRecDepth 100000 in
theorem growS_any (N : Nat) (w : World) (hN : N ≤ 1000000) :
    Calls Tryz.prog 230 #[.slice none 0 0, .int .i64 (N : Int)] w fun e w' => ∃ V, e = .returned V ∧ w'.ownsRow w.heap.size 9 1 V 0 [] ∧ Below w.heap.size w w' := by
  rcases Nat.eq_zero_or_pos N with rfl | hp
  · exact (growS_zero w).mono fun e w' ⟨he, hw⟩ => ⟨_, he, World.ownsRow_nil _ _ _ _, by rw [hw]; exact Below.refl _ _⟩
  · obtain ⟨i0, hi, hz0, hz1, hz2⟩ := info_parts info_str
    have hap : ∀ ty, (Builtin.append_ #[32, 3] ty #[.slice none 0 0, .int .i64 (N : Int)]).run Tryz.prog w = _ := fun ty =>
      Lib.run_append_grow_zeros w 32 3 ty 9 i0 (.string ⟨#[]⟩) .i64 .i64 Tryz.underlying32 Tryz.underlying3 hi hz0 none 0 0 [] (run_firstCells_none w.drew i0.size 0 0 0) N hp (by rw [hz1]; decide) (by omega) (by omega)
        (by rw [hz2]; omega) (growslice_fits (by omega) (by rw [hz2]; omega))
    have g1 := grownCap_ge w (0 + N) 0 9
    have g2 := grownCap_le_maxLen w (0 + N) 0 9 (by unfold maxLen; omega)
    rw [Nat.zero_add] at hap g1 g2
    generalize grownCap w N 0 9 = G at *
    obtain ⟨cs, hcs⟩ : ∃ cs, (([] : List Value).toArray ++ Builtin.zeroCells (Value.cells (.string ⟨#[]⟩)) N ++ Builtin.zeroCells (Value.cells (.string ⟨#[]⟩)) (G - N)) = cs := ⟨_, rfl⟩
    have hsz : cs.size = G * 1 := by
      rw [← hcs]
      simp [Builtin.zeroCells, Value.cells]
      omega
    rw [hcs] at hap
    clear hcs
    have h1 : ¬ ((N : Int) < 0) := by omega
    have h2 : wrap64 ((N : Int) - (0 - 0)) = (N : Int) := by unfold wrap64; omega
    have hd : decide (0 < (N : Int)) = true := decide_eq_true (by omega)
    unfold maxLen at g2
    have hnew : (w.drew.alloc (.cells cs 9)).heap[w.heap.size]? = some (.cells cs 9 (0, 0)) := heap_alloc_new w.drew _
    have hbl : Below w.heap.size w (w.drew.alloc (.cells cs 9)) := (bel_drewN (Below.refl _ _) 1).alloc (Nat.le_refl _) _
    go_enter Tryz.func230, Tryz.ntmps230
    go_wp2_with (at_builtin; refine Lib.wpList_append_run _ rfl _ _ _ _ rfl _ _ rfl rfl _ _ (hap _) ?_)
    go_ret
    exact ⟨_, rfl, ⟨rfl, .inr ⟨w.heap.size, G, cs, rfl, Nat.le_refl _, hnew, by omega, (by unfold maxLen; omega), hsz, by simp⟩⟩, hbl⟩

set_option maxHeartbeats 1600000 in
set_option maxRecDepth 100000 in
theorem concatS_any (A : Option Addr) (K c : Nat) (a : Nat → Option Addr) (n cc : Nat → Nat) (news : Nat → List Value) (w : World) (h : Ls w A K c a n cc) (hS : ∀ j, j < K → Src w (a j) (n j) (cc j) (news j) 1) (hN : sumN n K ≤ 1000000) :
    Calls Tryz.prog 229 #[.slice A K c] w fun e w' => ∃ V, e = .returned V ∧ w'.ownsRow w.heap.size 9 1 V (sumN n K) (catN news K) ∧ Below w.heap.size w w' := by
  have hcap := h.cap
  have htop := h.top
  have hS := Lib.hid hS
  have hN := Lib.hid (fun k (hk : k ≤ K) => Nat.le_trans (sumN_le n hk) hN)
  obtain ⟨i0, hi, hz0, hz1, hz2⟩ := info_parts info_str
  go_enter Tryz.func229, Tryz.ntmps229
  go_wp2
  go_loop [3, 11] (fun sv iv => ∃ k : Nat, k ≤ K ∧ iv = .int .i64 k ∧ sv = .int .i64 (sumN n k : Nat)) (fun _ iv => K - (intOf iv).toNat)
  case atStart => exact ⟨0, Nat.zero_le _, rfl, rfl⟩
  case round =>
    obtain ⟨k, hk, rfl, rfl⟩ := hrel
    have hb1 := hN.out k hk
    rcases Nat.lt_or_ge k K with hlt | hge
    · obtain ⟨ad, rfl, hc⟩ := h.at_ hlt
      have hb2 := hN.out (k + 1) hlt
      have hs : ((sumN n (k + 1) : Nat) : Int) = (sumN n k : Nat) + (n k : Nat) := by rw [sumN_succ, Int.natCast_add]
      have hs2 : sumN n (k + 1) = sumN n k + n k := sumN_succ n k
      have hsH := Lib.hid hs
      clear hs
      generalize hq : sumN n (k + 1) = S2 at *
      generalize sumN n k = S1 at *
      have hd : decide ((S1 : Int) + (n k : Int) < 0) = false := decide_eq_false (by omega)
      have hle : (S1 : Int) + (n k : Int) ≤ 1000000 := by omega
      go_wp2
      go_round
      case rel => exact ⟨k + 1, by omega, by go_num, by rw [hq, hsH.out]⟩
      case measure => simp [intOf]; omega
    · have hkK : k = K := by omega
      subst hkK
      go_wp2_with fail
      refine (growS_any (sumN n k) w hb1).mono ?_
      rintro e w1 ⟨V1, rfl, hown, hb⟩
      go_wp2
      go_loopw [6, 27] (fun pv iv wr => ∃ (j : Nat) (V : Value), iv = .int .i64 j ∧ V = pv ∧ j ≤ k ∧ wr.ownsRow w.heap.size 9 1 V (sumN n j) (catN news j) ∧ Below w.heap.size w wr) (fun _ iv _ => k - (intOf iv).toNat)
      case atStart => exact ⟨0, _, rfl, rfl, Nat.zero_le _, hown, hb⟩
      case round =>
        obtain ⟨j, pv, rfl, rfl, hj, hO, hB⟩ := hrel
        rcases Nat.lt_or_ge j k with hjl | hjg
        · have hr := h.below hB
          obtain ⟨ad, rfl, hc⟩ := hr.at_ hjl
          have hSj := Lib.hid ((hS.out j hjl).below hB)
          have hbz := hB.size
          have hsum := Lib.hid (show sumN n j + n j ≤ 1000000 by rw [← sumN_succ]; exact hN.out (j + 1) hjl)
          have hlt2 := Lib.hid hO.lt
          go_wp2_with (at_builtin; refine wpList_append_any rfl (.tmp 31) (.tmp 32) 32 rfl w.heap.size 9 i0 (.string ⟨#[]⟩) 1 16 Tryz.underlying32 hi hz0 hz1 hz2 rfl (by decide) pv (sumN n j) (catN news j) rfl hO (a j) (n j) (cc j) (news j) rfl hSj.out (by have := hsum.out; unfold maxLen; omega) (by have := hsum.out; omega) hbz ?_; intro V2 w2 h1 h2 h3)
          have hB2 : Below w.heap.size w w2 := bel_grown2 hB h2 (fun q e => (hlt2.out q e).1)
          go_wp2
          go_roundw
          case rel => exact ⟨j + 1, _, by go_num, rfl, hjl, by rw [sumN_succ, catN_succ]; exact h1, hB2⟩
          case measure => simp [intOf]; omega
        · have hjk : j = k := by omega
          subst hjk
          go_wp2
          go_ret
          exact ⟨_, rfl, hO, hB⟩


/-- the cells of strings -/
def svs (xs : List Str) : List Value := xs.map fun x => Value.string ⟨x.toArray⟩
theorem svs_len (xs : List Str) : (svs xs).length = xs.length := by simp [svs]
theorem svs_app (xs ys : List Str) : svs (xs ++ ys) = svs xs ++ svs ys := by simp [svs]
theorem oneCell_svs (xs : List Str) : ∀ u ∈ svs xs, u.oneCell' = true := by
  intro u hu
  simp only [svs, List.mem_map] at hu
  obtain ⟨x, _, rfl⟩ := hu
  rfl
theorem Src.of_ss {w : World} {A : Option Addr} {n c : Nat} {xs : List Str} (h : Ss w A n c xs) (hA : A = none → c = 0) : Src w A n c (svs xs) 1 :=
  ⟨by rw [svs_len, h.len, Nat.mul_one], fun e => by
      have h1 := hA e
      have := h.cap
      exact ⟨by omega, h1⟩, fun ad e j u hu => by
      subst e
      simp only [svs, List.getElem?_map, Option.map_eq_some_iff] at hu
      obtain ⟨x, hx, rfl⟩ := hu
      obtain ⟨ad2, e2, hc⟩ := h.cell (by have := lt_of_some hx; rw [h.len] at this; omega)
      injection e2 with e2
      subst e2
      exact hc j x hx, oneCell_svs xs⟩
theorem Ss.of_own {w : World} {base e : Nat} {v : Value} {n : Nat} {xs : List Str} (h : w.ownsRow base e 1 v n (svs xs)) : ∃ A c, v = .slice A n c ∧ Ss w A n c xs ∧ (A = none → c = 0) ∧ ∀ ad, A = some ad → base ≤ ad.block := by
  obtain ⟨hl, h2⟩ := h
  have hn : xs.length = n := by rw [svs_len] at hl; omega
  rcases h2 with ⟨rfl, rfl⟩ | ⟨g, cap, cur, rfl, h3, h4, h5, h6, h7, h8⟩
  · exact ⟨none, 0, rfl, ⟨hn, Nat.le_refl _, by decide, fun h => absurd h (by omega)⟩, fun _ => rfl, fun _ e => by cases e⟩
  · refine ⟨some ⟨g, 0, none⟩, cap, rfl, ⟨hn, h5, by simpa [maxLen] using h6, fun hp => ⟨_, rfl, fun j x hx => ?_⟩⟩, (fun e => by cases e), fun ad e => by injection e with e; subst e; exact h3⟩
    have hown : w.ownsRow base e 1 (.slice (some ⟨g, 0, none⟩) n cap) n (svs xs) := ⟨hl, .inr ⟨g, cap, cur, rfl, h3, h4, h5, h6, h7, h8⟩⟩
    exact hown.cells (g := g) rfl j _ (by simp [svs, hx])
end Go.Proofs.YtpdfjlbfhnapkaaGreatDoor

/- Ordinals, as a parser takes them. -/
namespace Go.Proofs.YtpdfjlbfhnapkaaGreatDoor
open Go.RowKit
set_option linter.unusedSimpArgs false

def ordGo (pre : List Str) : List Str → Nat × List Str
  | [] => (0, pre)
  | y :: ys => if cardW y = [] then ordGo (pre ++ [y]) ys else if (countF (pre ++ [cardW y])).2 = [] then ((countF (pre ++ [cardW y])).1, ys) else (0, pre ++ y :: ys)
def ordF (ws : List Str) : Nat × List Str := ordGo [] ws
/-- a new parser of words that lie in memory -/
theorem parserN {w : World} {A : Option Addr} {n c : Nat} {ws : List Str} (hT : WT w) (hS : Ss w A n c ws) (hlt : ∀ ad, A = some ad → ad.block < w.heap.size) : PW (w.alloc (.cells #[.slice A n c] 107)) w.heap.size ws :=
  ⟨⟨A, n, c, Blk.new w 107 #[.slice A n c], hS.alloc _, fun ad e => by have := hlt ad e; omega⟩, hT.alloc _, hT.nt (Nat.le_refl _)⟩
theorem take_drop_cons {ws : List Str} {i : Nat} {y : Str} (h : ws[i]? = some y) : ws.drop i = y :: ws.drop (i + 1) := by
  have hi := lt_of_some h
  rw [List.getElem?_eq_getElem hi] at h
  injection h with h
  rw [← h]
  exact List.drop_eq_getElem_cons hi

set_option maxRecDepth 100000 in
set_option maxHeartbeats 8000000 in
theorem ordinal_any (g : Nat) (ws : List Str) (w : World) (h : PW w g ws) (hl : ws.length ≤ 100000) (hw0 : ∀ x ∈ ws, x.length ≤ 10000) :
    Calls Tryz.prog 228 #[.pointer (some ⟨g, 0, none⟩)] w (RetP g (ordF ws) w) := by
  have hw := Lib.hid hw0
  clear hw0
  obtain ⟨A, n, c, hB, hS, hne⟩ := h.1
  have k0 := hB.cell 0
  have hcap := hS.cap
  have htop := hS.top
  have hln := Lib.hid hS.len
  have hn1 : n ≤ 100000 := by rw [← hS.len]; exact hl
  have hgl := h.lt
  go_enter Tryz.func228, Tryz.ntmps228
  go_wp2
  go_loopw [13] (fun iv wr' => ∃ (i : Nat) (wr : World), wr = wr' ∧ iv = .int .i64 (i : Int) ∧ i ≤ n ∧ Hid (ordF ws = ordGo (ws.take i) (ws.drop i)) ∧ Below w.heap.size w wr) (fun iv _ => n - (intOf iv).toNat)
  case atStart => exact ⟨0, _, rfl, rfl, Nat.zero_le _, rfl, Below.refl _ _⟩
  case round =>
    obtain ⟨i, wr, rfl, rfl, hi, hq, hbel⟩ := hrel
    have hPr := h.below hbel
    have hBr := hB.below hbel
    have hSr := hS.below hbel
    have hbs := hbel.size
    rcases Nat.lt_or_ge i n with hlt | hge
    · obtain ⟨ad, y, rfl, hcy, hy⟩ := hSr.at_ hlt
      have hyl := hw.out y (List.mem_of_getElem? hy.out)
      have hc := Lib.hid (cardinalWord_any y hyl wr hPr.2.1)
      have hdc := Lib.hid (take_drop_cons hy.out)
      have hgo := Lib.hid (show ordF ws = if cardW y = [] then ordGo (ws.take i ++ [y]) (ws.drop (i + 1)) else if (countF (ws.take i ++ [cardW y])).2 = [] then ((countF (ws.take i ++ [cardW y])).1, ws.drop (i + 1)) else (0, ws.take i ++ y :: ws.drop (i + 1)) by rw [hq.out, hdc.out]; rfl)
      generalize cardW y = Z at *
      by_cases hZ : Z = []
      · subst hZ
        have hq2 := Lib.hid (show ordF ws = ordGo (ws.take (i + 1)) (ws.drop (i + 1)) by
          rw [hgo.out, if_pos rfl, List.take_add_one, hy.out]; rfl)
        go_wp2_with fail
        refine hc.out.mono ?_
        rintro e w2 ⟨rfl, hb2⟩
        have hb3 := hbel.trans (hb2.mono hbs)
        go_wp2
        go_roundw
        case rel => exact ⟨i + 1, _, rfl, by go_num, hlt, hq2.out, hb3⟩
        case measure => simp [intOf]; omega
      · have hgo2 := Lib.hid (show ordF ws = if (countF (ws.take i ++ [Z])).2 = [] then ((countF (ws.take i ++ [Z])).1, ws.drop (i + 1)) else (0, ws.take i ++ y :: ws.drop (i + 1)) by rw [hgo.out, if_neg hZ])
        have hws := Lib.hid (show ws.take i ++ y :: ws.drop (i + 1) = ws by rw [← hdc.out, List.take_append_drop])
        have hZe : Z.isEmpty = false := by cases Z with | nil => exact absurd rfl hZ | cons a b => rfl
        go_wp2_with fail
        refine hc.out.mono ?_
        rintro e w2 ⟨rfl, hb2⟩
        have hb3 := hbel.trans (hb2.mono hbs)
        have hs3 := hb3.size
        have hB2 := hBr.below hb2
        have hS2 := hSr.below hb2
        have k0 : w2.cell? ⟨g, 0, none⟩ = some (.slice (some ad) n c) := hB2.cell 0
        have i1 : (0 : Int) ≤ (i : Int) := by omega
        have i2 : (i : Int) ≤ (n : Int) := by omega
        have i3 : (i : Int) ≤ (c : Int) := by omega
        have i4 : i ≤ c := by omega
        have hA2 : ∀ a2, some ad = some a2 → a2.block ≠ g := hne
        have e1 : (w2.alloc (.cells #[.string ⟨Z.toArray⟩] 9)).heap.size = w2.heap.size + 1 := World.size_alloc _ _
        have bA := (Below.refl w2.heap.size w2).alloc (Nat.le_refl _) (.cells #[.string ⟨Z.toArray⟩] 9)
        have bB := bA.alloc (by rw [e1]; omega) (.cells #[.slice (some ad) i c, .slice (some ⟨w2.heap.size, 0, none⟩) 1 1] 32)
        have O1 := (Blk.new w2 9 #[.string ⟨Z.toArray⟩]).alloc (.cells #[.slice (some ad) i c, .slice (some ⟨w2.heap.size, 0, none⟩) 1 1] 32)
        have O2 := Blk.new (w2.alloc (.cells #[.string ⟨Z.toArray⟩] 9)) 32 #[.slice (some ad) i c, .slice (some ⟨w2.heap.size, 0, none⟩) 1 1]
        rw [e1] at O2
        clear e1
        have hSt := ((hS2.take (m := i) (by omega)).below bB)
        go_wp2_with fail
        generalize (w2.alloc (.cells #[.string ⟨Z.toArray⟩] 9)).alloc (.cells #[.slice (some ad) i c, .slice (some ⟨w2.heap.size, 0, none⟩) 1 1] 32) = w3 at *
        have hb4 := hb3.trans (bB.mono hs3)
        have hLs : Ls w3 (some ⟨w2.heap.size + 1, 0, none⟩) 2 2 (fun j => if j = 0 then some ad else some ⟨w2.heap.size, 0, none⟩) (fun j => if j = 0 then i else 1) (fun j => if j = 0 then c else 1) :=
          ⟨Nat.le_refl _, by decide, fun _ => ⟨_, rfl, fun j hj => by
            rw [add_new]
            rcases (show j = 0 ∨ j = 1 by omega) with rfl | rfl
            · exact O2.cell 0
            · exact O2.cell 1⟩⟩
        have hSz : Ss w3 (some ⟨w2.heap.size, 0, none⟩) 1 1 [Z] := ⟨rfl, Nat.le_refl _, by decide, fun _ => ⟨_, rfl, fun j x hx => by
          cases j with
          | zero => injection hx with hx; subst hx; rw [add_new]; exact O1.cell 0
          | succ j => cases hx⟩⟩
        have hcat := concatS_any (some ⟨w2.heap.size + 1, 0, none⟩) 2 2 _ _ _ (fun j => if j = 0 then svs (ws.take i) else svs [Z]) w3 hLs (fun j hj => by
          rcases (show j = 0 ∨ j = 1 by omega) with rfl | rfl
          · exact Src.of_ss hSt (fun e => by cases e)
          · exact Src.of_ss hSz (fun e => by cases e)) (by show 0 + i + 1 ≤ _; omega)
        refine hcat.mono ?_
        rintro e w5 ⟨V, rfl, hown, hb5⟩
        have hown2 : w5.ownsRow w3.heap.size 9 1 V (i + 1) (svs (ws.take i ++ [Z])) := by
          have h9 : w5.ownsRow w3.heap.size 9 1 V (0 + i + 1) (([] ++ svs (ws.take i)) ++ svs [Z]) := hown
          rw [Nat.zero_add, List.nil_append, ← svs_app] at h9
          exact h9
        clear hown hcat
        have hown2b := hown2.lt
        obtain ⟨A5, c5, rfl, hS5, _, _⟩ := Ss.of_own hown2
        have hb6 := hb4.trans (hb5.mono hb4.size)
        have hT5 : WT w5 := h.2.1.below hb6
        have hP5 := parserN hT5 hS5 (fun a5 e5 => hS5.blt (by omega) a5 e5)
        have ha5 := (Below.refl w5.heap.size w5).alloc (Nat.le_refl _) (.cells #[.slice A5 (i + 1) c5] 107)
        have hsz5 : (w5.alloc (.cells #[.slice A5 (i + 1) c5] 107)).heap.size = w5.heap.size + 1 := World.size_alloc _ _
        have hcnt := Lib.hid (fun (w9 : World) (h9 : PW w9 w5.heap.size (ws.take i ++ [Z])) => count_any w5.heap.size (ws.take i ++ [Z]) w9 h9)
        obtain ⟨q, rs, hr⟩ := pair_eta (countF (ws.take i ++ [Z]))
        rw [hr] at hcnt
        have hgo3 := Lib.hid (show ordF ws = if rs = [] then (q, ws.drop (i + 1)) else (0, ws) by rw [hgo2.out, hr, hws.out])
        clear hr
        go_wp2_with fail
        generalize w5.alloc (.cells #[.slice A5 (i + 1) c5] 107) = w6 at *
        refine (hcnt.out _ hP5).mono ?_
        rintro e w7 ⟨rfl, hP7, hU7⟩
        have hb7 := hb6.trans ((ha5.trans (hU7.below (B := w5.heap.size) (Nat.le_refl _) (by omega))).mono hb6.size)
        obtain ⟨A7, n7, c7, hB7, hS7, _⟩ := hP7.1
        have m0 : w7.cell? ⟨w5.heap.size, 0, none⟩ = some (.slice A7 n7 c7) := hB7.cell 0
        have hn7 := hS7.len
        by_cases hrs : rs = []
        · subst hrs
          obtain rfl : n7 = 0 := hn7.symm
          have hgo4 := Lib.hid (show ordF ws = (q, ws.drop (i + 1)) by rw [hgo3.out, if_pos rfl])
          have hB8 := hB.below hb7
          have hS8 := hS.below hb7
          have l0 : w7.cell? ⟨g, 0, none⟩ = some (.slice (some ad) n c) := hB8.cell 0
          have lf := hB8.frozen 0
          have wk : IntKind.i64.wrap ((i : Int) + 1) = ((i + 1 : Nat) : Int) := by rw [IntWalk.i64_in _ (by omega)]; omega
          have hcut := hS8.cut (m := i + 1) hlt
          obtain ⟨k, hk⟩ : ∃ k, i + 1 = k := ⟨_, rfl⟩
          rw [hk] at wk hcut hgo4
          have k1 : (0 : Int) ≤ (k : Int) := by omega
          have k2 : (k : Int) ≤ (n : Int) := by omega
          have k3 : k ≤ n := by omega
          have hk := Lib.hid hk
          by_cases hck : c = k
          · rw [if_pos hck] at hcut
            have hfin := Lib.hid (fun (v : Value) (e : v = .slice (some ad) (n - k) (c - k)) => (show PW (w7.setCell ⟨g, 0, none⟩ v) g (ws.drop k) ∧ Upto g w (w7.setCell ⟨g, 0, none⟩ v) by
              subst e
              exact ⟨⟨⟨_, _, _, hB8.set_ 0 _, ((Upto.refl g w7).set_ 0 _).ss hcut hne, hne⟩, (h.2.1.below hb7).upto h.2.2 ((Upto.refl g w7).set_ 0 _), h.2.2⟩, ((Upto.refl g w).bel hb7).set_ 0 _⟩))
            have hck := Lib.hid hck
            go_wp2
            go_ret
            have hf := hfin.out (.slice (some ad) (n - k) 0) (by rw [hck.out, Nat.sub_self])
            exact ⟨ret_nat (by rw [hgo4.out]), by rw [hgo4.out]; exact hf.1, hf.2⟩
          · rw [if_neg hck] at hcut
            have hne1 : ∀ a2, some (ad.add k) = some a2 → a2.block ≠ g := fun a2 e => by injection e with e; subst e; rw [block_of_add]; exact hne ad rfl
            have hfin := Lib.hid (fun (v : Value) (e : v = .slice (some (ad.add k)) (n - k) (c - k)) => (show PW (w7.setCell ⟨g, 0, none⟩ v) g (ws.drop k) ∧ Upto g w (w7.setCell ⟨g, 0, none⟩ v) by
              subst e
              exact ⟨⟨⟨_, _, _, hB8.set_ 0 _, ((Upto.refl g w7).set_ 0 _).ss hcut hne1, hne1⟩, (h.2.1.below hb7).upto h.2.2 ((Upto.refl g w7).set_ 0 _), h.2.2⟩, ((Upto.refl g w).bel hb7).set_ 0 _⟩))
            go_wp2
            go_ret
            have hf := hfin.out _ rfl
            exact ⟨ret_nat (by rw [hgo4.out]), by rw [hgo4.out]; exact hf.1, hf.2⟩
        · have hn7p : 0 < n7 := by rw [← hn7]; cases rs with | nil => exact absurd rfl hrs | cons a b => simp
          have m1 : (0 : Int) < (n7 : Int) := by omega
          have hgo4 := Lib.hid (show ordF ws = (0, ws) by rw [hgo3.out, if_neg hrs])
          have hP8 := h.below hb7
          go_wp2
          go_ret
          exact ⟨ret_int (by rw [hgo4.out]; rfl), by rw [hgo4.out]; exact hP8, (Upto.refl g w).bel hb7⟩
    · have hin : i = n := by omega
      have hgo := Lib.hid (show ordF ws = (0, ws) by
        rw [hq.out, List.drop_eq_nil_of_le (by rw [hln.out]; omega), List.take_of_length_le (by rw [hln.out]; omega)]; rfl)
      subst hin
      go_wp2
      go_ret
      exact ⟨ret_int (by rw [hgo.out]; rfl), by rw [hgo.out]; exact hPr, (Upto.refl g w).bel hbel⟩
end Go.Proofs.YtpdfjlbfhnapkaaGreatDoor
