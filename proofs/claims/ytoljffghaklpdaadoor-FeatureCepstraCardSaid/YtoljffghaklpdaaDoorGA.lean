/- Appending a whole slice, nil or not, empty or not, to a row of the call's own. Nothing here speaks of a program's own functions. -/
import Derived.Test.YtoljffghaklpdaaDoorVMem
import Derived.Laws.AppendOwnNone
import Derived.Laws.OwnMore
import Derived.Deep.AppendLies
import Derived.Maps.AppendAt
import Derived.Lib.AppendZerosOnto
import Derived.Lib.Walk
import Derived.Deep.QuietTactic
import Derived.Test.YtoljffghaklpdaaDoorFD
namespace Go.Proofs.YtoljffghaklpdaaDoor
open Go.RowKit

theorem grown_refl (w : World) (row : Option Nat) : w.grownBy w row := ⟨rfl, rfl, rfl, Nat.le_refl _, fun _ _ _ => rfl⟩

/-- what the source's cells are -/
structure Src (w : World) (A : Option Addr) (m c : Nat) (news : List Value) (size : Nat) : Prop where
  len : news.length = m * size
  none_ : A = none → m = 0 ∧ c = 0
  cell : ∀ ad, A = some ad → ∀ j u, news[j]? = some u → w.cell? (ad.add j) = some u
  one : ∀ u ∈ news, u.oneCell' = true
theorem Src.of_sl {k : IntKind} {w : World} {A : Option Addr} {n c : Nat} {xs : List Int} (h : Sl k w A n c xs) (hA : A = none → c = 0) : Src w A n c (ivs k xs) 1 :=
  ⟨by rw [ivs_len, h.len, Nat.mul_one], fun e => by
      have h1 := hA e
      have := h.cap
      exact ⟨by omega, h1⟩, fun ad e j u hu => by subst e; exact h.news j u hu, oneCell_ivs k xs⟩

section
variable {P : Program} {w : World} {o : Oper} {a : Act} {Q : Exit → Act → World → Prop}
theorem run_append_any (t ty : TypeId) (base : Nat) (e : TypeId) (i : TypeInfo) (z : Value) (size bytes : Nat) (ht : P.underlying t = some (.slice e)) (hi : P.info? e = some i) (hz : i.zero = some z)
    (hsize : i.size = size) (hby : i.bytes = bytes) (hzs : z.cells.size = size) (hsz : 0 < size)
    (v : Value) (n : Nat) (xs : List Value) (hown : w.ownsRow base e size v n xs)
    (A : Option Addr) (m c : Nat) (news : List Value) (hS : Src w A m c news size)
    (h63 : n + m ≤ maxLen) (hbytes : (n + m) * bytes ≤ 140737488355328) (hbase : base ≤ w.heap.size) :
    ∃ v' w', (Builtin.append_ #[t, t] ty #[v, .slice A m c]).run P w = .ok v' w' ∧ w'.ownsRow base e size v' (n + m) (xs ++ news) ∧ w.grownBy w' v.ownBlock ∧ (v'.ownBlock = v.ownBlock ∨ v'.ownBlock = some w.heap.size) := by
  cases A with
  | none =>
    obtain ⟨rfl, rfl⟩ := hS.none_ rfl
    have hnil : news = [] := List.eq_nil_of_length_eq_zero (by have := hS.len; omega)
    subst hnil
    rw [List.append_nil]
    exact ⟨v, w, run_append_owned_none (P := P) (w := w) base t ty e i size ht hi v n xs hown, hown, grown_refl w _, .inl rfl⟩
  | some ad =>
    obtain ⟨v', w', hr, h2, h3, _, h5⟩ := run_append_own_at (P := P) w base t ty e i z size bytes ht hi hz hsize hby hzs hsz v n xs hown ad m c news hS.len (hS.cell ad rfl) hS.one h63 hbytes hbase
    exact ⟨v', w', hr, h2, h3, h5⟩
theorem wp_append_any {K : Act → World → Prop} (s x : Operand) (t : TypeId)
    (ho : o.op = .call { callee := .builtin .append, args := #[s, x], argTypes := #[t, t] })
    (base : Nat) (e : TypeId) (i : TypeInfo) (z : Value) (size bytes : Nat) (ht : P.underlying t = some (.slice e)) (hi : P.info? e = some i) (hz : i.zero = some z)
    (hsize : i.size = size) (hby : i.bytes = bytes) (hzs : z.cells.size = size) (hsz : 0 < size)
    (v : Value) (n : Nat) (xs : List Value) (hs : a.eval s = v) (hown : w.ownsRow base e size v n xs)
    (A : Option Addr) (m c : Nat) (news : List Value) (hx : a.eval x = .slice A m c) (hS : Src w A m c news size)
    (h63 : n + m ≤ maxLen) (hbytes : (n + m) * bytes ≤ 140737488355328) (hbase : base ≤ w.heap.size)
    (h : ∀ v' w', w'.ownsRow base e size v' (n + m) (xs ++ news) → w.grownBy w' v.ownBlock → (v'.ownBlock = v.ownBlock ∨ v'.ownBlock = some w.heap.size) → K (a.put o.dst v') w') : o.wp P a w K Q := by
  obtain ⟨v', w', hr, h2, h3, h5⟩ := run_append_any (P := P) (w := w) t o.type base e i z size bytes ht hi hz hsize hby hzs hsz v n xs hown A m c news hS h63 hbytes hbase
  unfold Oper.wp execOp
  simp only [ho, resolve, invoke, builtin, Sem.run_bind, Sem.run_pure, Result.andThen_ok, List.map_toArray, List.map_cons, List.map_nil, hs, hx, hr]
  exact h v' w' h2 h3 h5
theorem wpList_append_any {ops : Array Oper} {rest : List Oper} (hgd : o.guard = none) (s x : Operand) (t : TypeId)
    (ho : o.op = .call { callee := .builtin .append, args := #[s, x], argTypes := #[t, t] })
    (base : Nat) (e : TypeId) (i : TypeInfo) (z : Value) (size bytes : Nat) (ht : P.underlying t = some (.slice e)) (hi : P.info? e = some i) (hz : i.zero = some z)
    (hsize : i.size = size) (hby : i.bytes = bytes) (hzs : z.cells.size = size) (hsz : 0 < size)
    (v : Value) (n : Nat) (xs : List Value) (hs : a.eval s = v) (hown : w.ownsRow base e size v n xs)
    (A : Option Addr) (m c : Nat) (news : List Value) (hx : a.eval x = .slice A m c) (hS : Src w A m c news size)
    (h63 : n + m ≤ maxLen) (hbytes : (n + m) * bytes ≤ 140737488355328) (hbase : base ≤ w.heap.size)
    (h : ∀ v' w', w'.ownsRow base e size v' (n + m) (xs ++ news) → w.grownBy w' v.ownBlock → (v'.ownBlock = v.ownBlock ∨ v'.ownBlock = some w.heap.size) → wpList P ops Q rest (a.put o.dst v') w') : wpList P ops Q (o :: rest) a w :=
  wpList_plain hgd fun _ hK => wp_append_any s x t ho base e i z size bytes ht hi hz hsize hby hzs hsz v n xs hs hown A m c news hx hS h63 hbytes hbase fun v' w' h2 h3 h5 => hK _ _ (h v' w' h2 h3 h5)
theorem step_append_any {ops : Array Oper} {K : Act → World → Prop} {E : Prop} (hgd : o.guard = none) (s x : Operand) (t : TypeId)
    (ho : o.op = .call { callee := .builtin .append, args := #[s, x], argTypes := #[t, t] })
    (base : Nat) (e : TypeId) (i : TypeInfo) (z : Value) (size bytes : Nat) (ht : P.underlying t = some (.slice e)) (hi : P.info? e = some i) (hz : i.zero = some z)
    (hsize : i.size = size) (hby : i.bytes = bytes) (hzs : z.cells.size = size) (hsz : 0 < size)
    (v : Value) (n : Nat) (xs : List Value) (hs : a.eval s = v) (hown : w.ownsRow base e size v n xs)
    (A : Option Addr) (m c : Nat) (news : List Value) (hx : a.eval x = .slice A m c) (hS : Src w A m c news size)
    (h63 : n + m ≤ maxLen) (hbytes : (n + m) * bytes ≤ 140737488355328) (hbase : base ≤ w.heap.size)
    (h : ∀ v' w', w'.ownsRow base e size v' (n + m) (xs ++ news) → w.grownBy w' v.ownBlock → (v'.ownBlock = v.ownBlock ∨ v'.ownBlock = some w.heap.size) → K (a.put o.dst v') w') :
    if Region.wanted o (yielded ops a.tmps) = true then Oper.wp P o a w K Q else E := by
  have hw : Region.wanted o (yielded ops a.tmps) = true := by simp [Region.wanted, hgd]
  rw [if_pos hw]
  exact wp_append_any s x t ho base e i z size bytes ht hi hz hsize hby hzs hsz v n xs hs hown A m c news hx hS h63 hbytes hbase h
end
theorem own_same {a b : World} {base e size n : Nat} {v : Value} {xs : List Value} (h : a.ownsRow base e size v n xs) (hb : ∀ k, base ≤ k → k < a.heap.size → b.heap[k]? = a.heap[k]?) : b.ownsRow base e size v n xs := by
  obtain ⟨hl, h2⟩ := h
  rcases h2 with h2 | ⟨g, cap, cur, rfl, h3, h4, h5, h6, h7, h8⟩
  · exact ⟨hl, .inl h2⟩
  · have hlt : g < a.heap.size := by
      rcases Nat.lt_or_ge g a.heap.size with h | h
      · exact h
      · rw [Array.getElem?_eq_none h] at h4; cases h4
    exact ⟨hl, .inr ⟨g, cap, cur, rfl, h3, (hb g h3 hlt).trans h4, h5, h6, h7, h8⟩⟩
theorem own_below {a b : World} {base e size n : Nat} {v : Value} {xs : List Value} (h : a.ownsRow base e size v n xs) (hb : Below a.heap.size a b) : b.ownsRow base e size v n xs :=
  own_same h fun k _ hk => hb.block k hk
theorem own_mono {a : World} {base base' e size n : Nat} {v : Value} {xs : List Value} (h : a.ownsRow base e size v n xs) (hb : base' ≤ base) : a.ownsRow base' e size v n xs := by
  obtain ⟨hl, h2⟩ := h
  rcases h2 with h2 | ⟨g, cap, cur, rfl, h3, h4⟩
  · exact ⟨hl, .inl h2⟩
  · exact ⟨hl, .inr ⟨g, cap, cur, rfl, Nat.le_trans hb h3, h4⟩⟩
theorem own_grown {a b : World} {base e size n : Nat} {v : Value} {xs : List Value} {row : Option Nat} (h : a.ownsRow base e size v n xs) (hb : a.grownBy b row) (hr : ∀ k, row = some k → ¬ (base ≤ k)) : b.ownsRow base e size v n xs :=
  own_same h fun k hk hlt => hb.block k hlt (fun e => hr k e.symm hk)
/-- a row of the call's own as a source -/
theorem Src.of_own {w : World} {base e size n : Nat} {v : Value} {xs : List Value} (h : w.ownsRow base e size v n xs) (h1 : ∀ u ∈ xs, u.oneCell' = true) : ∃ A c, v = .slice A n c ∧ Src w A n c xs size := by
  have hl := h.1
  rcases h.2 with ⟨rfl, h0⟩ | ⟨g, cap, cur, hv, h3, h4, h5, h6, h7, h8⟩
  · subst h0
    exact ⟨none, 0, rfl, hl, fun _ => ⟨rfl, rfl⟩, fun ad e => by (cases e), h1⟩
  · subst hv
    have hown : w.ownsRow base e size (.slice (some ⟨g, 0, none⟩) n cap) n xs := h
    exact ⟨some ⟨g, 0, none⟩, cap, rfl, hl, fun e => by (cases e), fun ad e => by
      injection e with e
      subst e
      exact hown.cells (g := g) rfl, h1⟩
theorem Src.nil (w : World) (size : Nat) : Src w none 0 0 [] size := ⟨by simp, fun _ => ⟨rfl, rfl⟩, fun ad e => by (cases e), fun u hu => by simp at hu⟩
theorem blt_of_cell {w : World} {p : Addr} {u : Value} (h : w.cell? p = some u) : p.block < w.heap.size := World.block_lt_of_cell? _ _ h
theorem Src.keep {w w' : World} {A : Option Addr} {m c size : Nat} {news : List Value} (h : Src w A m c news size) (hk : ∀ ad, A = some ad → ad.block < w.heap.size → ∀ p : Addr, p.block = ad.block → w'.cell? p = w.cell? p) : Src w' A m c news size :=
  ⟨h.len, h.none_, fun ad e j u hu => by
    have hc := h.cell ad e j u hu
    have hlt := blt_of_cell hc
    rw [block_of_add] at hlt
    exact (hk ad e hlt (ad.add j) (block_of_add ad j)).trans hc, h.one⟩
theorem Src.below {w w' : World} {A : Option Addr} {m c size : Nat} {news : List Value} (h : Src w A m c news size) (hb : Below w.heap.size w w') : Src w' A m c news size :=
  h.keep fun ad _ hlt p hp => hb.cell (by omega)
theorem cell_grown {w w' : World} {row : Option Nat} (hb : w.grownBy w' row) {p : Addr} (hp : p.block < w.heap.size) (hr : some p.block ≠ row) : w'.cell? p = w.cell? p := World.cell?_of_block (hb.block _ hp hr)


/-- what was there is as it was, but for a row that is new -/
theorem bel_grown2 {w0 w w' : World} {row : Option Nat} (hb : Below w0.heap.size w0 w) (hg : w.grownBy w' row) (hr : ∀ k, row = some k → w0.heap.size ≤ k) : Below w0.heap.size w0 w' :=
  ⟨hg.os.trans hb.os, hg.tape.trans hb.tape, hg.output.trans hb.output, Nat.le_trans hb.size hg.size, fun k hk => (hg.block k (Nat.lt_of_lt_of_le hk hb.size) (fun e => by have := hr k e.symm; omega)).trans (hb.block k hk)⟩
end Go.Proofs.YtoljffghaklpdaaDoor

namespace Go.Proofs.YtoljffghaklpdaaDoor
open Go.RowKit

def sumN (n : Nat → Nat) : Nat → Nat
  | 0 => 0
  | k + 1 => sumN n k + n k
theorem sumN_succ (n : Nat → Nat) (k : Nat) : sumN n (k + 1) = sumN n k + n k := rfl
theorem sumN_le (n : Nat → Nat) {k K : Nat} (h : k ≤ K) : sumN n k ≤ sumN n K := by
  induction K with
  | zero =>
    have : k = 0 := by omega
    subst this
    exact Nat.le_refl _
  | succ K ih =>
    rcases Nat.lt_or_ge K k with h1 | h1
    · have : k = K + 1 := by omega
      subst this
      exact Nat.le_refl _
    · rw [sumN_succ]
      have := ih h1
      omega
def catN {α : Type} (xs : Nat → List α) : Nat → List α
  | 0 => []
  | k + 1 => catN xs k ++ xs k
theorem catN_succ {α : Type} (xs : Nat → List α) (k : Nat) : catN xs (k + 1) = catN xs k ++ xs k := rfl

/-- the slice value reads as the slice values (a j, n j, cc j) -/
structure Ls (w : World) (A : Option Addr) (K c : Nat) (a : Nat → Option Addr) (n cc : Nat → Nat) : Prop where
  cap : K ≤ c
  top : c ≤ 9223372036854775807
  cell : 0 < K → ∃ ad, A = some ad ∧ ∀ j, j < K → w.cell? (ad.add j) = some (.slice (a j) (n j) (cc j))
theorem Ls.at_ {w : World} {A : Option Addr} {K c : Nat} {a : Nat → Option Addr} {n cc : Nat → Nat} (h : Ls w A K c a n cc) {j : Nat} (hj : j < K) : ∃ ad, A = some ad ∧ w.cell? (ad.add j) = some (.slice (a j) (n j) (cc j)) := by
  obtain ⟨ad, e, hc⟩ := h.cell (by omega)
  exact ⟨ad, e, hc j hj⟩
theorem Ls.below {w w' : World} {A : Option Addr} {K c : Nat} {a : Nat → Option Addr} {n cc : Nat → Nat} (h : Ls w A K c a n cc) (hb : Below w.heap.size w w') : Ls w' A K c a n cc :=
  ⟨h.cap, h.top, fun hn => by
    obtain ⟨ad, e, hc⟩ := h.cell hn
    exact ⟨ad, e, fun r hr => by
      have := hc r hr
      rw [hb.cell (World.block_lt_of_cell? _ _ this)]; exact this⟩⟩
theorem Rs.ls {w : World} {A : Option Addr} {n c : Nat} {B : Nat → Option Addr} {L C : Nat → Nat} {X : Nat → List Int} (h : Rs w A n c B L C X) : Ls w A n c B L C := ⟨h.cap, h.top, h.cell⟩

theorem growV_zero (w : World) : Calls Tryd.prog 115 #[.slice none 0 0, .int .i64 0] w fun e w' => e = .returned (.slice none 0 0) ∧ w' = w := by
  go_enter Tryd.func115, Tryd.ntmps115
  go_wp2
  go_ret
  exact ⟨rfl, rfl⟩
set_option maxHeartbeats 800000 in
set_option maxRecDepth 100000 in
theorem growV_any (N : Nat) (w : World) (hN : N ≤ 1000000) :
    Calls Tryd.prog 115 #[.slice none 0 0, .int .i64 (N : Int)] w fun e w' => ∃ V, e = .returned V ∧ w'.ownsRow w.heap.size 30 1 V 0 [] ∧ Below w.heap.size w w' := by
  rcases Nat.eq_zero_or_pos N with rfl | hp
  · exact (growV_zero w).mono fun e w' ⟨he, hw⟩ => ⟨_, he, World.ownsRow_nil _ _ _ _, by rw [hw]; exact Below.refl _ _⟩
  · obtain ⟨i0, hi, hz0, hz1, hz2⟩ := info_parts info_sl
    have hap : ∀ ty, (Builtin.append_ #[46, 3] ty #[.slice none 0 0, .int .i64 (N : Int)]).run Tryd.prog w = _ := fun ty =>
      Lib.run_append_grow_zeros w 46 3 ty 30 i0 (.slice none 0 0) .i64 .i64 Tryd.underlying46 Tryd.underlying3 hi hz0 none 0 0 [] (run_firstCells_none w.drew i0.size 0 0 0) N hp (by rw [hz1]; decide) (by omega) (by omega)
        (by rw [hz2]; omega) (growslice_fits (by omega) (by rw [hz2]; omega))
    have g1 := grownCap_ge w (0 + N) 0 30
    have g2 := grownCap_le_maxLen w (0 + N) 0 30 (by unfold maxLen; omega)
    rw [Nat.zero_add] at hap g1 g2
    generalize grownCap w N 0 30 = G at *
    obtain ⟨cs, hcs⟩ : ∃ cs, (([] : List Value).toArray ++ Builtin.zeroCells (Value.cells (.slice none 0 0)) N ++ Builtin.zeroCells (Value.cells (.slice none 0 0)) (G - N)) = cs := ⟨_, rfl⟩
    have hsz : cs.size = G * 1 := by
      rw [← hcs]
      simp [Builtin.zeroCells, Value.cells]
      omega
    rw [hcs] at hap
    clear hcs
    have h1 : ¬ ((N : Int) < 0) := by omega
    have h2 : wrap64 ((N : Int) - (0 - 0)) = (N : Int) := by unfold wrap64; omega
    have hd : decide (0 < (N : Int)) = true := decide_eq_true (by omega)
    unfold maxLen at g2
    have hnew : (w.drew.alloc (.cells cs 30)).heap[w.heap.size]? = some (.cells cs 30 (0, 0)) := heap_alloc_new w.drew _
    have hbl : Below w.heap.size w (w.drew.alloc (.cells cs 30)) := (bel_drewN (Below.refl _ _) 1).alloc (Nat.le_refl _) _
    go_enter Tryd.func115, Tryd.ntmps115
    go_wp2_with (at_builtin; refine Lib.wpList_append_run _ rfl _ _ _ _ rfl _ _ rfl rfl _ _ (hap _) ?_)
    go_ret
    exact ⟨_, rfl, ⟨rfl, .inr ⟨w.heap.size, G, cs, rfl, Nat.le_refl _, hnew, by omega, (by unfold maxLen; omega), hsz, by simp⟩⟩, hbl⟩

set_option maxHeartbeats 1600000 in
set_option maxRecDepth 100000 in
theorem concatV_any (A : Option Addr) (K c : Nat) (a : Nat → Option Addr) (n cc : Nat → Nat) (news : Nat → List Value) (w : World) (h : Ls w A K c a n cc) (hS : ∀ j, j < K → Src w (a j) (n j) (cc j) (news j) 1) (hN : sumN n K ≤ 1000000) :
    Calls Tryd.prog 99 #[.slice A K c] w fun e w' => ∃ V, e = .returned V ∧ w'.ownsRow w.heap.size 30 1 V (sumN n K) (catN news K) ∧ Below w.heap.size w w' := by
  have hcap := h.cap
  have htop := h.top
  have hS := Lib.hid hS
  have hN := Lib.hid (fun k (hk : k ≤ K) => Nat.le_trans (sumN_le n hk) hN)
  obtain ⟨i0, hi, hz0, hz1, hz2⟩ := info_parts info_sl
  go_enter Tryd.func99, Tryd.ntmps99
  go_wp2
  go_loop [3, 11] (fun sv iv => ∃ k : Nat, k ≤ K ∧ iv = .int .i64 k ∧ sv = .int .i64 (sumN n k : Nat)) (fun _ iv => K - (intOf iv).toNat)
  case atStart => exact ⟨0, Nat.zero_le _, rfl, rfl⟩
  case round =>
    obtain ⟨k, hk, rfl, rfl⟩ := hrel
    have hb1 := hN.out k hk
    rcases Nat.lt_or_ge k K with hlt | hge
    · obtain ⟨ad, rfl, hc⟩ := h.at_ hlt
      have hb2 := hN.out (k + 1) hlt
      have hs : ((sumN n (k + 1) : Nat) : Int) = (sumN n k : Nat) + (n k : Nat) := by rw [sumN_succ, Int.natCast_add]
      have hs2 : sumN n (k + 1) = sumN n k + n k := sumN_succ n k
      have hsH := Lib.hid hs
      clear hs
      generalize hq : sumN n (k + 1) = S2 at *
      generalize sumN n k = S1 at *
      have hd : decide ((S1 : Int) + (n k : Int) < 0) = false := decide_eq_false (by omega)
      have hle : (S1 : Int) + (n k : Int) ≤ 1000000 := by omega
      go_wp2
      go_round
      case rel => exact ⟨k + 1, by omega, by go_num, by rw [hq, hsH.out]⟩
      case measure => simp [intOf]; omega
    · have hkK : k = K := by omega
      subst hkK
      go_wp2_with fail
      refine (growV_any (sumN n k) w hb1).mono ?_
      rintro e w1 ⟨V1, rfl, hown, hb⟩
      go_wp2
      go_loopw [6, 27] (fun pv iv wr => ∃ (j : Nat) (V : Value), iv = .int .i64 j ∧ V = pv ∧ j ≤ k ∧ wr.ownsRow w.heap.size 30 1 V (sumN n j) (catN news j) ∧ Below w.heap.size w wr) (fun _ iv _ => k - (intOf iv).toNat)
      case atStart => exact ⟨0, _, rfl, rfl, Nat.zero_le _, hown, hb⟩
      case round =>
        obtain ⟨j, pv, rfl, rfl, hj, hO, hB⟩ := hrel
        rcases Nat.lt_or_ge j k with hjl | hjg
        · have hr := h.below hB
          obtain ⟨ad, rfl, hc⟩ := hr.at_ hjl
          have hSj := Lib.hid ((hS.out j hjl).below hB)
          have hbz := hB.size
          have hsum := Lib.hid (show sumN n j + n j ≤ 1000000 by rw [← sumN_succ]; exact hN.out (j + 1) hjl)
          have hlt2 := Lib.hid hO.lt
          go_wp2_with (at_builtin; refine wpList_append_any rfl (.tmp 31) (.tmp 32) 46 rfl w.heap.size 30 i0 (.slice none 0 0) 1 24 Tryd.underlying46 hi hz0 hz1 hz2 rfl (by decide) pv (sumN n j) (catN news j) rfl hO (a j) (n j) (cc j) (news j) rfl hSj.out (by have := hsum.out; unfold maxLen; omega) (by have := hsum.out; omega) hbz ?_; intro V2 w2 h1 h2 h3)
          have hB2 : Below w.heap.size w w2 := bel_grown2 hB h2 (fun q e => (hlt2.out q e).1)
          go_wp2
          go_roundw
          case rel => exact ⟨j + 1, _, by go_num, rfl, hjl, by rw [sumN_succ, catN_succ]; exact h1, hB2⟩
          case measure => simp [intOf]; omega
        · have hjk : j = k := by omega
          subst hjk
          go_wp2
          go_ret
          exact ⟨_, rfl, hO, hB⟩

theorem growI_zero (w : World) : Calls Tryd.prog 101 #[.slice none 0 0, .int .i64 0] w fun e w' => e = .returned (.slice none 0 0) ∧ w' = w := by
  go_enter Tryd.func101, Tryd.ntmps101
  go_wp2
  go_ret
  exact ⟨rfl, rfl⟩
set_option maxHeartbeats 800000 in
set_option maxRecDepth 100000 in
theorem growI_any (N : Nat) (w : World) (hN : N ≤ 1000000) :
    Calls Tryd.prog 101 #[.slice none 0 0, .int .i64 (N : Int)] w fun e w' => ∃ V, e = .returned V ∧ w'.ownsRow w.heap.size 3 1 V 0 [] ∧ Below w.heap.size w w' := by
  rcases Nat.eq_zero_or_pos N with rfl | hp
  · exact (growI_zero w).mono fun e w' ⟨he, hw⟩ => ⟨_, he, World.ownsRow_nil _ _ _ _, by rw [hw]; exact Below.refl _ _⟩
  · obtain ⟨i0, hi, hz0, hz1, hz2⟩ := info_parts info_int
    have hap : ∀ ty, (Builtin.append_ #[30, 3] ty #[.slice none 0 0, .int .i64 (N : Int)]).run Tryd.prog w = _ := fun ty =>
      Lib.run_append_grow_zeros w 30 3 ty 3 i0 (.int .i64 0) .i64 .i64 Tryd.underlying30 Tryd.underlying3 hi hz0 none 0 0 [] (run_firstCells_none w.drew i0.size 0 0 0) N hp (by rw [hz1]; decide) (by omega) (by omega)
        (by rw [hz2]; omega) (growslice_fits (by omega) (by rw [hz2]; omega))
    have g1 := grownCap_ge w (0 + N) 0 3
    have g2 := grownCap_le_maxLen w (0 + N) 0 3 (by unfold maxLen; omega)
    rw [Nat.zero_add] at hap g1 g2
    generalize grownCap w N 0 3 = G at *
    obtain ⟨cs, hcs⟩ : ∃ cs, (([] : List Value).toArray ++ Builtin.zeroCells (Value.cells (.int .i64 0)) N ++ Builtin.zeroCells (Value.cells (.int .i64 0)) (G - N)) = cs := ⟨_, rfl⟩
    have hsz : cs.size = G * 1 := by
      rw [← hcs]
      simp [Builtin.zeroCells, Value.cells]
      omega
    rw [hcs] at hap
    clear hcs
    have h1 : ¬ ((N : Int) < 0) := by omega
    have h2 : wrap64 ((N : Int) - (0 - 0)) = (N : Int) := by unfold wrap64; omega
    have hd : decide (0 < (N : Int)) = true := decide_eq_true (by omega)
    unfold maxLen at g2
    have hnew : (w.drew.alloc (.cells cs 3)).heap[w.heap.size]? = some (.cells cs 3 (0, 0)) := heap_alloc_new w.drew _
    have hbl : Below w.heap.size w (w.drew.alloc (.cells cs 3)) := (bel_drewN (Below.refl _ _) 1).alloc (Nat.le_refl _) _
    go_enter Tryd.func101, Tryd.ntmps101
    go_wp2_with (at_builtin; refine Lib.wpList_append_run _ rfl _ _ _ _ rfl _ _ rfl rfl _ _ (hap _) ?_)
    go_ret
    exact ⟨_, rfl, ⟨rfl, .inr ⟨w.heap.size, G, cs, rfl, Nat.le_refl _, hnew, by omega, (by unfold maxLen; omega), hsz, by simp⟩⟩, hbl⟩

set_option maxHeartbeats 1600000 in
set_option maxRecDepth 100000 in
theorem concatI_any (A : Option Addr) (K c : Nat) (a : Nat → Option Addr) (n cc : Nat → Nat) (news : Nat → List Value) (w : World) (h : Ls w A K c a n cc) (hS : ∀ j, j < K → Src w (a j) (n j) (cc j) (news j) 1) (hN : sumN n K ≤ 1000000) :
    Calls Tryd.prog 77 #[.slice A K c] w fun e w' => ∃ V, e = .returned V ∧ w'.ownsRow w.heap.size 3 1 V (sumN n K) (catN news K) ∧ Below w.heap.size w w' := by
  have hcap := h.cap
  have htop := h.top
  have hS := Lib.hid hS
  have hN := Lib.hid (fun k (hk : k ≤ K) => Nat.le_trans (sumN_le n hk) hN)
  obtain ⟨i0, hi, hz0, hz1, hz2⟩ := info_parts info_int
  go_enter Tryd.func77, Tryd.ntmps77
  go_wp2
  go_loop [3, 11] (fun sv iv => ∃ k : Nat, k ≤ K ∧ iv = .int .i64 k ∧ sv = .int .i64 (sumN n k : Nat)) (fun _ iv => K - (intOf iv).toNat)
  case atStart => exact ⟨0, Nat.zero_le _, rfl, rfl⟩
  case round =>
    obtain ⟨k, hk, rfl, rfl⟩ := hrel
    have hb1 := hN.out k hk
    rcases Nat.lt_or_ge k K with hlt | hge
    · obtain ⟨ad, rfl, hc⟩ := h.at_ hlt
      have hb2 := hN.out (k + 1) hlt
      have hs : ((sumN n (k + 1) : Nat) : Int) = (sumN n k : Nat) + (n k : Nat) := by rw [sumN_succ, Int.natCast_add]
      have hs2 : sumN n (k + 1) = sumN n k + n k := sumN_succ n k
      have hsH := Lib.hid hs
      clear hs
      generalize hq : sumN n (k + 1) = S2 at *
      generalize sumN n k = S1 at *
      have hd : decide ((S1 : Int) + (n k : Int) < 0) = false := decide_eq_false (by omega)
      have hle : (S1 : Int) + (n k : Int) ≤ 1000000 := by omega
      go_wp2
      go_round
      case rel => exact ⟨k + 1, by omega, by go_num, by rw [hq, hsH.out]⟩
      case measure => simp [intOf]; omega
    · have hkK : k = K := by omega
      subst hkK
      go_wp2_with fail
      refine (growI_any (sumN n k) w hb1).mono ?_
      rintro e w1 ⟨V1, rfl, hown, hb⟩
      go_wp2
      go_loopw [6, 27] (fun pv iv wr => ∃ (j : Nat) (V : Value), iv = .int .i64 j ∧ V = pv ∧ j ≤ k ∧ wr.ownsRow w.heap.size 3 1 V (sumN n j) (catN news j) ∧ Below w.heap.size w wr) (fun _ iv _ => k - (intOf iv).toNat)
      case atStart => exact ⟨0, _, rfl, rfl, Nat.zero_le _, hown, hb⟩
      case round =>
        obtain ⟨j, pv, rfl, rfl, hj, hO, hB⟩ := hrel
        rcases Nat.lt_or_ge j k with hjl | hjg
        · have hr := h.below hB
          obtain ⟨ad, rfl, hc⟩ := hr.at_ hjl
          have hSj := Lib.hid ((hS.out j hjl).below hB)
          have hbz := hB.size
          have hsum := Lib.hid (show sumN n j + n j ≤ 1000000 by rw [← sumN_succ]; exact hN.out (j + 1) hjl)
          have hlt2 := Lib.hid hO.lt
          go_wp2_with (at_builtin; refine wpList_append_any rfl (.tmp 31) (.tmp 32) 30 rfl w.heap.size 3 i0 (.int .i64 0) 1 8 Tryd.underlying30 hi hz0 hz1 hz2 rfl (by decide) pv (sumN n j) (catN news j) rfl hO (a j) (n j) (cc j) (news j) rfl hSj.out (by have := hsum.out; unfold maxLen; omega) (by have := hsum.out; omega) hbz ?_; intro V2 w2 h1 h2 h3)
          have hB2 : Below w.heap.size w w2 := bel_grown2 hB h2 (fun q e => (hlt2.out q e).1)
          go_wp2
          go_roundw
          case rel => exact ⟨j + 1, _, by go_num, rfl, hjl, by rw [sumN_succ, catN_succ]; exact h1, hB2⟩
          case measure => simp [intOf]; omega
        · have hjk : j = k := by omega
          subst hjk
          go_wp2
          go_ret
          exact ⟨_, rfl, hO, hB⟩
end Go.Proofs.YtoljffghaklpdaaDoor

namespace Go.Proofs.YtoljffghaklpdaaDoor
open Go.RowKit

/-- the slice values read as the lists -/
def RowL (w : World) (news : List Value) (vs : List (List Int)) : Prop :=
  news.length = vs.length ∧ ∀ (i : Nat) (v : Value), news[i]? = some v → ∃ B L C x, v = Value.slice B L C ∧ vs[i]? = some (x : List Int) ∧ Sl .i64 w B L C x ∧ (B = none → C = 0) ∧ L ≤ 17592186044416
theorem RowL.nil (w : World) : RowL w [] [] := ⟨rfl, fun i v h => by simp at h⟩
theorem RowL.below {w w' : World} {news : List Value} {vs : List (List Int)} (h : RowL w news vs) (hb : Below w.heap.size w w') : RowL w' news vs :=
  ⟨h.1, fun i v hv => by
    obtain ⟨B, L, C, x, e, hx, hS, h1, h2⟩ := h.2 i v hv
    exact ⟨B, L, C, x, e, hx, hS.below hb, h1, h2⟩⟩
theorem RowL.app {w : World} {n1 n2 : List Value} {v1 v2 : List (List Int)} (h1 : RowL w n1 v1) (h2 : RowL w n2 v2) : RowL w (n1 ++ n2) (v1 ++ v2) :=
  ⟨by rw [List.length_append, List.length_append, h1.1, h2.1], fun i v hv => by
    rcases Nat.lt_or_ge i n1.length with hi | hi
    · rw [List.getElem?_append_left hi] at hv
      obtain ⟨B, L, C, x, e, hx, h3⟩ := h1.2 i v hv
      exact ⟨B, L, C, x, e, by rw [List.getElem?_append_left (by rw [← h1.1]; exact hi)]; exact hx, h3⟩
    · rw [List.getElem?_append_right hi] at hv
      obtain ⟨B, L, C, x, e, hx, h3⟩ := h2.2 _ v hv
      exact ⟨B, L, C, x, e, by rw [List.getElem?_append_right (by rw [← h1.1]; exact hi), ← h1.1]; exact hx, h3⟩⟩
theorem RowL.one {w : World} {B : Option Addr} {L C : Nat} {x : List Int} (h : Sl .i64 w B L C x) (h1 : B = none → C = 0) (h2 : L ≤ 17592186044416) : RowL w [.slice B L C] [x] :=
  ⟨rfl, fun i v hv => by
    cases i with
    | zero =>
      simp at hv
      subst hv
      exact ⟨B, L, C, x, rfl, rfl, h, h1, h2⟩
    | succ i => simp at hv⟩
theorem RowL.catN {w : World} {news : Nat → List Value} {vs : Nat → List (List Int)} {K : Nat} (h : ∀ j, j < K → RowL w (news j) (vs j)) : RowL w (Go.Proofs.YtoljffghaklpdaaDoor.catN news K) (Go.Proofs.YtoljffghaklpdaaDoor.catN vs K) := by
  induction K with
  | zero => exact RowL.nil w
  | succ K ih => exact (ih (fun j hj => h j (by omega))).app (h K (by omega))

/-- the slice value reads as the lists vs -/
structure Rr (w : World) (A : Option Addr) (n c : Nat) (vs : List (List Int)) : Prop where
  cap : n ≤ c
  top : c ≤ 9223372036854775807
  ex : ∃ news, Src w A n c news 1 ∧ RowL w news vs
section
variable {w w' : World} {A : Option Addr} {n c : Nat} {vs : List (List Int)}
theorem Rr.len (h : Rr w A n c vs) : vs.length = n := by
  obtain ⟨news, h1, h2⟩ := h.ex
  have := h1.len
  rw [h2.1] at this
  omega
theorem Rr.below (h : Rr w A n c vs) (hb : Below w.heap.size w w') : Rr w' A n c vs :=
  ⟨h.cap, h.top, by
    obtain ⟨news, h1, h2⟩ := h.ex
    exact ⟨news, h1.below hb, h2.below hb⟩⟩
theorem Rr.at_ (h : Rr w A n c vs) {i : Nat} (hi : i < n) : ∃ ad B L C x, A = some ad ∧ w.cell? (ad.add i) = some (.slice B L C) ∧ Hid (vs[i]? = some x) ∧ Sl .i64 w B L C x ∧ (B = none → C = 0) ∧ L ≤ 17592186044416 := by
  obtain ⟨news, h1, h2⟩ := h.ex
  have hl : i < news.length := by have := h1.len; omega
  obtain ⟨B, L, C, x, e, hx, hS, h3, h4⟩ := h2.2 i _ (List.getElem?_eq_getElem hl)
  cases hA : A with
  | none =>
    have := h1.none_ hA
    omega
  | some ad => exact ⟨ad, B, L, C, x, rfl, h1.cell ad hA i _ (by rw [List.getElem?_eq_getElem hl, e]), hx, hS, h3, h4⟩
theorem Rr.nil (w : World) : Rr w none 0 0 [] := ⟨Nat.le_refl _, by decide, [], Src.nil w 1, RowL.nil w⟩
theorem Rr.of_own {base n : Nat} {V : Value} {news : List Value} (h : w.ownsRow base 30 1 V n news) (hR : RowL w news vs) : ∃ A c, V = .slice A n c ∧ Rr w A n c vs := by
  have h1 : ∀ u ∈ news, u.oneCell' = true := by
    intro u hu
    obtain ⟨i, hi, rfl⟩ := List.getElem_of_mem hu
    obtain ⟨B, L, C, x, e, _⟩ := hR.2 i _ (List.getElem?_eq_getElem hi)
    rw [e]; rfl
  obtain ⟨A, c, rfl, hS⟩ := Src.of_own h h1
  rcases h.2 with ⟨e, rfl⟩ | ⟨g, cap, cur, e, h3, h4, h5, h6, h7, h8⟩
  · injection e with e1 e2 e3
    subst e1 e3
    exact ⟨none, 0, rfl, Nat.le_refl _, by decide, news, hS, hR⟩
  · injection e with e1 e2 e3
    subst e1 e3
    exact ⟨_, _, rfl, h5, by simpa [maxLen] using h6, news, hS, hR⟩
theorem Rr.of_rs {B : Nat → Option Addr} {L C : Nat → Nat} {X : Nat → List Int} (h : Rs w A n c B L C X) (hA : A = none → c = 0) : Rr w A n c ((List.range n).map X) :=
  ⟨h.cap, h.top, (List.range n).map fun r => .slice (B r) (L r) (C r), ⟨by simp, fun e => by have := hA e; have := h.cap; omega, fun ad e j u hu => by
      have hj := lt_of_some hu
      simp at hj
      obtain ⟨ad', e2, hc⟩ := h.cell (by omega)
      rw [e] at e2
      injection e2 with e2
      subst e2
      rw [hc j hj]
      simp [hj] at hu
      rw [hu], fun u hu => by
      simp at hu
      obtain ⟨r, _, rfl⟩ := hu
      rfl⟩, by simp, fun i v hv => by
      have hj := lt_of_some hv
      simp at hj
      simp [hj] at hv
      exact ⟨B i, L i, C i, X i, hv.symm, by simp [hj], h.row i hj, h.nil i hj, h.few i hj⟩⟩
end

/-- a vector -/
def vecB (x : List Int) : Bool := okB 1 64 x.length && allB (-1048576) 1048576 x
theorem isVector_any (A : Option Addr) (n c : Nat) (xs : List Int) (w : World) (h : Sl .i64 w A n c xs) :
    Calls Tryd.prog 100 #[.slice A n c] w fun e w' => e = .returned (.bool (vecB xs)) ∧ w' = w := by
  have hl := Lib.hid h.len
  have hcap := h.cap
  have htop := h.top
  cases hk : okB 1 64 (n : Int) with
  | false =>
    have hv := Lib.hid (show vecB xs = false by unfold vecB; rw [hl.out, hk]; rfl)
    have hk := Lib.hid hk
    go_enter Tryd.func100, Tryd.ntmps100
    go_wp2_with fail
    refine (within_any _ _ _ _).mono ?_
    rintro e w' ⟨rfl, rfl⟩
    rw [hk.out]
    go_wp2
    go_ret
    exact ⟨ret_bool hv.out.symm, rfl⟩
  | true =>
    have hv := Lib.hid (show vecB xs = allB (-1048576) 1048576 xs by unfold vecB; rw [hl.out, hk]; rfl)
    have hk := Lib.hid hk
    go_enter Tryd.func100, Tryd.ntmps100
    go_wp2_with fail
    refine (within_any _ _ _ _).mono ?_
    rintro e w' ⟨rfl, rfl⟩
    rw [hk.out]
    go_wp2_with fail
    refine (allUpTo_any _ _ _ _ 1048576 _ h (by decide) (by decide)).mono ?_
    rintro e w' ⟨rfl, rfl⟩
    go_wp2
    go_ret
    exact ⟨ret_bool hv.out.symm, rfl⟩

def rowOk (vs : List (List Int)) (x : List Int) : Bool := vecB x && decide (x.length = (vs.headD []).length)
/-- vectors with the same number of components -/
def vecsB (vs : List (List Int)) : Bool := vs.all (rowOk vs)
def longB (K : Nat) (n : Nat → Nat) : Bool := (List.range K).any fun j => decide (10000 < n j)
theorem longB_succ (K : Nat) (n : Nat → Nat) : longB (K + 1) n = (longB K n || decide (10000 < n K)) := by unfold longB; simp [List.range_succ]
theorem longB_le {K : Nat} {n : Nat → Nat} (h : longB K n = false) : ∀ j, j < K → n j ≤ 10000 := by
  intro j hj
  unfold longB at h
  rw [List.any_eq_false] at h
  have := h j (List.mem_range.2 hj)
  simpa using this
theorem longB_yes {K k : Nat} {n : Nat → Nat} (hk : k < K) (h : 10000 < n k) : longB K n = true := by
  unfold longB
  rw [List.any_eq_true]
  exact ⟨k, List.mem_range.2 hk, by simpa using h⟩
theorem sumN_bd {n : Nat → Nat} {K : Nat} (h : ∀ j, j < K → n j ≤ 10000) : sumN n K ≤ K * 10000 := by
  induction K with
  | zero => exact Nat.le_refl _
  | succ K ih =>
    rw [sumN_succ]
    have := ih (fun j hj => h j (by omega))
    have := h K (by omega)
    omega
/-- the code for lists of vectors -/
def chkV (K : Nat) (n : Nat → Nat) (vs : List (List Int)) : Int := if longB K n = true then 5 else if vecsB vs = true then 0 else 2
theorem take_all_snoc {vs : List (List Int)} {k : Nat} {x : List Int} {f : List Int → Bool} (h : (vs.take k).all f = true) (hx : vs[k]? = some x) (hf : f x = true) : (vs.take (k + 1)).all f = true := by
  have hk := lt_of_some hx
  rw [take_snoc hk, List.all_append, h]
  rw [List.getElem?_eq_getElem hk] at hx
  injection hx with hx
  simp [hx, hf]
theorem all_no {vs : List (List Int)} {k : Nat} {x : List Int} {f : List Int → Bool} (hx : vs[k]? = some x) (hf : f x = false) : vs.all f = false := by
  have hk := lt_of_some hx
  rw [List.getElem?_eq_getElem hk] at hx
  injection hx with hx
  rw [List.all_eq_false]
  exact ⟨x, by rw [← hx]; exact List.getElem_mem hk, by rw [hf]; simp⟩
theorem head_of {vs : List (List Int)} {x : List Int} (hx : vs[0]? = some x) : vs.headD [] = x := by
  cases vs with
  | nil => simp at hx
  | cons y ys => simpa using hx

set_option maxHeartbeats 1600000 in
set_option maxRecDepth 100000 in
theorem checkVectors_any (A : Option Addr) (K c : Nat) (a : Nat → Option Addr) (n cc : Nat → Nat) (vs : Nat → List (List Int)) (w : World) (h : Ls w A K c a n cc) (hR : ∀ j, j < K → Rr w (a j) (n j) (cc j) (vs j)) (hK : K ≤ 10) :
    Calls Tryd.prog 76 #[.slice A K c] w fun e w' => e = .returned (.int .i64 (chkV K n (catN vs K))) ∧ Below w.heap.size w w' := by
  have hcap := h.cap
  have htop := h.top
  have hR := Lib.hid hR
  have hnb := Lib.hid (fun j (hj : j < K) => show n j ≤ 9223372036854775807 from by have h1 := (hR.out j hj).cap; have h2 := (hR.out j hj).top; omega)
  go_enter Tryd.func76, Tryd.ntmps76
  go_wp2
  go_loop [10] (fun iv => ∃ k : Nat, k ≤ K ∧ iv = .int .i64 k ∧ Hid (longB k n = false)) (fun iv => K - (intOf iv).toNat)
  case atStart => exact ⟨0, Nat.zero_le _, rfl, rfl⟩
  case round =>
    obtain ⟨k, hk, rfl, hno⟩ := hrel
    rcases Nat.lt_or_ge k K with hlt | hge
    · obtain ⟨ad, rfl, hc⟩ := h.at_ hlt
      have hb := hnb.out k hlt
      by_cases hL : 10000 < n k
      · have hyes := Lib.hid (longB_yes hlt hL)
        have hd : decide ((10000 : Int) < (n k : Int)) = true := decide_eq_true (by omega)
        go_wp2
        go_ret
        exact ⟨ret_int (by unfold chkV; rw [if_pos hyes.out]), Below.refl _ _⟩
      · have hs := Lib.hid (show longB (k + 1) n = false by rw [longB_succ, hno.out, decide_eq_false hL]; rfl)
        have hd : decide ((10000 : Int) < (n k : Int)) = false := decide_eq_false (by omega)
        go_wp2
        go_round
        case rel => exact ⟨k + 1, by omega, by go_num, hs⟩
        case measure => simp [intOf]; omega
    · have hkK : k = K := by omega
      subst hkK
      have hsum := sumN_bd (longB_le hno.out)
      have hcode := Lib.hid (show chkV k n (catN vs k) = if vecsB (catN vs k) = true then 0 else 2 by unfold chkV; rw [if_neg (by rw [hno.out]; simp)])
      obtain ⟨news, hnews⟩ : ∃ news : Nat → List Value, ∀ j, j < k → Src w (a j) (n j) (cc j) (news j) 1 ∧ RowL w (news j) (vs j) :=
        ⟨fun j => if hj : j < k then Classical.choose (hR.out j hj).ex else [], fun j hj => by
          simp only [dif_pos hj]
          exact Classical.choose_spec (hR.out j hj).ex⟩
      have hRL := Lib.hid (RowL.catN fun j hj => (hnews j hj).2)
      go_wp2_with fail
      refine (concatV_any _ _ _ _ _ _ news _ h (fun j hj => (hnews j hj).1) (by omega)).mono ?_
      rintro e w1 ⟨V, rfl, hown, hb1⟩
      obtain ⟨A1, c1, rfl, hall⟩ := Rr.of_own hown (hRL.out.below hb1)
      have hlen := Lib.hid hall.len
      have hcap1 := hall.cap
      have htop1 := hall.top
      generalize sumN n k = N at *
      obtain ⟨VS, hVS⟩ : ∃ VS, catN vs k = VS := ⟨_, rfl⟩
      have hcode : Hid (chkV k n (catN vs k) = if vecsB VS = true then 0 else 2) := by rw [← hVS]; exact hcode
      rw [hVS] at hall hlen
      clear hnews hRL hno hVS
      go_wp2
      go_loopw [22] (fun iv wr => ∃ j : Nat, iv = .int .i64 j ∧ j ≤ N ∧ wr = w1 ∧ Hid ((VS.take j).all (rowOk VS) = true)) (fun iv _ => N - (intOf iv).toNat)
      case atStart => exact ⟨0, rfl, Nat.zero_le _, rfl, rfl⟩
      case round =>
        obtain ⟨j, rfl, hj, rfl, hok⟩ := hrel
        rcases Nat.lt_or_ge j N with hjl | hjg
        · obtain ⟨ad, B, L, C, x, rfl, hc, hx, hS, _⟩ := hall.at_ hjl
          obtain ⟨ad0, B0, L0, C0, x0, e0, hc0, hx0, hS0, _⟩ := hall.at_ (i := 0) (by omega)
          injection e0 with e0
          subst e0
          have hc0' := hc0
          rw [show ad.add 0 = ad from by unfold Addr.add; simp] at hc0'
          have hlx := hS.len
          have hlx0 := hS0.len
          have hLc := hS.cap
          have hLt := hS.top
          have hLc0 := hS0.cap
          have hLt0 := hS0.top
          have hro := Lib.hid (show rowOk VS x = (vecB x && decide (L = L0)) by unfold rowOk; rw [head_of hx0.out, hlx, hlx0])
          clear hlx hlx0
          cases hv : vecB x with
          | false =>
            have hbad := Lib.hid (show vecsB VS = false from all_no hx.out (by rw [hro.out, hv]; rfl))
            have hv := Lib.hid hv
            go_wp2_with fail
            refine (isVector_any _ _ _ _ _ hS).mono ?_
            rintro e w' ⟨rfl, rfl⟩
            rw [hv.out]
            go_wp2
            go_ret
            exact ⟨ret_int (by rw [hcode.out, hbad.out]; rfl), hb1⟩
          | true =>
            by_cases hLL : L = L0
            · have hgood := Lib.hid (take_all_snoc hok.out hx.out (by rw [hro.out, hv, decide_eq_true hLL]; rfl))
              subst hLL
              have hv := Lib.hid hv
              go_wp2_with fail
              refine (isVector_any _ _ _ _ _ hS).mono ?_
              rintro e w' ⟨rfl, rfl⟩
              rw [hv.out]
              go_wp2
              go_roundw
              case rel => exact ⟨j + 1, by go_num, hjl, by first | rfl | trivial, hgood⟩
              case measure => simp [intOf]; omega
            · have hbad := Lib.hid (show vecsB VS = false from all_no hx.out (by rw [hro.out, hv, decide_eq_false hLL]; rfl))
              have hv := Lib.hid hv
              have hbne : ((L : Int) != (L0 : Int)) = true := by simp; omega
              have hbne2 : decide (L = L0) = false := by simpa using hLL
              go_wp2_with fail
              refine (isVector_any _ _ _ _ _ hS).mono ?_
              rintro e w' ⟨rfl, rfl⟩
              rw [hv.out]
              go_wp2
              go_ret
              exact ⟨ret_int (by rw [hcode.out, hbad.out]; rfl), hb1⟩
        · have hjN : j = N := by omega
          subst hjN
          have hyes := Lib.hid (show vecsB VS = true by have := hok.out; rw [List.take_of_length_le (by rw [hlen.out]; exact Nat.le_refl _)] at this; exact this)
          go_wp2
          go_ret
          exact ⟨ret_int (by rw [hcode.out, hyes.out]; rfl), hb1⟩
end Go.Proofs.YtoljffghaklpdaaDoor

namespace Go.Proofs.YtoljffghaklpdaaDoor
open Go.RowKit

def chk1 (vs : List (List Int)) : Int := if 10000 < vs.length then 5 else if vecsB vs = true then 0 else 2
def chk2 (vs us : List (List Int)) : Int := if 10000 < vs.length ∨ 10000 < us.length then 5 else if vecsB (vs ++ us) = true then 0 else 2
def codC (vs us : List (List Int)) : Int := if chk2 vs us = 0 then (if okB 1 256 us.length = true then 0 else 2) else chk2 vs us
theorem chkV_one {n : Nat → Nat} {vs : Nat → List (List Int)} (h : n 0 = (vs 0).length) : chkV 1 n (catN vs 1) = chk1 (vs 0) := by
  have e : longB 1 n = decide (10000 < (vs 0).length) := by unfold longB; simp [List.range_succ, h]
  have e2 : catN vs 1 = vs 0 := by show [] ++ vs 0 = _; rfl
  unfold chkV chk1
  rw [e, e2]
  simp
theorem chkV_two {n : Nat → Nat} {vs : Nat → List (List Int)} (h : n 0 = (vs 0).length) (h1 : n 1 = (vs 1).length) : chkV 2 n (catN vs 2) = chk2 (vs 0) (vs 1) := by
  have e : longB 2 n = (decide (10000 < (vs 0).length) || decide (10000 < (vs 1).length)) := by unfold longB; simp [List.range_succ, h, h1]
  have e2 : catN vs 2 = vs 0 ++ vs 1 := by show ([] ++ vs 0) ++ vs 1 = _; rfl
  unfold chkV chk2
  rw [e, e2]
  simp
theorem ls_lit1 (w : World) (t : TypeId) (A : Option Addr) (n c : Nat) : Ls (w.alloc (.cells #[.slice A n c] t)) (some ⟨w.heap.size, 0, none⟩) 1 1 (fun _ => A) (fun _ => n) (fun _ => c) :=
  ⟨Nat.le_refl _, by decide, fun _ => ⟨_, rfl, fun j hj => by
    obtain rfl : j = 0 := by omega
    exact (Blk.new w t #[.slice A n c]).cell 0⟩⟩
theorem ls_lit2 (w : World) (t : TypeId) (A A' : Option Addr) (n c n' c' : Nat) : Ls (w.alloc (.cells #[.slice A n c, .slice A' n' c'] t)) (some ⟨w.heap.size, 0, none⟩) 2 2 (fun j => if j = 0 then A else A') (fun j => if j = 0 then n else n') (fun j => if j = 0 then c else c') :=
  ⟨Nat.le_refl _, by decide, fun _ => ⟨_, rfl, fun j hj => by
    rcases (show j = 0 ∨ j = 1 by omega) with rfl | rfl
    · exact (Blk.new w t #[.slice A n c, .slice A' n' c']).cell 0
    · exact (Blk.new w t #[.slice A n c, .slice A' n' c']).cell 1⟩⟩

/-- checkVectors of one list -/
theorem check1_any (w : World) (A : Option Addr) (n c : Nat) (vs : List (List Int)) (h : Rr w A n c vs) :
    Calls Tryd.prog 76 #[.slice (some ⟨w.heap.size, 0, none⟩) 1 1] (w.alloc (.cells #[.slice A n c] 46)) fun e w' => e = .returned (.int .i64 (chk1 vs)) ∧ Below w.heap.size w w' := by
  have hb := (Below.refl w.heap.size w).alloc (Nat.le_refl _) (.cells #[.slice A n c] 46)
  refine (checkVectors_any _ 1 1 _ _ _ (fun _ => vs) _ (ls_lit1 w 46 A n c) (fun j _ => h.below hb) (by decide)).mono fun e w' ⟨he, hb2⟩ => ⟨?_, hb.trans (hb2.mono hb.size)⟩
  rw [he, chkV_one (vs := fun _ => vs) (by simp [h.len])]
theorem check2_any (w : World) (A A' : Option Addr) (n c n' c' : Nat) (vs us : List (List Int)) (h : Rr w A n c vs) (h' : Rr w A' n' c' us) :
    Calls Tryd.prog 76 #[.slice (some ⟨w.heap.size, 0, none⟩) 2 2] (w.alloc (.cells #[.slice A n c, .slice A' n' c'] 46)) fun e w' => e = .returned (.int .i64 (chk2 vs us)) ∧ Below w.heap.size w w' := by
  have hb := (Below.refl w.heap.size w).alloc (Nat.le_refl _) (.cells #[.slice A n c, .slice A' n' c'] 46)
  refine (checkVectors_any _ 2 2 _ _ _ (fun j => if j = 0 then vs else us) _ (ls_lit2 w 46 A A' n c n' c') (fun j hj => ?_) (by decide)).mono fun e w' ⟨he, hb2⟩ => ⟨?_, hb.trans (hb2.mono hb.size)⟩
  · rcases (show j = 0 ∨ j = 1 by omega) with rfl | rfl
    · exact h.below hb
    · exact h'.below hb
  · rw [he, chkV_two (vs := fun j => if j = 0 then vs else us) (by simp [h.len]) (by simp [h'.len])]
    rfl

set_option maxHeartbeats 800000 in
theorem checkCoding_any (A A' : Option Addr) (n c n' c' : Nat) (vs us : List (List Int)) (w : World) (h : Rr w A n c vs) (h' : Rr w A' n' c' us) :
    Calls Tryd.prog 83 #[.slice A n c, .slice A' n' c'] w fun e w' => e = .returned (.int .i64 (codC vs us)) ∧ Below w.heap.size w w' := by
  have hl := Lib.hid h'.len
  have hcap := h'.cap
  have htop := h'.top
  go_enter Tryd.func83, Tryd.ntmps83
  go_wp2_with fail
  refine (check2_any w A A' n c n' c' vs us h h').mono ?_
  rintro e w2 ⟨rfl, hb2⟩
  by_cases h0 : chk2 vs us = 0
  · have hC := Lib.hid (show codC vs us = if okB 1 256 n' = true then 0 else 2 by unfold codC; rw [if_pos h0, hl.out])
    rw [h0]
    clear h0
    cases hk : okB 1 256 (n' : Int) with
    | false =>
      have hk' := Lib.hid hk
      go_wp2_with fail
      refine (within_any _ _ _ _).mono ?_
      rintro e w' ⟨rfl, rfl⟩
      rw [hk'.out]
      go_wp2
      go_ret
      exact ⟨ret_int (by rw [hC.out, hk'.out]; rfl), hb2⟩
    | true =>
      have hk' := Lib.hid hk
      go_wp2_with fail
      refine (within_any _ _ _ _).mono ?_
      rintro e w' ⟨rfl, rfl⟩
      rw [hk'.out]
      go_wp2
      go_ret
      exact ⟨ret_int (by rw [hC.out, hk'.out]; rfl), hb2⟩
  · have hC := Lib.hid (show codC vs us = chk2 vs us by unfold codC; rw [if_neg h0])
    have hne : (chk2 vs us != 0) = true := by simp [h0]
    have hne2 : (chk2 vs us == 0) = false := by simp [h0]
    generalize chk2 vs us = q at *
    go_wp2
    go_ret
    exact ⟨ret_int hC.out.symm, hb2⟩
end Go.Proofs.YtoljffghaklpdaaDoor
