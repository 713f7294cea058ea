/- The bytes of a recording: the closure that writes numbers. -/
import Derived.Test.YtobobbhifajhmaaB0
import Derived.Test.YtobobbhifajhmaaS1
import Derived.ArgAppend
import Derived.Lib.SlBytesConst
namespace Go.Proofs.Ytobobbhifajhmaa
open Go.RowKit

/-- a row of the call's own, or a literal that is full -/
def OwnL (w : World) (B : Nat) (e : TypeId) (V : Value) (n : Nat) (xs : List Value) : Prop :=
  w.ownsRow B e 1 V n xs ∨ ∃ g cs fz, V = .slice (some ⟨g, 0, none⟩) n n ∧ B ≤ g ∧ w.heap[g]? = some (.cells cs e fz) ∧ cs.toList = xs ∧ xs.length = n
theorem OwnL.lt {w : World} {B n : Nat} {e : TypeId} {V : Value} {xs : List Value} (h : OwnL w B e V n xs) : ∀ k, V.ownBlock = some k → B ≤ k ∧ k < w.heap.size := by
  rcases h with h | ⟨g, cs, fz, rfl, hb, hg, _, _⟩
  · exact h.lt
  · intro k hk
    have : g = k := by simpa [Value.ownBlock] using hk
    subst this
    exact ⟨hb, (Array.getElem?_eq_some_iff.1 hg).1⟩
theorem OwnL.alloc {w : World} {B n : Nat} {e : TypeId} {V : Value} {xs : List Value} (h : OwnL w B e V n xs) (o : Obj) : OwnL (w.alloc o) B e V n xs := by
  rcases h with h | ⟨g, cs, fz, rfl, hb, hg, h1, h2⟩
  · exact .inl (h.alloc o)
  · exact .inr ⟨g, cs, fz, rfl, hb, (Below.heap_alloc w o g (Array.getElem?_eq_some_iff.1 hg).1).trans hg, h1, h2⟩
theorem OwnL.far {w w' : World} {B n : Nat} {e : TypeId} {V : Value} {xs : List Value} (h : OwnL w B e V n xs) (hk : ∀ k, B ≤ k → k < w.heap.size → w'.heap[k]? = w.heap[k]?) : OwnL w' B e V n xs := by
  rcases h with h | ⟨g, cs, fz, rfl, hb, hg, h1, h2⟩
  · exact .inl (own_same h hk)
  · exact .inr ⟨g, cs, fz, rfl, hb, (hk g hb (Array.getElem?_eq_some_iff.1 hg).1).trans hg, h1, h2⟩
theorem OwnL.ne {w : World} {B n gb : Nat} {e T : TypeId} {V : Value} {xs : List Value} {cb : Array Value} (h : OwnL w B e V n xs) (hB : Blk w gb T cb) (hne : T ≠ e) : ∀ q, V.ownBlock = some q → q ≠ gb := by
  intro q hq e1
  subst e1
  rcases h with h | ⟨g, cs, fz, rfl, _, hg, _, _⟩
  · rcases h.2 with ⟨rfl, _⟩ | ⟨g, cap, cur, rfl, _, hg, _⟩
    · cases hq
    · have e2 : g = q := by simpa [Value.ownBlock] using hq
      subst e2
      exact Blk.ne_ty hB hg hne
  · have e2 : g = q := by simpa [Value.ownBlock] using hq
    subst e2
    unfold Blk at hB
    rw [hB] at hg
    injection hg with hg
    injection hg with _ ht
    exact hne ht
theorem wpList_append_L {P : Program} {w : World} {ops : Array Oper} {rest : List Oper} {o : Oper} {a : Act} {Q : Exit → Act → World → Prop} (hgd : o.guard = none) (s x : Operand) (t : TypeId)
    (ho : o.op = .call { callee := .builtin .append, args := #[s, x], argTypes := #[t, t] })
    (base : Nat) (e : TypeId) (i : TypeInfo) (z : Value) (bytes : Nat) (ht : P.underlying t = some (.slice e)) (hi : P.info? e = some i) (hz : i.zero = some z)
    (hsize : i.size = 1) (hby : i.bytes = bytes) (hzs : z.cells.size = 1)
    (v : Value) (n : Nat) (xs : List Value) (hs : a.eval s = v) (hown : OwnL w base e v n xs)
    (ad : Addr) (m c : Nat) (news : List Value) (hx : a.eval x = .slice (some ad) m c) (hl : news.length = m * 1) (hnews : ∀ j u, news[j]? = some u → w.cell? (ad.add j) = some u) (h1 : ∀ u ∈ news, u.oneCell' = true)
    (hm : 0 < m) (h63 : n + m ≤ maxLen) (hbytes : (n + m) * bytes ≤ 140737488355328) (hbase : base ≤ w.heap.size)
    (h : ∀ g cap w', w'.ownsRow base e 1 (.slice (some ⟨g, 0, none⟩) (n + m) cap) (n + m) (xs ++ news) → w.grownBy w' v.ownBlock → (v.ownBlock = some g ∨ w.heap.size ≤ g) → g < w'.heap.size → wpList P ops Q rest (a.put o.dst (.slice (some ⟨g, 0, none⟩) (n + m) cap)) w') : wpList P ops Q (o :: rest) a w := by
  rcases hown with hown | ⟨g0, cs, fz, rfl, hb, hg, hcs, hlen⟩
  · exact wpList_append_lies w hgd s x t ho base e i z 1 bytes ht hi hz hsize hby hzs (by decide) v n xs hs hown ad m c news hx hl hnews h1 hm h63 hbytes hbase _ rfl (fun g cap w' a1 a2 a3 a4 => h g cap w' a1 a2 (a3.imp id (fun e => by omega)) a4)
  · refine wpList_append_grows w hgd s x t ho e i z 1 bytes ht hi hz hsize hby hzs (by decide) (some ⟨g0, 0, none⟩) n n xs hs (fun e => by cases e) (by omega) (fun b hb2 j u hu => ?_) ad m c news hx hl hnews h1 (by omega) h63 hbytes ?_
    · injection hb2 with hb2
      subst hb2
      rw [add_new, cell_of_row w g0 j cs e fz hg, ← hcs] at *
      rw [← hcs] at hu
      simpa using hu
    · intro v' w' hown' hgrow
      have hown2 := own_mono hown' hbase
      obtain ⟨g, cap, rfl, h5, h6⟩ := hown'.form (by omega)
      refine h g cap w' hown2 ⟨hgrow.os, hgrow.tape, hgrow.output, hgrow.size, fun k hk _ => hgrow.block k hk (by simp)⟩ ?_ h6
      exact .inr h5

set_option maxHeartbeats 1600000 in
set_option maxRecDepth 100000 in
theorem write_any (x : Int) (size gb B B0 m : Nat) (V : Value) (bs : List Int) (w : World) (hx1 : -9223372036854775808 ≤ x) (hx2 : x ≤ 9223372036854775807) (hs0 : 0 < size) (hs : size ≤ 1000) (hm : m ≤ 1000000)
    (hB : Blk w gb 27 #[V]) (hown : OwnL w B 5 V m (ivs .u8 bs)) (h0 : B0 ≤ B) (h1 : B0 ≤ gb) (h2 : B ≤ w.heap.size) :
    Calls Try.prog 63 #[.int .i64 x, .int .i64 (size : Int), .pointer (some ⟨gb, 0, none⟩)] w fun e w' => ∃ V', e = .returned (.tuple #[]) ∧ Blk w' gb 27 #[V'] ∧ w'.ownsRow B 5 1 V' (m + size) (ivs .u8 (bs ++ le x size)) ∧ Below B0 w w' := by
  obtain ⟨i0, hi, hz0, hz1, hz2⟩ := info_parts info_byte
  go_enter Try.func63, Try.ntmps63
  go_wp2
  go_loopw [0, 6] (fun nv iv wr => ∃ (k : Nat) (U : Value), k ≤ size ∧ iv = .int .i64 k ∧ nv = .int .i64 (x / 256 ^ k) ∧ Blk wr gb 27 #[U] ∧ OwnL wr B 5 U (m + k) (ivs .u8 (bs ++ le x k)) ∧ Hid (0 < k → wr.ownsRow B 5 1 U (m + k) (ivs .u8 (bs ++ le x k))) ∧ Below B0 w wr ∧ w.heap.size ≤ wr.heap.size) (fun _ iv _ => size - (intOf iv).toNat)
  case atStart => exact ⟨0, V, Nat.zero_le _, rfl, by rw [Int.pow_zero, Int.ediv_one], hB, by rw [show le x 0 = [] from rfl, List.append_nil]; exact hown, (fun h => absurd h (Nat.lt_irrefl _)), Below.refl _ _, Nat.le_refl _⟩
  case round =>
    obtain ⟨k, U, hk, rfl, rfl, hBr, hownr, hnow, hbel, hsz⟩ := hrel
    rcases Nat.lt_or_ge k size with hlt | hge
    · have h3 := div_bd (i := k) hx1 hx2
      have h4 := h3.1
      have h5 := h3.2
      clear h3 hnow
      have hnx := Lib.hid (shift256 x k)
      have hb := Lib.hid (show x / 256 ^ k % 256 = byt x k from rfl)
      have hrow := Lib.hid (fun k (hk : U.ownBlock = some k) => (hownr.lt k hk).1)
      have hne := Lib.hid (hownr.ne hBr (by decide))
      generalize x / 256 ^ k = y at *
      have c0 := hBr.cell 0
      have i1 : (k : Int) < (size : Int) := by omega
      go_wp2_with (at_builtin; refine wpList_append_L rfl (.tmp 8) (.tmp 11) 27 rfl B 5 i0 (.int .u8 0) 1 Try.underlying27 hi hz0 hz1 hz2 rfl U (m + k) (ivs .u8 (bs ++ le x k)) rfl (hownr.alloc _) ⟨wr.heap.size, 0, none⟩ 1 1 [.int .u8 (y % 256)] rfl rfl (news_one _ _ _) (oneCell1b _) (by omega) (by unfold maxLen; omega) (by omega) (by simp; omega) ?_)
      intro g cap w5 hown5 hgrow hat hlt5
      have hb5 : Below B0 w w5 := (hbel.alloc (by omega) _).grown hgrow (by simp; omega) (fun q hq => by have := hrow.out q hq; omega)
      have hB5 := (hBr.alloc (.cells #[.int .u8 (y % 256)] 5)).grown hgrow (fun e => hne.out gb e.symm rfl)
      have hsz5 := hgrow.size
      rw [hb.out] at hown5
      have f0 := hB5.frozen 0
      have d0 := hB5.cell 0
      have hgl := hBr.lt
      have hgne : g ≠ gb := by
        rcases hat with h | h
        · exact hne.out g h
        · first | omega | (simp at h; omega)
      have hown6 : (w5.setCell ⟨gb, 0, none⟩ (.slice (some ⟨g, 0, none⟩) (m + k + 1) cap)).ownsRow B 5 1 (.slice (some ⟨g, 0, none⟩) (m + k + 1) cap) (m + (k + 1)) (ivs .u8 (bs ++ le x (k + 1))) := by
        rw [le_succ, ← List.append_assoc, ivs_snoc]
        exact ownsRow_setCell_other hown5 (by simp [Value.ownBlock]; exact hgne) _
      have hB6 := hB5.set_ 0 (.slice (some ⟨g, 0, none⟩) (m + k + 1) cap)
      have hb6 := hb5.setCell (p := ⟨gb, 0, none⟩) h1 (.slice (some ⟨g, 0, none⟩) (m + k + 1) cap)
      have hsz6 : w.heap.size ≤ (w5.setCell ⟨gb, 0, none⟩ (.slice (some ⟨g, 0, none⟩) (m + k + 1) cap)).heap.size := by simp [World.setCell] at *; omega
      clear hown5
      go_wp2
      go_roundw
      case rel => exact ⟨k + 1, _, by omega, by go_num, by rw [← hnx.out], hB6, .inl hown6, (fun _ => hown6), hb6, hsz6⟩
      case measure => simp [intOf]; omega
    · have hkn : k = size := by omega
      subst hkn
      go_wp2
      go_end0
      exact ⟨U, rfl, hBr, hnow.out hs0, hbel⟩
end Go.Proofs.Ytobobbhifajhmaa
