/- The nearest codeword. -/
import Derived.Test.YtoljffghaklpdaaDoorGA
import Derived.Deep.QuietTactic
import Derived.BigQuiet
import Derived.Deep.LoopGhost
import Derived.WalkMore
import Derived.Laws.CopyOwn
namespace Go.Proofs.YtoljffghaklpdaaDoor
open Go.RowKit

def dsF (x y : List Int) : Nat → Int := fun j => (x.getD j 0 - y.getD j 0) * (x.getD j 0 - y.getD j 0)
def dist (x y : List Int) : Int := sm x.length (dsF x y)
/-- the nearest of the first k codewords, and its distance -/
def nrS (x : List Int) (us : List (List Int)) : Nat → Nat × Int
  | 0 => (0, 9223372036854775807)
  | k + 1 => if dist x (us.getD k []) < (nrS x us k).2 then (k, dist x (us.getD k [])) else nrS x us k
theorem dsF_nn (x y : List Int) (j : Nat) : 0 ≤ dsF x y j := by
  unfold dsF
  generalize x.getD j 0 - y.getD j 0 = d
  rcases Int.le_total 0 d with h | h
  · exact Int.mul_nonneg h h
  · rw [← Int.neg_mul_neg]; exact Int.mul_nonneg (by omega) (by omega)
theorem sm_mono {f : Nat → Int} (h : ∀ j, 0 ≤ f j) {a b : Nat} (hab : a ≤ b) : sm a f ≤ sm b f := by
  induction b with
  | zero =>
    obtain rfl : a = 0 := by omega
    exact Int.le_refl _
  | succ b ih =>
    rcases Nat.lt_or_ge b a with h1 | h1
    · obtain rfl : a = b + 1 := by omega
      exact Int.le_refl _
    · have := ih h1
      have := h b
      show _ ≤ sm b f + f b
      omega
theorem dsF_bd {x y : List Int} (hx : allB (-1048576) 1048576 x = true) (hy : allB (-1048576) 1048576 y = true) (hl : x.length = y.length) {j : Nat} (hj : j < x.length) : -4398046511104 ≤ dsF x y j ∧ dsF x y j ≤ 4398046511104 := by
  have h1 := allB_get hx hj rfl
  have h2 := allB_get hy (j := j) (by omega) rfl
  unfold dsF
  exact prod_bd (m := 2097152) (q := 2097152) (by omega) (by omega) (by omega) (by omega)
theorem dsS_bd {x y : List Int} (hx : allB (-1048576) 1048576 x = true) (hy : allB (-1048576) 1048576 y = true) (hl : x.length = y.length) (hl2 : x.length ≤ 64) {j : Nat} (hj : j ≤ x.length) : 0 ≤ sm j (dsF x y) ∧ sm j (dsF x y) ≤ 281474976710656 := by
  have h1 := sm_bd (f := dsF x y) (m := 4398046511104) (n := j) (fun i hi => dsF_bd hx hy hl (by omega))
  have h2 := sm_mono (dsF_nn x y) (Nat.zero_le j)
  have h3 : sm 0 (dsF x y) = 0 := rfl
  omega
theorem nrS_bd {x : List Int} {us : List (List Int)} (hx : allB (-1048576) 1048576 x = true) (hl2 : x.length ≤ 64) (hu : ∀ u ∈ us, u.length = x.length ∧ allB (-1048576) 1048576 u = true) {k : Nat} (hk : k ≤ us.length) : (nrS x us k).1 ≤ k ∧ 0 ≤ (nrS x us k).2 ∧ (nrS x us k).2 ≤ 9223372036854775807 ∧ (0 < k → (nrS x us k).2 ≤ 281474976710656 ∧ (nrS x us k).1 < k) := by
  induction k with
  | zero => exact ⟨Nat.le_refl _, by show (0 : Int) ≤ 9223372036854775807; decide, Int.le_refl _, fun h => absurd h (by omega)⟩
  | succ k ih =>
    have h := ih (by omega)
    have hm : us.getD k [] ∈ us := by rw [List.getD_eq_getElem?_getD, List.getElem?_eq_getElem (by omega)]; exact List.getElem_mem _
    have h2 := hu _ hm
    have h3 := dsS_bd hx h2.2 h2.1.symm hl2 (Nat.le_refl _)
    unfold nrS
    split
    · exact ⟨by show k ≤ _; omega, h3.1, by show sm _ _ ≤ _; omega, fun _ => ⟨h3.2, by show k < _; omega⟩⟩
    · rename_i hn
      have h4 : (nrS x us k).2 ≤ dist x (us.getD k []) := by omega
      have h5 : dist x (us.getD k []) ≤ 281474976710656 := h3.2
      exact ⟨by omega, h.2.1, h.2.2.1, fun _ => ⟨by omega, by omega⟩⟩
theorem getD_some {us : List (List Int)} {k : Nat} {y : List Int} (h : us[k]? = some y) : us.getD k [] = y := by rw [List.getD_eq_getElem?_getD, h]; rfl

set_option maxHeartbeats 3200000 in
set_option maxRecDepth 100000 in
theorem nearest_any (A A' : Option Addr) (m c n c' : Nat) (xs : List Int) (us : List (List Int)) (w : World) (h : Sl .i64 w A m c xs) (h' : Rr w A' n c' us) (hx : allB (-1048576) 1048576 xs = true) (hm1 : 1 ≤ m) (hm2 : m ≤ 64)
    (hu : ∀ u ∈ us, u.length = m ∧ allB (-1048576) 1048576 u = true) :
    Calls Tryd.prog 84 #[.slice A m c, .slice A' n c'] w fun e w' => e = .returned (.tuple #[.int .i64 ((nrS xs us n).1 : Nat), .int .i64 (nrS xs us n).2]) ∧ ∃ r, w' = w.drewN r := by
  have hl := Lib.hid h.len
  have hl' := Lib.hid h'.len
  have hcap := h.cap
  have htop := h.top
  have hcap' := h'.cap
  have htop' := h'.top
  have hx := Lib.hid hx
  have hu := Lib.hid hu
  have hbd := Lib.hid (fun k (hk : k ≤ n) => nrS_bd hx.out (by rw [hl.out]; exact hm2) (fun u h9 => by rw [hl.out]; exact hu.out u h9) (k := k) (by rw [hl'.out]; exact hk))
  go_enter Tryd.func84, Tryd.ntmps84
  go_wp2
  go_step3
  go_wp2
  go_step3
  go_wp2
  go_loopg [6, 7, 15] n (fun gk bv lv iv wr => ∃ k r : Nat, iv = .int .i64 k ∧ Hid (k + gk = n) ∧ k ≤ n ∧ bv = .int .i64 ((nrS xs us k).1 : Nat) ∧ lv = .int .i64 (nrS xs us k).2 ∧ wr = w.drewN r)
  case atStart => exact ⟨0, 0, rfl, Nat.zero_add _, Nat.zero_le _, rfl, rfl, rfl⟩
  case round =>
    obtain ⟨k, r, rfl, hgk, hkn, rfl, rfl, rfl⟩ := hrel
    have hr := h.drewN r
    have hr' := h'.below (bel_drewN (Below.refl _ _) r)
    have hb := hbd.out k hkn
    have hb0 := hb.2.1
    have hb1 := hb.2.2.1
    clear hb
    generalize hw : w.drewN r = w1 at *
    have hw := Lib.hid hw
    rcases Nat.lt_or_ge k n with hlt | hge
    · obtain ⟨ad, B, L, C, y, rfl, hc, hy, hS, _⟩ := hr'.at_ hlt
      have hum := hu.out y (List.mem_of_getElem? hy.out)
      have hLm : L = m := by rw [← hS.len]; exact hum.1
      subst hLm
      have hyl := Lib.hid hum.1
      have hyb := Lib.hid hum.2
      have hLc := hS.cap
      have hLt := hS.top
      clear hum
      have hnx := Lib.hid (show nrS xs us (k + 1) = if sm L (dsF xs y) < (nrS xs us k).2 then (k, sm L (dsF xs y)) else nrS xs us k by
        show (if dist xs (us.getD k []) < _ then _ else _) = _
        rw [getD_some hy.out]
        unfold dist
        rw [hl.out])
      have hsb := Lib.hid (fun j (hj : j ≤ L) => dsS_bd hx.out hyb.out (by rw [hl.out, hyl.out]) (by rw [hl.out]; exact hm2) (j := j) (by rw [hl.out]; exact hj))
      have hmono := Lib.hid (fun j (hj : j ≤ L) => sm_mono (dsF_nn xs y) hj)
      go_wp2
      go_loopg [10, 22] L (fun gj sv jv w2 => ∃ j q : Nat, jv = .int .i64 j ∧ Hid (j + gj = L) ∧ j ≤ L ∧ sv = .int .i64 (sm j (dsF xs y)) ∧ Hid (0 < j → sm j (dsF xs y) < (nrS xs us k).2) ∧ w2 = w1.drewN q)
      case atStart => exact ⟨0, 0, rfl, Nat.zero_add _, Nat.zero_le _, rfl, fun h => absurd h (by omega), rfl⟩
      case round =>
        obtain ⟨j, q, rfl, hgj, hj, rfl, hless, rfl⟩ := hrel
        have hrq := hr.drewN q
        have hSq := hS.drewN q
        generalize hw2 : w1.drewN q = w2 at *
        have hw2 := Lib.hid hw2
        have hs1 := hsb.out j hj
        rcases Nat.lt_or_ge j L with hjl | hjg
        · obtain ⟨ax, x, rfl, hcx, hxx⟩ := hrq.at_ hjl
          obtain ⟨ay, y2, rfl, hcy, hyy⟩ := hSq.at_ hjl
          have hs2 := hsb.out (j + 1) hjl
          have hstep := Lib.hid (show sm (j + 1) (dsF xs y) = sm j (dsF xs y) + (x - y2) * (x - y2) by show sm j _ + dsF xs y j = _; unfold dsF; rw [hxx.out, hyy.out])
          have hxb := allB_get hx.out (by rw [hl.out]; exact hjl) hxx.out
          have hyb2 := allB_get hyb.out (by rw [hyl.out]; exact hjl) hyy.out
          have hmn := Lib.hid (hmono.out (j + 1) hjl)
          rw [hstep.out] at hs2
          obtain ⟨p, hp⟩ : ∃ p, (x - y2) * (x - y2) = p := ⟨_, rfl⟩
          rw [hp] at hs2
          have hstep' := Lib.hid (show sm (j + 1) (dsF xs y) = sm j (dsF xs y) + p by rw [hstep.out, hp])
          generalize hS0 : sm j (dsF xs y) = S at *
          clear hS0 hstep
          generalize hQ0 : sm (j + 1) (dsF xs y) = S2 at *
          have hQ := Lib.hid hQ0
          clear hQ0
          have hpb : -281474976710656 ≤ p ∧ p ≤ 281474976710656 := by omega
          have e1 : IntKind.i64.wrap (x - y2) = x - y2 := IntWalk.i64_in _ (by omega)
          have e2 : IntKind.i64.wrap ((x - y2) * (x - y2)) = p := by rw [hp]; exact IntWalk.i64_in _ (by omega)
          have e3 : IntKind.i64.wrap (S + p) = S + p := IntWalk.i64_in _ (by omega)
          have i0 : (0 : Int) ≤ (j : Int) := by omega
          have i1 : (j : Int) < (L : Int) := by omega
          clear hp hpb hxb hyb2 hs1
          go_wp2
          go_quiet (fail)
          by_cases hge2 : (nrS xs us k).2 ≤ S + p
          · have hd : decide ((nrS xs us k).2 ≤ S + p) = true := decide_eq_true hge2
            have hskip := Lib.hid (show nrS xs us (k + 1) = nrS xs us k by rw [hnx.out, if_neg (by have h1 := hmn.out; have h2 := hstep'.out; omega)])
            have hl9 := Lib.hid (show 0 < L - j from by omega)
            go_wp2
            go_roundg (n - (k + 1))
            case measure => have := hgk.out; omega
            case rel => exact ⟨k + 1, r + (q + nq), by go_num, by show _ = _; omega, hlt, by rw [hskip.out], by rw [hskip.out], by rw [← hw2.out, ← hw.out, dr_add, dr_add]⟩
          · have hd : decide ((nrS xs us k).2 ≤ S + p) = false := decide_eq_false hge2
            go_wp2
            go_roundg (L - (j + 1))
            case measure => have := hgj.out; omega
            case rel => exact ⟨j + 1, q + nq, by go_num, by show _ = _; omega, hjl, by rw [hQ.out, hstep'.out], fun _ => by rw [hQ.out, hstep'.out]; omega, by rw [← hw2.out]; exact dr_add _ _ _⟩
        · have hjL : j = L := by omega
          subst hjL
          have hgo := Lib.hid (show nrS xs us (k + 1) = (k, sm j (dsF xs y)) by rw [hnx.out, if_pos (hless.out (by omega))])
          go_wp2
          go_roundg (n - (k + 1))
          case measure => have := hgk.out; omega
          case rel => exact ⟨k + 1, r + q, by go_num, by show _ = _; omega, hlt, by rw [hgo.out], by rw [hgo.out], by rw [← hw2.out, ← hw.out, dr_add]⟩
    · have hkn' : k = n := by omega
      subst hkn'
      go_wp2
      try rw [Exit.noGoto_ret]
      go_ret2
      exact ⟨rfl, r, hw.out.symm⟩
end Go.Proofs.YtoljffghaklpdaaDoor


/- Lists being filled with rows; combining two lists; copies of lists of vectors. -/
namespace Go.Proofs.YtoljffghaklpdaaDoor
open Go.RowKit

abbrev nilV : Value := .slice none 0 0
theorem made_nil (n : Nat) : madeCells #[nilV] n = (List.replicate n nilV).toArray := by
  apply Array.ext
  · simp [size_madeCells]
  · intro i h1 h2
    simp [madeCells, Nat.mod_one]
theorem make_rows (n : Nat) (hn : n ≤ 5000000000000) (w : World) :
    (Instr.makeSlice 46 (.int .i64 (n : Int)) (.int .i64 (n : Int))).run Tryd.prog w = .ok (.slice (some ⟨w.heap.size, 0, none⟩) n n) (w.alloc (.cells (List.replicate n nilV).toArray 30)) := by
  obtain ⟨i0, hi, hz0, hz1, hz2⟩ := info_parts info_sl
  have := run_make (P := Tryd.prog) w 46 30 i0 nilV Tryd.underlying46 hi hz0 .i64 .i64 n n (by omega) (by omega) (by rw [hz2]; omega) (by omega)
  rw [this, hz1]
  have e : Value.cells nilV = #[nilV] := rfl
  rw [e, made_nil]
  simp

/-- a block of slice values holds no integers -/
theorem Sl.nob {k : IntKind} {w : World} {A : Option Addr} {n c : Nat} {xs : List Int} (h : Sl k w A n c xs) {g : Nat} {t : TypeId} {cs : Array Value} (hB : Blk w g t cs) (hs : ∀ v ∈ cs, ∃ B L C, v = Value.slice B L C) : 0 < n → ∀ ad, A = some ad → ad.block ≠ g := by
  intro hp ad he hg
  obtain ⟨ad', x, e2, hc, _⟩ := h.at_ hp
  rw [he] at e2
  injection e2 with e2
  subst e2
  have hc0 : w.cell? ⟨g, (ad.add 0).off, none⟩ = cs[(ad.add 0).off]? := hB.cell _
  have hsp : ∀ (p : Addr) (v : Value), w.cell? p = some v → p.block = g → ∃ B L C, v = Value.slice B L C := by
    intro p v hv hpg
    obtain ⟨b, o, sp⟩ := p
    dsimp only at hpg
    subst hpg
    have hh : w.heap[b]? = some (.cells cs t (0, 0)) := hB
    cases sp with
    | none =>
      rw [hB.cell o] at hv
      exact hs v (Array.mem_of_getElem? hv)
    | some sp => simp [World.cell?, hh] at hv
  obtain ⟨B, L, C, e⟩ := hsp _ _ hc (by rw [block_of_add]; exact hg)
  cases e
theorem RowL.slices {w : World} {news : List Value} {vs : List (List Int)} (h : RowL w news vs) : ∀ v ∈ news, ∃ B L C, v = Value.slice B L C := by
  intro v hv
  obtain ⟨i, hi, rfl⟩ := List.getElem_of_mem hv
  obtain ⟨B, L, C, x, e, _⟩ := h.2 i _ (List.getElem?_eq_getElem hi)
  exact ⟨B, L, C, e⟩
theorem RowL.set_ {w : World} {news : List Value} {vs : List (List Int)} (h : RowL w news vs) {g : Nat} {t : TypeId} {cs : Array Value} (hB : Blk w g t cs) (hs : ∀ v ∈ cs, ∃ B L C, v = Value.slice B L C) (i : Nat) (u : Value) : RowL (w.setCell ⟨g, i, none⟩ u) news vs :=
  ⟨h.1, fun j v hv => by
    obtain ⟨B, L, C, x, e, hx, hS, h1, h2⟩ := h.2 j v hv
    exact ⟨B, L, C, x, e, hx, hS.farn (hS.nob hB hs) i u, h1, h2⟩⟩
theorem RowL.drewN {w : World} {news : List Value} {vs : List (List Int)} (h : RowL w news vs) (i : Nat) : RowL (w.drewN i) news vs := h.below (bel_drewN (Below.refl _ _) i)

/-- block g holds n rows, of which those done read as vs, the rest are nil -/
structure RFill (w wr : World) (g n k : Nat) (vs : List (List Int)) : Prop where
  ex : ∃ news, Blk wr g 30 (news ++ List.replicate (n - k) nilV).toArray ∧ RowL wr news vs
  len : vs.length = k
  bel : Below w.heap.size w wr
  new : w.heap.size ≤ g
theorem fill_slices {w : World} {news : List Value} {vs : List (List Int)} (h : RowL w news vs) (m : Nat) : ∀ v ∈ (news ++ List.replicate m nilV).toArray, ∃ B L C, v = Value.slice B L C := by
  intro v hv
  simp only [List.mem_toArray, List.mem_append] at hv
  rcases hv with hv | hv
  · exact h.slices v hv
  · exact ⟨none, 0, 0, List.eq_of_mem_replicate hv⟩
section
variable {w wr : World} {g n k : Nat} {vs : List (List Int)}
theorem RFill.start {w1 : World} (hb : Below w.heap.size w w1) : RFill w (w1.alloc (.cells (List.replicate n nilV).toArray 30)) w1.heap.size n 0 [] :=
  ⟨⟨[], Blk.new _ _ _, RowL.nil _⟩, rfl, hb.alloc hb.size _, hb.size⟩
theorem RFill.frozen (h : RFill w wr g n k vs) (i : Nat) : wr.frozen? ⟨g, i, none⟩ = false := by
  obtain ⟨news, hB, _⟩ := h.ex
  exact hB.frozen i
theorem RFill.cell (h : RFill w wr g n k vs) (hk : k < n) : wr.cell? ⟨g, k, none⟩ = some nilV := by
  obtain ⟨news, hB, hR⟩ := h.ex
  rw [hB.cell k]
  have hl : news.length = k := by rw [hR.1, h.len]
  simp [List.getElem?_append_right, hl, List.getElem?_replicate]
  omega
theorem RFill.next (h : RFill w wr g n k vs) (hk : k < n) {B : Option Addr} {L C : Nat} {x : List Int} (hS : Sl .i64 wr B L C x) (h1 : B = none → C = 0) (h2 : L ≤ 17592186044416) : RFill w (wr.setCell ⟨g, k, none⟩ (.slice B L C)) g n (k + 1) (vs ++ [x]) := by
  obtain ⟨news, hB, hR⟩ := h.ex
  have hl : news.length = k := by rw [hR.1, h.len]
  have hsl := fill_slices hR (n - k)
  refine ⟨⟨news ++ [Value.slice B L C], ?_, (hR.set_ hB hsl k _).app (RowL.one (hS.farn (hS.nob hB hsl) k _) h1 h2)⟩, by rw [List.length_append, h.len]; rfl, h.bel.setCell h.new _, h.new⟩
  have h3 := hB.set_ k (.slice B L C)
  rw [show (news ++ List.replicate (n - k) nilV).toArray.setIfInBounds k (Value.slice B L C) = ((news ++ [Value.slice B L C]) ++ List.replicate (n - (k + 1)) nilV).toArray by
    rw [List.setIfInBounds_toArray, List.set_append_right _ _ (by omega), hl, Nat.sub_self, show n - k = (n - (k + 1)) + 1 by omega, List.replicate_succ, List.set_cons_zero]
    simp] at h3
  exact h3
theorem RFill.below {w2 : World} (h : RFill w wr g n k vs) (hb : Below wr.heap.size wr w2) : RFill w w2 g n k vs := by
  obtain ⟨news, hB, hR⟩ := h.ex
  exact ⟨⟨news, hB.below hb, hR.below hb⟩, h.len, h.bel.trans (hb.mono h.bel.size), h.new⟩
theorem RFill.drewN (h : RFill w wr g n k vs) (i : Nat) : RFill w (wr.drewN i) g n k vs := h.below (bel_drewN (Below.refl _ _) i)
theorem Rr.of_blk {news : List Value} (hB : Blk wr g 30 news.toArray) (hR : RowL wr news vs) (hn : vs.length = n) (h63 : n ≤ 9223372036854775807) : Rr wr (some ⟨g, 0, none⟩) n n vs :=
  ⟨Nat.le_refl _, h63, news, ⟨by rw [hR.1, hn, Nat.mul_one], fun e => (by cases e), fun ad e j u hu => by
    injection e with e
    subst e
    rw [add_new, hB.cell j]
    simpa using hu, fun u hu => by
      obtain ⟨B, L, C, rfl⟩ := hR.slices u hu
      rfl⟩, hR⟩
theorem RFill.done (h : RFill w wr g n n vs) (h63 : n ≤ 9223372036854775807) : Rr wr (some ⟨g, 0, none⟩) n n vs := by
  obtain ⟨news, hB, hR⟩ := h.ex
  rw [Nat.sub_self, List.replicate_zero, List.append_nil] at hB
  exact Rr.of_blk hB hR h.len h63
end

/-- what a function of two integers returns -/
def Bin (F : FuncId) (f : Int → Int → Int) : Prop := ∀ (x y : Int) (w : World), -4611686018427387904 ≤ f x y → f x y ≤ 4611686018427387904 → Calls Tryd.prog F #[.int .i64 x, .int .i64 y] w fun e w' => e = .returned (.int .i64 (f x y)) ∧ w = w'
theorem add1_bin : Bin 116 (fun x y => x + y) := by
  intro x y w h1 h2
  dsimp only at h1 h2
  go_enter Tryd.func116, Tryd.ntmps116
  go_wp2
  go_ret
  exact ⟨rfl, rfl⟩
theorem sub1_bin : Bin 103 (fun x y => x - y) := by
  intro x y w h1 h2
  dsimp only at h1 h2
  go_enter Tryd.func103, Tryd.ntmps103
  go_wp2
  go_ret
  exact ⟨rfl, rfl⟩

set_option maxHeartbeats 800000 in
set_option maxRecDepth 100000 in
theorem CombineA_any (A A' : Option Addr) (n c c' : Nat) (xs ys : List Int) (w : World) (h : Sl .i64 w A n c xs) (h' : Sl .i64 w A' n c' ys) (hn : n ≤ 1000000)
    (hb : ∀ i, i < n → -4611686018427387904 ≤ (xs.getD i 0 + ys.getD i 0) ∧ (xs.getD i 0 + ys.getD i 0) ≤ 4611686018427387904) :
    Calls Tryd.prog 102 #[.slice A n c, .slice A' n c', .func (.func 116) #[] #[]] w fun e w' =>
      ∃ g, e = .returned (.slice (some ⟨g, 0, none⟩) n n) ∧ Mk w' g 3 .i64 (tab n fun i => (xs.getD i 0 + ys.getD i 0)) ∧ Below w.heap.size w w' ∧ w.heap.size ≤ g := by
  have hcap := h.cap
  have htop := h.top
  have hcap' := h'.cap
  have hb := Lib.hid hb
  have hmk := make_int n (by omega)
  go_enter Tryd.func102, Tryd.ntmps102
  go_wp2
  clear hmk
  go_loopw [15] (fun iv wr => ∃ k : Nat, iv = .int .i64 k ∧ k ≤ n ∧ Fill w wr w.heap.size 3 n k fun i => (xs.getD i 0 + ys.getD i 0)) (fun iv _ => n - (intOf iv).toNat)
  case atStart => exact ⟨0, rfl, Nat.zero_le _, Fill.start (Below.refl _ _) rfl⟩
  case round =>
    obtain ⟨k, rfl, hk, hW⟩ := hrel
    have hr := h.below hW.bel
    have hr' := h'.below hW.bel
    rcases Nat.lt_or_ge k n with hlt | hge
    · obtain ⟨ad, x, rfl, hc, hx⟩ := hr.at_ hlt
      obtain ⟨ad', y, rfl, hc', hy⟩ := hr'.at_ hlt
      obtain ⟨z, hz⟩ := hW.cell hlt
      have hf := hW.frozen k
      have hN := Lib.hid (hW.next hlt (v := (x + y)) (by rw [← hx.out, ← hy.out]))
      have hbb := Lib.hid (show -4611686018427387904 ≤ (x + y) ∧ (x + y) ≤ 4611686018427387904 by rw [← hx.out, ← hy.out]; exact hb.out k hlt)
      go_wp2_with fail
      refine (add1_bin x y _ hbb.out.1 hbb.out.2).mono ?_
      rintro e w' ⟨rfl, rfl⟩
      go_wp2
      go_roundw
      case rel => exact ⟨k + 1, by go_num, hlt, hN.out⟩
      case measure => simp [intOf]; omega
    · have hkn : k = n := by omega
      subst hkn
      have hD := hW.whole
      go_wp2
      go_ret
      exact ⟨_, rfl, hD, hW.bel, Nat.le_refl _⟩
set_option maxHeartbeats 800000 in
set_option maxRecDepth 100000 in
theorem CombineS_any (A A' : Option Addr) (n c c' : Nat) (xs ys : List Int) (w : World) (h : Sl .i64 w A n c xs) (h' : Sl .i64 w A' n c' ys) (hn : n ≤ 1000000)
    (hb : ∀ i, i < n → -4611686018427387904 ≤ (xs.getD i 0 - ys.getD i 0) ∧ (xs.getD i 0 - ys.getD i 0) ≤ 4611686018427387904) :
    Calls Tryd.prog 102 #[.slice A n c, .slice A' n c', .func (.func 103) #[] #[]] w fun e w' =>
      ∃ g, e = .returned (.slice (some ⟨g, 0, none⟩) n n) ∧ Mk w' g 3 .i64 (tab n fun i => (xs.getD i 0 - ys.getD i 0)) ∧ Below w.heap.size w w' ∧ w.heap.size ≤ g := by
  have hcap := h.cap
  have htop := h.top
  have hcap' := h'.cap
  have hb := Lib.hid hb
  have hmk := make_int n (by omega)
  go_enter Tryd.func102, Tryd.ntmps102
  go_wp2
  clear hmk
  go_loopw [15] (fun iv wr => ∃ k : Nat, iv = .int .i64 k ∧ k ≤ n ∧ Fill w wr w.heap.size 3 n k fun i => (xs.getD i 0 - ys.getD i 0)) (fun iv _ => n - (intOf iv).toNat)
  case atStart => exact ⟨0, rfl, Nat.zero_le _, Fill.start (Below.refl _ _) rfl⟩
  case round =>
    obtain ⟨k, rfl, hk, hW⟩ := hrel
    have hr := h.below hW.bel
    have hr' := h'.below hW.bel
    rcases Nat.lt_or_ge k n with hlt | hge
    · obtain ⟨ad, x, rfl, hc, hx⟩ := hr.at_ hlt
      obtain ⟨ad', y, rfl, hc', hy⟩ := hr'.at_ hlt
      obtain ⟨z, hz⟩ := hW.cell hlt
      have hf := hW.frozen k
      have hN := Lib.hid (hW.next hlt (v := (x - y)) (by rw [← hx.out, ← hy.out]))
      have hbb := Lib.hid (show -4611686018427387904 ≤ (x - y) ∧ (x - y) ≤ 4611686018427387904 by rw [← hx.out, ← hy.out]; exact hb.out k hlt)
      go_wp2_with fail
      refine (sub1_bin x y _ hbb.out.1 hbb.out.2).mono ?_
      rintro e w' ⟨rfl, rfl⟩
      go_wp2
      go_roundw
      case rel => exact ⟨k + 1, by go_num, hlt, hN.out⟩
      case measure => simp [intOf]; omega
    · have hkn : k = n := by omega
      subst hkn
      have hD := hW.whole
      go_wp2
      go_ret
      exact ⟨_, rfl, hD, hW.bel, Nat.le_refl _⟩
theorem add_any (A A' : Option Addr) (n c c' : Nat) (xs ys : List Int) (w : World) (h : Sl .i64 w A n c xs) (h' : Sl .i64 w A' n c' ys) (hn : n ≤ 1000000)
    (hb : ∀ i, i < n → -4611686018427387904 ≤ xs.getD i 0 + ys.getD i 0 ∧ xs.getD i 0 + ys.getD i 0 ≤ 4611686018427387904) :
    Calls Tryd.prog 104 #[.slice A n c, .slice A' n c'] w fun e w' =>
      ∃ g, e = .returned (.slice (some ⟨g, 0, none⟩) n n) ∧ Mk w' g 3 .i64 (tab n fun i => xs.getD i 0 + ys.getD i 0) ∧ Below w.heap.size w w' ∧ w.heap.size ≤ g := by
  have hb := Lib.hid hb
  go_enter Tryd.func104, Tryd.ntmps104
  go_wp2_with fail
  refine (CombineA_any _ _ _ _ _ _ _ _ h h' hn hb.out).mono ?_
  rintro e w' ⟨g, rfl, hM, hB, hg⟩
  go_wp2
  go_ret
  exact ⟨g, rfl, hM, hB, hg⟩
theorem subtract_any (A A' : Option Addr) (n c c' : Nat) (xs ys : List Int) (w : World) (h : Sl .i64 w A n c xs) (h' : Sl .i64 w A' n c' ys) (hn : n ≤ 1000000)
    (hb : ∀ i, i < n → -4611686018427387904 ≤ xs.getD i 0 - ys.getD i 0 ∧ xs.getD i 0 - ys.getD i 0 ≤ 4611686018427387904) :
    Calls Tryd.prog 78 #[.slice A n c, .slice A' n c'] w fun e w' =>
      ∃ g, e = .returned (.slice (some ⟨g, 0, none⟩) n n) ∧ Mk w' g 3 .i64 (tab n fun i => xs.getD i 0 - ys.getD i 0) ∧ Below w.heap.size w w' ∧ w.heap.size ≤ g := by
  have hb := Lib.hid hb
  go_enter Tryd.func78, Tryd.ntmps78
  go_wp2_with fail
  refine (CombineS_any _ _ _ _ _ _ _ _ h h' hn hb.out).mono ?_
  rintro e w' ⟨g, rfl, hM, hB, hg⟩
  go_wp2
  go_ret
  exact ⟨g, rfl, hM, hB, hg⟩

/-- the sum of component c of the first k vectors -/
def colS (vs : List (List Int)) (c k : Nat) : Int := sm k fun t => (vs.getD t []).getD c 0
def meanL (m : Nat) (vs : List (List Int)) : List Int := tab m fun c => rnd (colS vs c vs.length) vs.length
theorem colS_bd {vs : List (List Int)} {M : Int} (hM : 0 ≤ M) (h : ∀ x ∈ vs, allB (-M) M x = true) (c k : Nat) : -(k * M) ≤ colS vs c k ∧ colS vs c k ≤ k * M := by
  refine sm_bd (fun t _ => ?_)
  rcases Nat.lt_or_ge t vs.length with ht | ht
  · have hm : vs.getD t [] ∈ vs := by rw [List.getD_eq_getElem?_getD, List.getElem?_eq_getElem ht]; exact List.getElem_mem _
    rcases Nat.lt_or_ge c (vs.getD t []).length with hc | hc
    · exact allB_get (h _ hm) hc rfl
    · rw [getD_out hc]; omega
  · have e : vs.getD t [] = [] := by rw [List.getD_eq_getElem?_getD, List.getElem?_eq_none ht]; rfl
    rw [e, getD_out (Nat.zero_le _)]; omega

set_option maxHeartbeats 1600000 in
set_option maxRecDepth 100000 in
theorem mean_any (A : Option Addr) (n c m : Nat) (vs : List (List Int)) (w : World) (h : Rr w A n c vs) (hn : 1 ≤ n) (hn2 : n ≤ 10000) (hm : m ≤ 64) (hu : ∀ u ∈ vs, u.length = m ∧ allB (-1048576) 1048576 u = true) :
    Calls Tryd.prog 80 #[.slice A n c] w fun e w' =>
      ∃ g, e = .returned (.slice (some ⟨g, 0, none⟩) m m) ∧ Mk w' g 3 .i64 (meanL m vs) ∧ Below w.heap.size w w' ∧ w.heap.size ≤ g := by
  have hl := Lib.hid h.len
  have hcap := h.cap
  have htop := h.top
  have hbd := Lib.hid (fun c k => colS_bd (M := 1048576) (by decide) (fun x hx => (hu x hx).2) c k)
  have hu := Lib.hid hu
  obtain ⟨ad, B, L, C, x0, rfl, hc, hx0, hS0, _⟩ := h.at_ (i := 0) (by omega)
  have hLm : L = m := by rw [← hS0.len]; exact (hu.out x0 (List.mem_of_getElem? hx0.out)).1
  subst hLm
  have hc0 := hc
  rw [show ad.add 0 = ad from by unfold Addr.add; simp] at hc0
  have hmk := make_int L (by omega)
  have hLc := hS0.cap
  have hLt := hS0.top
  go_enter Tryd.func80, Tryd.ntmps80
  go_wp2
  clear hmk
  have hM0 := Mk.new w 3 .i64 (zs L)
  have hb0 := (Below.refl w.heap.size w).alloc (Nat.le_refl _) (.cells (ivs .i64 (zs L)).toArray 3)
  go_loopw [3, 15] (fun sv iv wr => ∃ k g : Nat, iv = .int .i64 k ∧ k ≤ n ∧ sv = .slice (some ⟨g, 0, none⟩) L L ∧ Mk wr g 3 .i64 (tab L fun c => colS vs c k) ∧ Below w.heap.size w wr ∧ w.heap.size ≤ g) (fun _ iv _ => n - (intOf iv).toNat)
  case atStart =>
    refine ⟨0, _, rfl, Nat.zero_le _, rfl, ?_, hb0, Nat.le_refl _⟩
    have e : (tab L fun c => colS vs c 0) = zs L := by
      apply List.ext_getElem
      · rw [tab_len, zs_len]
      · intro i h1 h2
        simp [tab, zs, colS, sm]
    rw [e]
    exact hM0
  case round =>
    obtain ⟨k, g, rfl, hk, rfl, hM, hB, hg⟩ := hrel
    have hr := h.below hB
    rcases Nat.lt_or_ge k n with hlt | hge
    · obtain ⟨ad2, B2, L2, C2, x, e2, hc2, hx, hS2, _⟩ := hr.at_ hlt
      injection e2 with e2
      subst e2
      have hL2 : L2 = L := by rw [← hS2.len]; exact (hu.out x (List.mem_of_getElem? hx.out)).1
      subst hL2
      have hSl := hM.sl (tab_len _ _) (by omega)
      have hxall := Lib.hid (hu.out x (List.mem_of_getElem? hx.out))
      go_wp2_with fail
      refine (add_any _ _ _ _ _ _ _ _ hSl hS2 (by omega) (fun i hi => ?_)).mono ?_
      · rw [tab_getD hi]
        have h1 := hbd.out i k
        have h2 := allB_get hxall.out.2 (j := i) (by rw [hxall.out.1]; exact hi) rfl
        omega
      rintro e w2 ⟨g2, rfl, hM2, hB2, hg2⟩
      have hbz := hB.size
      have e3 : (tab L2 fun i => (tab L2 fun c => colS vs c k).getD i 0 + x.getD i 0) = tab L2 fun c => colS vs c (k + 1) := tab_congr fun i hi => by
        rw [tab_getD hi]
        show _ = colS vs i k + (vs.getD k []).getD i 0
        rw [getD_some hx.out]
      rw [e3] at hM2
      go_wp2
      go_roundw
      case rel => exact ⟨k + 1, g2, by go_num, hlt, rfl, hM2, hB.trans (hB2.mono hbz), by omega⟩
      case measure => simp [intOf]; omega
    · have hkn : k = n := by omega
      subst hkn
      have hR := Lib.hid (show meanL L vs = tab L fun c => rnd (colS vs c k) k by unfold meanL; rw [hl.out])
      have e0 : (tab L fun c => colS vs c k) = upd L 0 (fun c => colS vs c k) fun c => rnd (colS vs c k) k := (upd_zero _ _ _).symm
      rw [e0] at hM
      clear e0
      go_wp2
      go_loopw [25] (fun iv wr => ∃ j : Nat, iv = .int .i64 j ∧ j ≤ L ∧ Mk wr g 3 .i64 (upd L j (fun c => colS vs c k) fun c => rnd (colS vs c k) k) ∧ Below w.heap.size w wr) (fun iv _ => L - (intOf iv).toNat)
      case atStart => exact ⟨0, rfl, Nat.zero_le _, hM, hB⟩
      case round =>
        obtain ⟨j, rfl, hj, hM2, hb2⟩ := hrel
        rcases Nat.lt_or_ge j L with hjl | hjg
        · have hcj := hM2.cell (i := j) (by rw [upd_len]; exact hjl)
          rw [upd_at hjl] at hcj
          have hf := hM2.frozen j
          have hb3 := hbd.out j k
          have hM3 := hM2.set_ j (rnd (colS vs j k) k)
          rw [upd_set hjl (fun c => colS vs c k) fun c => rnd (colS vs c k) k] at hM3
          have hb4 := hb2.setCell (p := ⟨g, j, none⟩) hg (.int .i64 (rnd (colS vs j k) k))
          have hM3 := Lib.hid hM3
          generalize colS vs j k = v at *
          go_wp2_with (go_at_call 64; refine (divide_any _ _ _ (by omega) (by omega) (by omega) (by omega)).mono ?_; rintro e w' ⟨rfl, rfl⟩)
          go_roundw
          case rel => exact ⟨j + 1, by go_num, hjl, hM3.out, hb4⟩
          case measure => simp [intOf]; omega
        · have hjL : j = L := by omega
          subst hjL
          rw [upd_all] at hM2
          go_wp2
          go_ret
          exact ⟨_, rfl, by rw [hR.out]; exact hM2, hb2, hg⟩
end Go.Proofs.YtoljffghaklpdaaDoor


/- Copies of lists of vectors, equality of lists of lists. -/
namespace Go.Proofs.YtoljffghaklpdaaDoor
open Go.RowKit

theorem setRow_setCell (w : World) (p : Addr) (u : Value) (g : Nat) (r : Array Value) (h : p.block ≠ g) : (w.setCell p u).setRow g r = (w.setRow g r).setCell p u := by
  unfold World.setRow World.setCell
  congr 1
  apply Array.ext
  · simp
  · intro i h1 h2
    simp only [Array.getElem_modify]
    by_cases e1 : g = i <;> by_cases e2 : p.block = i
    · exact absurd (e2.trans e1.symm) h
    · simp [e1, e2]
    · simp [e1, e2]
    · simp [e1, e2]

/-- the call returned a list of rows of its own, whose block can be written -/
def RetB (w : World) (n : Nat) (vs : List (List Int)) (e : Ending) (w' : World) : Prop :=
  ∃ g news, e = .returned (.slice (some ⟨g, 0, none⟩) n n) ∧ Blk w' g 30 (news : List Value).toArray ∧ RowL w' news vs ∧ Below w.heap.size w w' ∧ w.heap.size ≤ g

set_option maxHeartbeats 3200000 in
set_option maxRecDepth 100000 in
theorem copyVectors_any (A : Option Addr) (n c m : Nat) (vs : List (List Int)) (w : World) (h : Rr w A n c vs) (hn : n ≤ 10000) (hm1 : 1 ≤ m) (hm : m ≤ 64) (hu : ∀ u ∈ vs, u.length = m) :
    Calls Tryd.prog 86 #[.slice A n c] w (RetB w n vs) := by
  have hl := Lib.hid h.len
  have hcap := h.cap
  have htop := h.top
  have hu := Lib.hid hu
  have hmk := make_rows n (by omega)
  have hmk1 := make_int m (by omega)
  go_enter Tryd.func86, Tryd.ntmps86
  go_wp2
  have hst := RFill.start (n := n) (Below.refl w.heap.size w)
  clear hmk
  go_loopw [11] (fun iv wr => ∃ k : Nat, iv = .int .i64 k ∧ k ≤ n ∧ RFill w wr w.heap.size n k (vs.take k)) (fun iv _ => n - (intOf iv).toNat)
  case atStart => exact ⟨0, rfl, Nat.zero_le _, hst⟩
  case round =>
    obtain ⟨k, rfl, hk, hF⟩ := hrel
    clear hst
    have hr := h.below hF.bel
    rcases Nat.lt_or_ge k n with hlt | hge
    · obtain ⟨ad, B, L, C, x, rfl, hc, hx, hS, hB0, hL0⟩ := hr.at_ hlt
      have hLm : L = m := by rw [← hS.len]; exact hu.out x (List.mem_of_getElem? hx.out)
      subst hLm
      obtain ⟨bd, rfl, _⟩ := hS.cell (by omega)
      have hLc := hS.cap
      have hLt := hS.top
      have hxl := Lib.hid hS.len
      have hcg := hF.cell hlt
      have hfg := hF.frozen k
      have hglt : w.heap.size < wr.heap.size := by
        obtain ⟨news, hBl, _⟩ := hF.ex
        exact hBl.lt
      have hgne : w.heap.size ≠ wr.heap.size := by omega
      -- the worlds of the round
      have hM0 := Mk.new wr 3 .i64 (zs L)
      have hb0 := (Below.refl wr.heap.size wr).alloc (Nat.le_refl _) (.cells (ivs .i64 (zs L)).toArray 3)
      have hcg1 : (wr.alloc (.cells (ivs .i64 (zs L)).toArray 3)).cell? ⟨w.heap.size, k, none⟩ = some nilV := by rw [World.cell?_alloc_lt _ _ _ hglt]; exact hcg
      have hfg1 : (wr.alloc (.cells (ivs .i64 (zs L)).toArray 3)).frozen? ⟨w.heap.size, k, none⟩ = false := (hF.below hb0).frozen k
      have hM1 : Mk ((wr.alloc (.cells (ivs .i64 (zs L)).toArray 3)).setCell ⟨w.heap.size, k, none⟩ (.slice (some ⟨wr.heap.size, 0, none⟩) L L)) wr.heap.size 3 .i64 (zs L) := hM0.far (p := ⟨w.heap.size, k, none⟩) (Ne.symm hgne) _
      have hS0 := hS.alloc (.cells (ivs .i64 (zs L)).toArray 3)
      have hS1 : Sl .i64 ((wr.alloc (.cells (ivs .i64 (zs L)).toArray 3)).setCell ⟨w.heap.size, k, none⟩ (.slice (some ⟨wr.heap.size, 0, none⟩) L L)) (some bd) L C x := by
        obtain ⟨news, hBl, hRl⟩ := hF.ex
        refine hS0.farn (fun hp ad he => ?_) k _
        exact hS.nob hBl (fill_slices hRl (n - k)) hp ad he
      have hnews := Lib.hid hS1.news
      have hcl := Lib.hid (show (ivs .i64 x).length = L by rw [ivs_len, hxl.out])
      have hc1 := Lib.hid (show (ivs .i64 x).length = Nat.min L L by rw [hcl.out]; exact (Nat.min_self L).symm)
      have hc3 := Lib.hid (show 0 + (ivs .i64 x).length ≤ (ivs .i64 (zs L)).toArray.size by rw [hcl.out]; simp [ivs_len, zs_len])
      have hrow := Lib.hid (show (ivs .i64 x ++ List.drop (ivs .i64 x).length (ivs .i64 (zs L))) = ivs .i64 x by
        rw [hcl.out, List.drop_eq_nil_of_le (by rw [ivs_len, zs_len]; exact Nat.le_refl _), List.append_nil])
      -- the end of the round
      have hMx : Mk ((wr.alloc (.cells (ivs .i64 (zs L)).toArray 3)).setRow wr.heap.size (ivs .i64 x).toArray) wr.heap.size 3 .i64 x := setRow_heap _ _ _ _ 3 (0, 0) hM0
      have hbx : Below wr.heap.size wr ((wr.alloc (.cells (ivs .i64 (zs L)).toArray 3)).setRow wr.heap.size (ivs .i64 x).toArray) := below_setRow hb0 (Nat.le_refl _) _
      have hFx := (hF.below hbx).next hlt (hMx.sl hxl.out (by omega)) (fun e => by cases e) (by omega)
      rw [← setRow_setCell _ _ _ _ _ (show (⟨w.heap.size, k, none⟩ : Addr).block ≠ wr.heap.size from hgne)] at hFx
      have hFx : RFill w (((wr.alloc (.cells (ivs .i64 (zs L)).toArray 3)).setCell ⟨w.heap.size, k, none⟩ (.slice (some ⟨wr.heap.size, 0, none⟩) L L)).setRow wr.heap.size (ivs .i64 x).toArray) w.heap.size n (k + 1) (vs.take (k + 1)) := by
        have hkl := lt_of_some hx.out
        have hx2 := hx.out
        rw [List.getElem?_eq_getElem hkl] at hx2
        injection hx2 with hx2
        rw [take_snoc hkl, hx2]
        exact hFx
      have eW : (wr.alloc (.cells (ivs .i64 (zs L)).toArray 3)).setCell ⟨w.heap.size, k, none⟩ (.slice (some ⟨wr.heap.size, 0, none⟩) L L) = (wr.setCell ⟨w.heap.size, k, none⟩ (.slice (some ⟨wr.heap.size, 0, none⟩) L L)).alloc (.cells (ivs .i64 (zs L)).toArray 3) := World.setCell_alloc_past _ _ _ _ hglt
      have hnews := Lib.hid (eW ▸ hnews.out)
      have hM1 := eW ▸ hM1
      have hFx := Lib.hid (eW ▸ hFx)
      clear hbx hMx hS0 hS1 hM0 hb0 eW
      go_wp2_with (refine wpList_copy_own rfl (.tmp 25) (.tmp 26) 30 30 rfl 3 Tryd.underlying30 info_int1 wr.heap.size 0 L L bd L C rfl rfl (ivs .i64 (zs L)).toArray 3 hM1 (ivs .i64 x) hc1.out hnews.out hc3.out (oneCell_ivs _ _) ?_)
      rw [hrow.out]
      generalize (((wr.setCell ⟨w.heap.size, k, none⟩ (.slice (some ⟨wr.heap.size, 0, none⟩) L L)).alloc (.cells (ivs .i64 (zs L)).toArray 3)).setRow wr.heap.size (ivs .i64 x).toArray) = w9 at *
      try go_wp2
      go_roundw
      case rel => exact ⟨k + 1, by go_num, hlt, hFx.out⟩
      case measure => simp [intOf]; omega
    · have hkn : k = n := by omega
      subst hkn
      obtain ⟨news, hB, hR⟩ := hF.ex
      rw [Nat.sub_self, List.replicate_zero, List.append_nil] at hB
      rw [List.take_of_length_le (by rw [hl.out]; exact Nat.le_refl _)] at hR
      have hbl := hF.bel
      go_wp2
      go_ret
      exact ⟨_, news, rfl, hB, hR, hbl, Nat.le_refl _⟩
end Go.Proofs.YtoljffghaklpdaaDoor


/- The improved codebook: groups of vectors. -/
namespace Go.Proofs.YtoljffghaklpdaaDoor
open Go.RowKit

theorem info_sl2 : (Tryd.prog.info? 46).map (fun i => (i.zero, i.size, i.bytes)) = some (some nilV, 1, 24) := by kernel_rfl
theorem make_near (n : Nat) (hn : n ≤ 5000000000000) (w : World) :
    (Instr.makeSlice 97 (.int .i64 (n : Int)) (.int .i64 (n : Int))).run Tryd.prog w = .ok (.slice (some ⟨w.heap.size, 0, none⟩) n n) (w.alloc (.cells (List.replicate n nilV).toArray 46)) := by
  obtain ⟨i0, hi, hz0, hz1, hz2⟩ := info_parts info_sl2
  have := run_make (P := Tryd.prog) w 97 46 i0 nilV Tryd.underlying97 hi hz0 .i64 .i64 n n (by omega) (by omega) (by rw [hz2]; omega) (by omega)
  rw [this, hz1]
  have e : Value.cells nilV = #[nilV] := rfl
  rw [e, made_nil]
  simp

/-- the vectors, as so many slice values, in groups -/
structure Near (w wr : World) (gn n : Nat) (VV : Nat → Value) (gv : Nat → List Value) (G : Nat → List (List Int)) : Prop where
  blk : Blk wr gn 46 ((List.range n).map VV).toArray
  own : ∀ i, i < n → wr.ownsRow w.heap.size 30 1 (VV i) (G i).length (gv i)
  row : ∀ i, i < n → RowL w (gv i) (G i)
  sep : ∀ i j, i < n → j < n → i ≠ j → (VV i).ownBlock = none ∨ (VV i).ownBlock ≠ (VV j).ownBlock
  bel : Below w.heap.size w wr
  new : w.heap.size ≤ gn
section
variable {w wr : World} {gn n : Nat} {VV : Nat → Value} {gv : Nat → List Value} {G : Nat → List (List Int)}
theorem Near.below {w2 : World} (h : Near w wr gn n VV gv G) (hb : Below wr.heap.size wr w2) : Near w w2 gn n VV gv G :=
  ⟨h.blk.below hb, fun i hi => own_bel (h.own i hi) hb, h.row, h.sep, h.bel.trans (hb.mono h.bel.size), h.new⟩
theorem Near.cell (h : Near w wr gn n VV gv G) {i : Nat} (hi : i < n) : wr.cell? ⟨gn, i, none⟩ = some (VV i) := by
  rw [h.blk.cell i]
  simp [hi]
theorem Near.start : Near w (w.alloc (.cells (List.replicate n nilV).toArray 46)) w.heap.size n (fun _ => nilV) (fun _ => []) (fun _ => []) :=
  ⟨by
    have : (List.range n).map (fun _ => nilV) = List.replicate n nilV := by
      apply List.ext_getElem
      · simp
      · intro i h1 h2; simp
    rw [this]
    exact Blk.new _ _ _, fun i _ => World.ownsRow_nil _ _ _ _, fun i _ => RowL.nil _, fun i j _ _ _ => .inl rfl, (Below.refl _ _).alloc (Nat.le_refl _) _, Nat.le_refl _⟩
theorem grown_set (w : World) (g i : Nat) (u : Value) : w.grownBy (w.setCell ⟨g, i, none⟩ u) (some g) :=
  ⟨rfl, rfl, rfl, by simp [World.setCell], fun k hk hne => by
    have : ¬ g = k := fun e => hne (by rw [e])
    simp [World.setCell, Array.getElem?_modify, this]⟩
/-- one more vector in group i -/
theorem Near.push (h : Near w wr gn n VV gv G) {i : Nat} (hi : i < n) {V : Value} {w3 : World} {o : Obj} {s : Value} {x : List Int}
    (h1 : w3.ownsRow w.heap.size 30 1 V ((G i).length + 1) (gv i ++ [s])) (h2 : (wr.alloc o).grownBy w3 (VV i).ownBlock) (h3 : V.ownBlock = (VV i).ownBlock ∨ V.ownBlock = some (wr.alloc o).heap.size) (hs : RowL w [s] [x]) :
    Near w (w3.setCell ⟨gn, i, none⟩ V) gn n (fun j => if j = i then V else VV j) (fun j => if j = i then gv i ++ [s] else gv j) (fun j => if j = i then G i ++ [x] else G j) := by
  have hblk3 : Blk w3 gn 46 ((List.range n).map VV).toArray := (h.blk.alloc o).grown h2 (blk_row h.blk (h.own i hi) (by decide))
  have hV := blk_row hblk3 h1 (by decide)
  have hlt := fun j (hj : j < n) => (h.own j hj).lt
  have hsz : wr.heap.size < (wr.alloc o).heap.size := by simp
  refine ⟨?_, fun j hj => ?_, fun j hj => ?_, fun j k hj hk hjk => ?_, ?_, h.new⟩
  · have := hblk3.set_ i V
    rw [show ((List.range n).map VV).toArray.setIfInBounds i V = ((List.range n).map fun j => if j = i then V else VV j).toArray by
      rw [List.setIfInBounds_toArray]
      congr 1
      apply List.ext_getElem
      · simp
      · intro j a1 a2
        rw [List.getElem_set]
        by_cases e : i = j
        · subst e; simp
        · simp [e, Ne.symm e]] at this
    exact this
  · by_cases e : j = i
    · subst e
      simp only [if_true]
      rw [List.length_append]
      exact h1.kept (grown_set w3 gn j V) (.inr (fun e2 => hV e2.symm))
    · simp only [if_neg e]
      have k1 := ((h.own j hj).alloc o).kept h2 (h.sep j i hj hi e)
      exact k1.kept (grown_set w3 gn i V) (.inr (fun e2 => blk_row hblk3 k1 (by decide) e2.symm))
  · by_cases e : j = i
    · subst e
      simp only [if_true]
      exact (h.row j hj).app hs
    · simp only [if_neg e]
      exact h.row j hj
  · by_cases e : j = i
    · subst e
      have e2 : k ≠ j := Ne.symm hjk
      simp only [if_true, if_neg e2]
      rcases h3 with h3 | h3
      · rw [h3]; exact h.sep j k hj hk hjk
      · rw [h3]
        refine .inr (fun e3 => ?_)
        have := (hlt k hk _ e3.symm).2
        omega
    · by_cases e2 : k = i
      · subst e2
        simp only [if_true, if_neg e]
        rcases h3 with h3 | h3
        · rw [h3]; exact h.sep j k hj hk hjk
        · rw [h3]
          refine .inr (fun e3 => ?_)
          have := (hlt j hj _ e3).2
          omega
      · simp only [if_neg e, if_neg e2]
        exact h.sep j k hj hk hjk
  · have hb1 := h.bel.alloc h.bel.size o
    have hb2 := bel_grown2 hb1 h2 (fun q e => ((hlt i hi) q e).1)
    exact hb2.setCell (p := ⟨gn, i, none⟩) h.new V
end

/-- the vectors whose nearest codeword is number k -/
def grpL (us : List (List Int)) (k : Nat) (vs : List (List Int)) : List (List Int) := vs.filter fun x => decide ((nrS x us us.length).1 = k)
def impK (m : Nat) (vs us : List (List Int)) (k : Nat) : List Int := if grpL us k vs = [] then us.getD k [] else meanL m (grpL us k vs)
def impL (m : Nat) (vs us : List (List Int)) : List (List Int) := (List.range us.length).map (impK m vs us)
theorem grpL_snoc (us : List (List Int)) (k : Nat) (vs : List (List Int)) (x : List Int) : grpL us k (vs ++ [x]) = if k = (nrS x us us.length).1 then grpL us k vs ++ [x] else grpL us k vs := by
  unfold grpL
  rw [List.filter_append]
  by_cases h : k = (nrS x us us.length).1
  · simp [h]
  · simp [h, Ne.symm h]
theorem grpL_sub {us : List (List Int)} {k : Nat} {vs : List (List Int)} {x : List Int} (h : x ∈ grpL us k vs) : x ∈ vs := (List.mem_filter.1 h).1
theorem grpL_len (us : List (List Int)) (k : Nat) (vs : List (List Int)) : (grpL us k vs).length ≤ vs.length := List.length_filter_le _ _

theorem src_lit (w : World) (t : TypeId) (B : Option Addr) (L C : Nat) : Src (w.alloc (.cells #[.slice B L C] t)) (some ⟨w.heap.size, 0, none⟩) 1 1 [.slice B L C] 1 :=
  ⟨rfl, fun e => (by cases e), fun ad e j u hu => by
    injection e with e
    subst e
    rw [add_new, (Blk.new w t #[.slice B L C]).cell j]
    simpa using hu, fun u hu => by
      simp at hu
      subst hu
      rfl⟩
/-- row i replaced -/
theorem RowL.replace {w : World} {news : List Value} {vs : List (List Int)} (h : RowL w news vs) {g : Nat} {t : TypeId} (hB : Blk w g t news.toArray) {i : Nat} {B : Option Addr} {L C : Nat} {x : List Int} (hS : Sl .i64 w B L C x) (h1 : B = none → C = 0) (h2 : L ≤ 17592186044416) :
    RowL (w.setCell ⟨g, i, none⟩ (.slice B L C)) (news.set i (.slice B L C)) (vs.set i x) := by
  have hsl : ∀ v ∈ news.toArray, ∃ B L C, v = Value.slice B L C := fun v hv => h.slices v (by simpa using hv)
  have hR := h.set_ hB hsl i (.slice B L C)
  refine ⟨by rw [List.length_set, List.length_set, h.1], fun j v hv => ?_⟩
  rw [List.getElem?_set] at hv
  by_cases e : i = j
  · subst e
    rw [if_pos rfl] at hv
    split at hv
    · rename_i hlt
      injection hv with hv
      subst hv
      exact ⟨B, L, C, x, rfl, by rw [List.getElem?_set, if_pos rfl, if_pos (by rw [← h.1]; exact hlt)], hS.farn (hS.nob hB hsl) i _, h1, h2⟩
    · cases hv
  · rw [if_neg e] at hv
    obtain ⟨B2, L2, C2, x2, e2, hx, h3⟩ := hR.2 j v hv
    exact ⟨B2, L2, C2, x2, e2, by rw [List.getElem?_set, if_neg e]; exact hx, h3⟩
end Go.Proofs.YtoljffghaklpdaaDoor


/- The improved codebook: the walk. -/
namespace Go.Proofs.YtoljffghaklpdaaDoor
open Go.RowKit

/-- vectors of m components -/
def VecS (m : Nat) (vs : List (List Int)) : Prop := ∀ u ∈ vs, u.length = m ∧ allB (-1048576) 1048576 u = true
theorem Near.congr {w wr : World} {gn n : Nat} {VV : Nat → Value} {gv : Nat → List Value} {G G' : Nat → List (List Int)} (h : Near w wr gn n VV gv G) (e : ∀ i, i < n → G i = G' i) : Near w wr gn n VV gv G' :=
  ⟨h.blk, fun i hi => by rw [← e i hi]; exact h.own i hi, fun i hi => by rw [← e i hi]; exact h.row i hi, h.sep, h.bel, h.new⟩

theorem own_slice {w : World} {base e size n : Nat} {v : Value} {xs : List Value} (h : w.ownsRow base e size v n xs) : ∃ A c, v = Value.slice A n c := by
  rcases h.2 with ⟨rfl, rfl⟩ | ⟨g, cap, cur, rfl, _⟩
  · exact ⟨none, 0, rfl⟩
  · exact ⟨_, _, rfl⟩

set_option maxHeartbeats 4000000 in
set_option maxRecDepth 100000 in
theorem improve_any (A A' : Option Addr) (N c n c' m : Nat) (vs us : List (List Int)) (w : World) (h : Rr w A N c vs) (h' : Rr w A' n c' us) (hN : N ≤ 10000) (hn : n ≤ 10000) (hm1 : 1 ≤ m) (hm : m ≤ 64) (hv : VecS m vs) (hu : VecS m us) (hn1 : 1 ≤ n) :
    Calls Tryd.prog 85 #[.slice A N c, .slice A' n c'] w (RetB w n (impL m vs us)) := by
  have hl := Lib.hid h.len
  have hl' := Lib.hid h'.len
  have hcap := h.cap
  have htop := h.top
  have hcap' := h'.cap
  have htop' := h'.top
  have hv := Lib.hid hv
  have hu := Lib.hid hu
  have hmk := make_near n (by omega)
  obtain ⟨i0, hi, hz0, hz1, hz2⟩ := info_parts info_sl
  go_enter Tryd.func85, Tryd.ntmps85
  go_wp2
  clear hmk
  have hst := Near.start (w := w) (n := n)
  go_loopw [18] (fun iv wr => ∃ (t : Nat) (VV : Nat → Value) (gv : Nat → List Value), iv = .int .i64 t ∧ t ≤ N ∧ Near w wr w.heap.size n VV gv (fun i => grpL us i (vs.take t))) (fun iv _ => N - (intOf iv).toNat)
  case atStart => exact ⟨0, _, _, rfl, Nat.zero_le _, hst⟩
  case round =>
    obtain ⟨t, VV, gv, rfl, ht, hNe⟩ := hrel
    clear hst
    have hr := h.below hNe.bel
    have hr' := h'.below hNe.bel
    rcases Nat.lt_or_ge t N with hlt | hge
    · obtain ⟨ad, B, L, C, x, rfl, hc0, hx, hS, hB0, hL0⟩ := h.at_ hlt
      have hc := (hNe.bel.cell (World.block_lt_of_cell? _ _ hc0)).trans hc0
      have hxv := Lib.hid (hv.out x (List.mem_of_getElem? hx.out))
      have hLm : L = m := by rw [← hS.len]; exact hxv.out.1
      subst hLm
      have hSr := hS.below hNe.bel
      go_wp2_with fail
      refine (nearest_any _ _ _ _ _ _ _ _ _ hSr hr' hxv.out.2 hm1 hm hu.out).mono ?_
      rintro e w2 ⟨rfl, q, rfl⟩
      have hnb := nrS_bd hxv.out.2 (by rw [hxv.out.1]; exact hm) (fun u h9 => by rw [hxv.out.1]; exact hu.out u h9) (k := n) (by rw [hl'.out]; exact Nat.le_refl _)
      have hii := (hnb.2.2.2 (by omega)).2
      have hstep := Lib.hid (fun i => show grpL us i (vs.take (t + 1)) = if i = (nrS x us n).1 then grpL us i (vs.take t) ++ [x] else grpL us i (vs.take t) by
        have hkl := lt_of_some hx.out
        have hx2 := hx.out
        rw [List.getElem?_eq_getElem hkl] at hx2
        injection hx2 with hx2
        rw [take_snoc hkl, hx2, grpL_snoc, hl'.out])
      have hrow1 := RowL.one hS hB0 hL0
      have hNq := hNe.below (bel_drewN (Below.refl wr.heap.size wr) q)
      generalize wr.drewN q = w3 at *
      generalize (nrS x us n).2 = dd at *
      generalize (nrS x us n).1 = ii at *
      clear hnb hS hSr hr hr' hc0
      have hci := hNq.cell hii
      have hoi := (hNq.own ii hii).alloc (.cells #[.slice B L C] 30)
      have hsrc := Lib.hid (src_lit w3 30 B L C)
      have hlen := Lib.hid (show (grpL us ii (vs.take t)).length ≤ 10000 by have := grpL_len us ii (vs.take t); rw [List.length_take] at this; omega)
      have hbz : w.heap.size ≤ (w3.alloc (.cells #[.slice B L C] 30)).heap.size := by have := hNq.bel.size; simp; omega
      have i0' : (0 : Int) ≤ (ii : Int) := by omega
      have i1' : (ii : Int) < (n : Int) := by omega
      have hown := Lib.hid hoi
      obtain ⟨V, hV⟩ : ∃ V, VV ii = V := ⟨_, rfl⟩
      rw [hV] at hci
      have hown : (w3.alloc (.cells #[.slice B L C] 30)).ownsRow w.heap.size 30 1 V (grpL us ii (vs.take t)).length (gv ii) := by rw [← hV]; exact hoi
      have hV := Lib.hid hV
      clear hoi
      go_wp2_with (at_builtin; refine wpList_append_any rfl (.tmp 33) (.tmp 35) 46 rfl w.heap.size 30 i0 nilV 1 24 Tryd.underlying46 hi hz0 hz1 hz2 rfl (by decide) V (grpL us ii (vs.take t)).length (gv ii) rfl hown (some ⟨w3.heap.size, 0, none⟩) 1 1 [.slice B L C] rfl hsrc.out (by have := hlen.out; unfold maxLen; omega) (by have := hlen.out; omega) hbz ?_; intro V2 w4 h1 h2 h3; obtain ⟨A9, c9, rfl⟩ := own_slice h1; have hblk := (hNq.blk.alloc (.cells #[.slice B L C] 30)).grown (hV.out ▸ h2) (blk_row hNq.blk (hNq.own ii hii) (by decide)); have hcc : w4.cell? ⟨w.heap.size, ii, none⟩ = some (VV ii) := (by rw [hblk.cell ii]; simp [hii]); have hff := hblk.frozen ii; have hN4 := Lib.hid (Near.push (s := .slice B L C) (x := x) hNq hii h1 (hV.out ▸ h2) (hV.out ▸ h3) hrow1))
      go_wp2
      go_roundw
      case rel => exact ⟨t + 1, _, _, by go_num, hlt, hN4.out.congr fun i hi => by
        rw [hstep.out i]
        by_cases e : i = ii
        · subst e; simp
        · simp [e]⟩
      case measure => simp [intOf]; omega
    · have htN : t = N := by omega
      subst htN
      have hG := hNe.congr (G' := fun i => grpL us i vs) (fun i hi => by rw [List.take_of_length_le (by rw [hl.out]; exact Nat.le_refl _)])
      clear hNe
      have hw1 := hG.bel
      go_wp2_with fail
      refine (copyVectors_any _ _ _ m _ _ hr' hn hm1 hm (fun u h9 => (hu.out u h9).1)).mono ?_
      rintro e w5 ⟨gb, nb, rfl, hBb, hRb, hb5, hg5⟩
      have hmix : (List.range n).map (fun k => if k < 0 then impK m vs us k else us.getD k []) = us := by
        apply List.ext_getElem
        · simp [hl'.out]
        · intro i a1 a2
          simp [List.getD_eq_getElem?_getD, a2]
      go_wp2
      go_loopw [43] (fun iv w6' => ∃ (j : Nat) (nb : List Value) (w6 : World), w6 = w6' ∧ iv = .int .i64 j ∧ j ≤ n ∧ Blk w6 gb 30 nb.toArray ∧ RowL w6 nb ((List.range n).map fun k => if k < j then impK m vs us k else us.getD k []) ∧ Below wr.heap.size wr w6) (fun iv _ => n - (intOf iv).toNat)
      case atStart => exact ⟨0, nb, _, rfl, rfl, Nat.zero_le _, hBb, by rw [hmix]; exact hRb, hb5⟩
      case round =>
        obtain ⟨j, nb2, w6, rfl, rfl, hj, hB6, hR6, hb6⟩ := hrel
        rcases Nat.lt_or_ge j n with hjl | hjg
        · have hG6 := hG.below hb6
          have hcj := hG6.cell hjl
          obtain ⟨Aj, cj, hVj, hRj⟩ := Rr.of_own (hG6.own j hjl) ((hG6.row j hjl).below hG6.bel)
          rw [hVj] at hcj
          have hcapj := hRj.cap
          have htopj := hRj.top
          have hlj := Lib.hid hRj.len
          have hglen := grpL_len us j vs
          rw [hl.out] at hglen
          have hnl : nb2.length = n := by rw [hR6.1]; simp
          have hcb : w6.cell? ⟨gb, j, none⟩ = some (nb2[j]'(by omega)) := by rw [hB6.cell j]; simp [hnl, hjl]
          have hfb := hB6.frozen j
          have hgv := Lib.hid (show VecS m (grpL us j vs) from fun u h9 => hv.out u (grpL_sub h9))
          by_cases h0 : grpL us j vs = []
          · have hz : (grpL us j vs).length = 0 := by rw [h0]; rfl
            have hk := Lib.hid (show impK m vs us j = us.getD j [] by unfold impK; rw [if_pos h0])
            have hR7 := Lib.hid (show RowL w6 nb2 ((List.range n).map fun k => if k < j + 1 then impK m vs us k else us.getD k []) by
              have e : (List.range n).map (fun k => if k < j + 1 then impK m vs us k else us.getD k []) = (List.range n).map fun k => if k < j then impK m vs us k else us.getD k [] := by
                apply List.map_congr_left
                intro k hk9
                by_cases e1 : k < j
                · rw [if_pos e1, if_pos (by omega)]
                · rw [if_neg e1]
                  by_cases e2 : k = j
                  · subst e2; rw [if_pos (by omega), hk.out]
                  · rw [if_neg (by omega)]
              rw [e]; exact hR6)
            rw [hz] at hcj
            clear h0
            go_wp2
            go_roundw
            case rel => exact ⟨j + 1, nb2, _, rfl, by go_num, hjl, hB6, hR7.out, hb6⟩
            case measure => simp [intOf]; omega
          · have hz : 1 ≤ (grpL us j vs).length := by
              rcases Nat.eq_zero_or_pos (grpL us j vs).length with e | e
              · exact absurd (List.eq_nil_of_length_eq_zero e) h0
              · exact e
            have hk := Lib.hid (show impK m vs us j = meanL m (grpL us j vs) by unfold impK; rw [if_neg h0])
            clear h0
            generalize hQ : (grpL us j vs).length = Q at *
            have hQ := Lib.hid hQ
            have hdq : decide ((0 : Int) < (Q : Int)) = true := decide_eq_true (by omega)
            go_wp2_with fail
            refine (mean_any _ _ _ m _ _ hRj hz (by omega) hm hgv.out).mono ?_
            rintro e w7 ⟨g7, rfl, hM7, hb7, hg7⟩
            have hB7 := hB6.below hb7
            have hcb7 : w7.cell? ⟨gb, j, none⟩ = some (nb2[j]'(by omega)) := by rw [hB7.cell j]; simp [hnl, hjl]
            have hfb7 := hB7.frozen j
            have hb8 := hb6.trans (hb7.mono hb6.size)
            have hml : (meanL m (grpL us j vs)).length = m := tab_len _ _
            have hR8 := Lib.hid ((hR6.below hb7).replace hB7 (i := j) (hM7.sl hml (by omega)) (fun e => by cases e) (by omega))
            have hB8 := Lib.hid (show Blk (w7.setCell ⟨gb, j, none⟩ (.slice (some ⟨g7, 0, none⟩) m m)) gb 30 (nb2.set j (.slice (some ⟨g7, 0, none⟩) m m)).toArray by
              have := hB7.set_ j (.slice (some ⟨g7, 0, none⟩) m m)
              rwa [List.setIfInBounds_toArray] at this)
            have hset := Lib.hid (show ((List.range n).map fun k => if k < j then impK m vs us k else us.getD k []).set j (meanL m (grpL us j vs)) = (List.range n).map fun k => if k < j + 1 then impK m vs us k else us.getD k [] by
              apply List.ext_getElem
              · simp
              · intro k a1 a2
                rw [List.getElem_set]
                by_cases e1 : j = k
                · subst e1; simp [hk.out]
                · by_cases e2 : k < j
                  · simp [e1, e2, show k < j + 1 by omega]
                  · simp [e1, e2, show ¬ k < j + 1 by omega])
            go_wp2
            go_roundw
            case rel => exact ⟨j + 1, _, _, rfl, by go_num, hjl, hB8.out, by rw [← hset.out]; exact hR8.out, hb8.setCell (p := ⟨gb, j, none⟩) hg5 _⟩
            case measure => simp [intOf]; omega
        · have hjn : j = n := by omega
          subst hjn
          have he := Lib.hid (show ((List.range j).map fun k => if k < j then impK m vs us k else us.getD k []) = impL m vs us by
            unfold impL
            rw [hl'.out]
            apply List.map_congr_left
            intro k hk9
            rw [if_pos (List.mem_range.1 hk9)])
          rw [he.out] at hR6
          have hbw := hw1.trans (hb6.mono hw1.size)
          have hgw : w.heap.size ≤ gb := Nat.le_trans hw1.size hg5
          go_wp2
          go_ret
          exact ⟨gb, nb2, rfl, hB6, hR6, hbw, hgw⟩

theorem codC_ok {vs us : List (List Int)} (h : codC vs us = 0) : vs.length ≤ 10000 ∧ us.length ≤ 256 ∧ 1 ≤ us.length ∧ 1 ≤ (us.headD []).length ∧ (us.headD []).length ≤ 64 ∧ VecS (us.headD []).length vs ∧ VecS (us.headD []).length us := by
  unfold codC at h
  split at h
  · rename_i h0
    split at h
    · rename_i hk
      obtain ⟨k1, k2⟩ := okB_iff.1 hk
      unfold chk2 at h0
      split at h0
      · cases h0
      · rename_i hlen
        split at h0
        · rename_i hv
          have hall : ∀ x ∈ vs ++ us, vecB x = true ∧ x.length = ((vs ++ us).headD []).length := fun x hx => by
            have := List.all_eq_true.1 hv x hx
            unfold rowOk at this
            simpa using this
          have hvec : ∀ x, vecB x = true → 1 ≤ x.length ∧ x.length ≤ 64 ∧ allB (-1048576) 1048576 x = true := fun x hx => by
            unfold vecB at hx
            simp only [Bool.and_eq_true] at hx
            have := okB_iff.1 hx.1
            exact ⟨by omega, by omega, hx.2⟩
          have hu0 : us.headD [] ∈ us := by
            cases us with
            | nil => simp at k1
            | cons y ys => simp
          have e0 := (hall _ (List.mem_append_right _ hu0)).2
          have e1 := hvec _ (hall _ (List.mem_append_right _ hu0)).1
          exact ⟨by omega, by omega, by omega, e1.1, e1.2.1, fun u hu => ⟨by rw [(hall u (List.mem_append_left _ hu)).2, e0], (hvec u (hall u (List.mem_append_left _ hu)).1).2.2⟩, fun u hu => ⟨by rw [(hall u (List.mem_append_right _ hu)).2, e0], (hvec u (hall u (List.mem_append_right _ hu)).1).2.2⟩⟩
        · cases h0
    · cases h
  · rename_i h0
    exact absurd h h0

def Ret2B (w : World) (n : Nat) (vs : List (List Int)) (e : Ending) (w' : World) : Prop :=
  ∃ A c, e = .returned (.tuple #[.slice A n c, .int .i64 0]) ∧ Rr w' A n c vs ∧ Below w.heap.size w w'
set_option maxHeartbeats 800000 in
theorem Improve_any (A A' : Option Addr) (N c n c' : Nat) (vs us : List (List Int)) (w : World) (h : Rr w A N c vs) (h' : Rr w A' n c' us) :
    Calls Tryd.prog 57 #[.slice A N c, .slice A' n c'] w fun e w' => (codC vs us = 0 ∧ Ret2B w n (impL (us.headD []).length vs us) e w') ∨ (codC vs us ≠ 0 ∧ RetN w (codC vs us) e w') := by
  have hl := Lib.hid h.len
  have hl' := Lib.hid h'.len
  by_cases h0 : codC vs us = 0
  · have hok := Lib.hid (codC_ok h0)
    rw [hl.out, hl'.out] at hok
    have h0' := Lib.hid h0
    go_enter Tryd.func57, Tryd.ntmps57
    go_wp2_with fail
    refine (checkCoding_any _ _ _ _ _ _ _ _ _ h h').mono ?_
    rintro e w1 ⟨rfl, hb1⟩
    rw [h0'.out]
    clear h0
    go_wp2_with fail
    refine (improve_any _ _ _ _ _ _ _ _ _ _ (h.below hb1) (h'.below hb1) hok.out.1 (by have := hok.out.2.1; omega) hok.out.2.2.2.1 hok.out.2.2.2.2.1 hok.out.2.2.2.2.2.1 hok.out.2.2.2.2.2.2 hok.out.2.2.1).mono ?_
    rintro e w2 ⟨g, news, rfl, hB, hR, hb2, hg⟩
    have hlen := Lib.hid (show (impL (us.headD []).length vs us).length = n by unfold impL; simp [hl'.out])
    have hRr := Rr.of_blk hB hR hlen.out (by have := h'.cap; have := h'.top; omega)
    go_wp2
    go_ret2
    exact .inl ⟨h0'.out, _, _, rfl, hRr, hb1.trans (hb2.mono hb1.size)⟩
  · have h0' := Lib.hid h0
    have hne : (codC vs us != 0) = true := by simp [h0]
    have hne2 : (codC vs us == 0) = false := by simp [h0]
    go_enter Tryd.func57, Tryd.ntmps57
    go_wp2_with fail
    refine (checkCoding_any _ _ _ _ _ _ _ _ _ h h').mono ?_
    rintro e w1 ⟨rfl, hb1⟩
    go_wp2
    go_ret2
    exact .inr ⟨h0'.out, rfl, hb1⟩
end Go.Proofs.YtoljffghaklpdaaDoor


/- Differences of vectors; lists that are vectors. -/
namespace Go.Proofs.YtoljffghaklpdaaDoor
open Go.RowKit

theorem onlyVectors_any (A : Option Addr) (n c : Nat) (vs : List (List Int)) (w : World) (h : Rr w A n c vs) :
    Calls Tryd.prog 79 #[.slice A n c] w fun e w' => (chk1 vs = 0 ∧ Ret2B w n vs e w') ∨ (chk1 vs ≠ 0 ∧ RetN w 2 e w') := by
  by_cases h0 : chk1 vs = 0
  · have h0' := Lib.hid h0
    go_enter Tryd.func79, Tryd.ntmps79
    go_wp2_with fail
    refine (check1_any w A n c vs h).mono ?_
    rintro e w1 ⟨rfl, hb1⟩
    rw [h0'.out]
    clear h0
    have hR := h.below hb1
    go_wp2
    go_ret2
    exact .inl ⟨h0'.out, _, _, rfl, hR, hb1⟩
  · have h0' := Lib.hid h0
    have hne : (chk1 vs != 0) = true := by simp [h0]
    have hne2 : (chk1 vs == 0) = false := by simp [h0]
    go_enter Tryd.func79, Tryd.ntmps79
    go_wp2_with fail
    refine (check1_any w A n c vs h).mono ?_
    rintro e w1 ⟨rfl, hb1⟩
    go_wp2
    go_ret2
    exact .inr ⟨h0'.out, rfl, hb1⟩

/-- a vector and its differences -/
def difR (m : Nat) (vs : List (List Int)) (t : Nat) : List Int := vs.getD t [] ++ tab m fun c => (vs.getD (min (t + 1) (vs.length - 1)) []).getD c 0 - (vs.getD (t - 1) []).getD c 0
def difL (vs : List (List Int)) : List (List Int) := (List.range vs.length).map (difR (vs.headD []).length vs)
def difC (vs : List (List Int)) : Int := if chk1 vs = 0 then (if chk1 (difL vs) = 0 then 0 else 2) else chk1 vs
theorem chk1_ok {vs : List (List Int)} (h : chk1 vs = 0) : vs.length ≤ 10000 ∧ VecS (vs.headD []).length vs ∧ (0 < vs.length → 1 ≤ (vs.headD []).length ∧ (vs.headD []).length ≤ 64) := by
  unfold chk1 at h
  split at h
  · cases h
  · rename_i hlen
    split at h
    · rename_i hv
      have hall : ∀ x ∈ vs, vecB x = true ∧ x.length = (vs.headD []).length := fun x hx => by
        have := List.all_eq_true.1 hv x hx
        unfold rowOk at this
        simpa using this
      have hvec : ∀ x, vecB x = true → 1 ≤ x.length ∧ x.length ≤ 64 ∧ allB (-1048576) 1048576 x = true := fun x hx => by
        unfold vecB at hx
        simp only [Bool.and_eq_true] at hx
        have := okB_iff.1 hx.1
        exact ⟨by omega, by omega, hx.2⟩
      refine ⟨by omega, fun u hu => ⟨(hall u hu).2, (hvec u (hall u hu).1).2.2⟩, fun hp => ?_⟩
      have hu0 : vs.headD [] ∈ vs := by
        cases vs with
        | nil => simp at hp
        | cons y ys => simp
      have := hvec _ (hall _ hu0).1
      exact ⟨this.1, this.2.1⟩
    · cases h
theorem mem_getD {vs : List (List Int)} {t : Nat} (h : t < vs.length) : vs.getD t [] ∈ vs := by
  rw [List.getD_eq_getElem?_getD, List.getElem?_eq_getElem h]; exact List.getElem_mem _

set_option maxHeartbeats 3200000 in
set_option maxRecDepth 100000 in
theorem Differences_any (A : Option Addr) (n c : Nat) (vs : List (List Int)) (w : World) (h : Rr w A n c vs) :
    Calls Tryd.prog 40 #[.slice A n c] w fun e w' => (difC vs = 0 ∧ Ret2B w n (difL vs) e w') ∨ (difC vs ≠ 0 ∧ RetN w (difC vs) e w') := by
  have hl := Lib.hid h.len
  have hcap := h.cap
  have htop := h.top
  by_cases h0 : chk1 vs = 0
  · have hok := Lib.hid (chk1_ok h0)
    rw [hl.out] at hok
    have hC := Lib.hid (show difC vs = if chk1 (difL vs) = 0 then 0 else 2 by unfold difC; rw [if_pos h0])
    have h0' := Lib.hid h0
    have hn := hok.out.1
    have hmk := make_rows n (by omega)
    go_enter Tryd.func40, Tryd.ntmps40
    go_wp2_with fail
    refine (check1_any w A n c vs h).mono ?_
    rintro e w1 ⟨rfl, hb1⟩
    rw [h0'.out]
    clear h0
    have h1 := h.below hb1
    go_wp2
    clear hmk
    have hst := RFill.start (n := n) (Below.refl w1.heap.size w1)
    go_loopw [21] (fun iv wr => ∃ t : Nat, iv = .int .i64 t ∧ t ≤ n ∧ RFill w1 wr w1.heap.size n t ((List.range t).map (difR (vs.headD []).length vs))) (fun iv _ => n - (intOf iv).toNat)
    case atStart => exact ⟨0, rfl, Nat.zero_le _, hst⟩
    case round =>
      obtain ⟨t, rfl, ht, hF⟩ := hrel
      clear hst
      have hr := h1.below hF.bel
      rcases Nat.lt_or_ge t n with hlt | hge
      · have hm := hok.out.2.2 (by omega)
        obtain ⟨m, hmm⟩ : ∃ m, (vs.headD []).length = m := ⟨_, rfl⟩
        rw [hmm] at hm
        obtain ⟨ad, B, L, C, x, rfl, hc, hx, hS, hB0, hL0⟩ := hr.at_ hlt
        obtain ⟨p, hp⟩ : ∃ p, min (t + 1) (n - 1) = p := ⟨_, rfl⟩
        obtain ⟨q, hq⟩ : ∃ q, t - 1 = q := ⟨_, rfl⟩
        have hpn : p < n := by omega
        have hqn : q < n := by omega
        obtain ⟨ad2, B2, L2, C2, y, e2, hc2, hy, hS2, _⟩ := hr.at_ hpn
        injection e2 with e2
        subst e2
        obtain ⟨ad3, B3, L3, C3, z, e3, hc3, hz, hS3, _⟩ := hr.at_ hqn
        injection e3 with e3
        subst e3
        have hvS := hok.out.2.1
        rw [hmm] at hvS
        have hxv := Lib.hid (hvS x (List.mem_of_getElem? hx.out))
        have hyv := Lib.hid (hvS y (List.mem_of_getElem? hy.out))
        have hzv := Lib.hid (hvS z (List.mem_of_getElem? hz.out))
        have hLm : L = m := by rw [← hS.len]; exact hxv.out.1
        have hLm2 : L2 = m := by rw [← hS2.len]; exact hyv.out.1
        have hLm3 : L3 = m := by rw [← hS3.len]; exact hzv.out.1
        subst hLm
        subst hLm2
        subst hLm3
        have hdif := Lib.hid (show difR (vs.headD []).length vs t = x ++ tab L3 fun c => y.getD c 0 - z.getD c 0 by
          unfold difR
          rw [hmm, hl.out, hp, hq, getD_some hx.out, getD_some hy.out, getD_some hz.out])
        have hmin : min ((t : Int) + 1) ((n : Int) - 1) = (p : Int) := by omega
        have hmax : max ((t : Int) - 1) 0 = (q : Int) := by omega
        have hpi0 : (0 : Int) ≤ (p : Int) := by omega
        have hpi1 : (p : Int) < (n : Int) := by omega
        have hqi0 : (0 : Int) ≤ (q : Int) := by omega
        have hqi1 : (q : Int) < (n : Int) := by omega
        have w1e : IntKind.i64.wrap ((t : Int) + 1) = (t : Int) + 1 := IntWalk.i64_in _ (by omega)
        have w2e : IntKind.i64.wrap ((n : Int) - 1) = (n : Int) - 1 := IntWalk.i64_in _ (by omega)
        have w3e : IntKind.i64.wrap ((t : Int) - 1) = (t : Int) - 1 := IntWalk.i64_in _ (by omega)
        clear hp hq hmm hvS
        go_wp2
        go_quiet (fail)
        have hF2 := hF.drewN nq
        have hSx := hS.drewN nq
        have hSy := hS2.drewN nq
        have hSz := hS3.drewN nq
        clear hc hc2 hc3 hr hS hS2 hS3
        generalize wr.drewN nq = w3 at *
        go_wp2_with fail
        refine (subtract_any _ _ _ _ _ _ _ _ hSy hSz (by omega) (fun i hi => ?_)).mono ?_
        · have b1 := allB_get hyv.out.2 (j := i) (by rw [hyv.out.1]; exact hi) rfl
          have b2 := allB_get hzv.out.2 (j := i) (by rw [hzv.out.1]; exact hi) rfl
          omega
        rintro e w4 ⟨g4, rfl, hM4, hb4, hg4⟩
        have hF4 := hF2.below hb4
        have hSx4 := hSx.below hb4
        have hb5 := (Below.refl w4.heap.size w4).alloc (Nat.le_refl _) (.cells #[.slice B L3 C, .slice (some ⟨g4, 0, none⟩) L3 L3] 30)
        have hLs := ls_lit2 w4 30 B (some ⟨g4, 0, none⟩) L3 C L3 L3
        have hd4 := hM4.sl (tab_len L3 _) (show L3 ≤ 140737488355328 by omega)
        have hsrc1 := (Src.of_sl hSx4 hB0).below hb5
        have hsrc2 := (Src.of_sl hd4 (fun e => by cases e)).below hb5
        obtain ⟨dd, hdd⟩ : ∃ dd, (tab L3 fun i => y.getD i 0 - z.getD i 0) = dd := ⟨_, rfl⟩
        rw [hdd] at hsrc2
        have hdl : dd.length = L3 := by rw [← hdd]; exact tab_len _ _
        have hF5 := hF4.below hb5
        go_wp2_with fail
        refine (concatI_any _ _ _ _ _ _ (fun j => if j = 0 then ivs .i64 x else ivs .i64 dd) _ hLs (fun j hj => ?_) (by show (0 + L3) + L3 ≤ _; omega)).mono ?_
        · rcases (show j = 0 ∨ j = 1 by omega) with rfl | rfl
          · exact hsrc1
          · exact hsrc2
        rintro e w6 ⟨V6, rfl, hO6, hb6⟩
        have hO6' : w6.ownsRow (w4.alloc (.cells #[.slice B L3 C, .slice (some ⟨g4, 0, none⟩) L3 L3] 30)).heap.size 3 1 V6 (L3 + L3) (ivs .i64 (x ++ dd)) := by
          have e1 : sumN (fun j => if j = 0 then L3 else L3) 2 = L3 + L3 := by show (0 + L3) + L3 = _; omega
          have e2 : catN (fun j => if j = 0 then ivs .i64 x else ivs .i64 dd) 2 = ivs .i64 (x ++ dd) := by rw [ivs_app]; rfl
          rw [e1, e2] at hO6
          exact hO6
        obtain ⟨A6, c6, rfl, hS6⟩ := Sl.of_own hO6'
        have hF6 := hF5.below hb6
        have hcg := hF6.cell hlt
        have hfg := hF6.frozen t
        have hnn : A6 = none → c6 = 0 := fun e => by
          obtain ⟨ad6, _, e6, _⟩ := hS6.at_ (j := 0) (by omega)
          rw [e] at e6
          cases e6
        have hN := hF6.next hlt hS6 hnn (by omega)
        have hN : RFill w1 (w6.setCell ⟨w1.heap.size, t, none⟩ (.slice A6 (L3 + L3) c6)) w1.heap.size n (t + 1) ((List.range (t + 1)).map (difR (vs.headD []).length vs)) := by
          rw [List.range_succ, List.map_append]
          have : [t].map (difR (vs.headD []).length vs) = [x ++ dd] := by
            rw [List.map_cons, hdif.out, hdd]; rfl
          rw [this]
          exact hN
        have hN := Lib.hid hN
        clear hdd hO6 hO6' hsrc1 hsrc2
        go_wp2
        go_roundw
        case rel => exact ⟨t + 1, by go_num, hlt, hN.out⟩
        case measure => simp [intOf]; omega
      · have htn : t = n := by omega
        subst htn
        have hdl := Lib.hid (show (List.range t).map (difR (vs.headD []).length vs) = difL vs by unfold difL; rw [hl.out])
        have hD := hF.done (by omega)
        rw [hdl.out] at hD
        have hbw := hb1.trans (hF.bel.mono hb1.size)
        go_wp2_with fail
        refine (onlyVectors_any _ _ _ _ _ hD).mono ?_
        rintro e w7 (⟨hk, A7, c7, rfl, hR7, hb7⟩ | ⟨hk, rfl, hb7⟩)
        · have hk := Lib.hid hk
          have hb8 := hbw.trans (hb7.mono hbw.size)
          go_wp2
          go_ret2
          exact .inl ⟨by rw [hC.out, if_pos hk.out], _, _, rfl, hR7, hb8⟩
        · have hk := Lib.hid hk
          have hb8 := hbw.trans (hb7.mono hbw.size)
          go_wp2
          go_ret2
          exact .inr ⟨by rw [hC.out, if_neg hk.out]; decide, by rw [hC.out, if_neg hk.out]; rfl, hb8⟩
  · have h0' := Lib.hid h0
    have hC := Lib.hid (show difC vs = chk1 vs by unfold difC; rw [if_neg h0])
    have hne : (chk1 vs != 0) = true := by simp [h0]
    have hne2 : (chk1 vs == 0) = false := by simp [h0]
    go_enter Tryd.func40, Tryd.ntmps40
    go_wp2_with fail
    refine (check1_any w A n c vs h).mono ?_
    rintro e w1 ⟨rfl, hb1⟩
    go_wp2
    go_ret2
    exact .inr ⟨by rw [hC.out]; exact h0'.out, by rw [hC.out]; rfl, hb1⟩
end Go.Proofs.YtoljffghaklpdaaDoor
