/- Lists being filled with rows; combining two lists; copies of lists of vectors. -/
import Derived.Test.YtjpdgnbdbpgnmaaDoorGE
import Derived.Laws.CopyOwn
namespace Go.Proofs.YtjpdgnbdbpgnmaaDoor
open Go.RowKit

abbrev nilV : Value := .slice none 0 0
theorem made_nil (n : Nat) : madeCells #[nilV] n = (List.replicate n nilV).toArray := by
  apply Array.ext
  · simp [size_madeCells]
  · intro i h1 h2
    simp [madeCells, Nat.mod_one]
theorem make_rows (n : Nat) (hn : n ≤ 5000000000000) (w : World) :
    (Instr.makeSlice 46 (.int .i64 (n : Int)) (.int .i64 (n : Int))).run Tryd.prog w = .ok (.slice (some ⟨w.heap.size, 0, none⟩) n n) (w.alloc (.cells (List.replicate n nilV).toArray 30)) := by
  obtain ⟨i0, hi, hz0, hz1, hz2⟩ := info_parts info_sl
  have := run_make (P := Tryd.prog) w 46 30 i0 nilV Tryd.underlying46 hi hz0 .i64 .i64 n n (by omega) (by omega) (by rw [hz2]; omega) (by omega)
  rw [this, hz1]
  have e : Value.cells nilV = #[nilV] := rfl
  rw [e, made_nil]
  simp

/-- a block of slice values holds no integers -/
theorem Sl.nob {k : IntKind} {w : World} {A : Option Addr} {n c : Nat} {xs : List Int} (h : Sl k w A n c xs) {g : Nat} {t : TypeId} {cs : Array Value} (hB : Blk w g t cs) (hs : ∀ v ∈ cs, ∃ B L C, v = Value.slice B L C) : 0 < n → ∀ ad, A = some ad → ad.block ≠ g := by
  intro hp ad he hg
  obtain ⟨ad', x, e2, hc, _⟩ := h.at_ hp
  rw [he] at e2
  injection e2 with e2
  subst e2
  have hc0 : w.cell? ⟨g, (ad.add 0).off, none⟩ = cs[(ad.add 0).off]? := hB.cell _
  have hsp : ∀ (p : Addr) (v : Value), w.cell? p = some v → p.block = g → ∃ B L C, v = Value.slice B L C := by
    intro p v hv hpg
    obtain ⟨b, o, sp⟩ := p
    dsimp only at hpg
    subst hpg
    have hh : w.heap[b]? = some (.cells cs t (0, 0)) := hB
    cases sp with
    | none =>
      rw [hB.cell o] at hv
      exact hs v (Array.mem_of_getElem? hv)
    | some sp => simp [World.cell?, hh] at hv
  obtain ⟨B, L, C, e⟩ := hsp _ _ hc (by rw [block_of_add]; exact hg)
  cases e
theorem RowL.slices {w : World} {news : List Value} {vs : List (List Int)} (h : RowL w news vs) : ∀ v ∈ news, ∃ B L C, v = Value.slice B L C := by
  intro v hv
  obtain ⟨i, hi, rfl⟩ := List.getElem_of_mem hv
  obtain ⟨B, L, C, x, e, _⟩ := h.2 i _ (List.getElem?_eq_getElem hi)
  exact ⟨B, L, C, e⟩
theorem RowL.set_ {w : World} {news : List Value} {vs : List (List Int)} (h : RowL w news vs) {g : Nat} {t : TypeId} {cs : Array Value} (hB : Blk w g t cs) (hs : ∀ v ∈ cs, ∃ B L C, v = Value.slice B L C) (i : Nat) (u : Value) : RowL (w.setCell ⟨g, i, none⟩ u) news vs :=
  ⟨h.1, fun j v hv => by
    obtain ⟨B, L, C, x, e, hx, hS, h1, h2⟩ := h.2 j v hv
    exact ⟨B, L, C, x, e, hx, hS.farn (hS.nob hB hs) i u, h1, h2⟩⟩
theorem RowL.drewN {w : World} {news : List Value} {vs : List (List Int)} (h : RowL w news vs) (i : Nat) : RowL (w.drewN i) news vs := h.below (bel_drewN (Below.refl _ _) i)

/-- block g holds n rows, of which those done read as vs, the rest are nil -/
structure RFill (w wr : World) (g n k : Nat) (vs : List (List Int)) : Prop where
  ex : ∃ news, Blk wr g 30 (news ++ List.replicate (n - k) nilV).toArray ∧ RowL wr news vs
  len : vs.length = k
  bel : Below w.heap.size w wr
  new : w.heap.size ≤ g
theorem fill_slices {w : World} {news : List Value} {vs : List (List Int)} (h : RowL w news vs) (m : Nat) : ∀ v ∈ (news ++ List.replicate m nilV).toArray, ∃ B L C, v = Value.slice B L C := by
  intro v hv
  simp only [List.mem_toArray, List.mem_append] at hv
  rcases hv with hv | hv
  · exact h.slices v hv
  · exact ⟨none, 0, 0, List.eq_of_mem_replicate hv⟩
section
variable {w wr : World} {g n k : Nat} {vs : List (List Int)}
theorem RFill.start {w1 : World} (hb : Below w.heap.size w w1) : RFill w (w1.alloc (.cells (List.replicate n nilV).toArray 30)) w1.heap.size n 0 [] :=
  ⟨⟨[], Blk.new _ _ _, RowL.nil _⟩, rfl, hb.alloc hb.size _, hb.size⟩
theorem RFill.frozen (h : RFill w wr g n k vs) (i : Nat) : wr.frozen? ⟨g, i, none⟩ = false := by
  obtain ⟨news, hB, _⟩ := h.ex
  exact hB.frozen i
theorem RFill.cell (h : RFill w wr g n k vs) (hk : k < n) : wr.cell? ⟨g, k, none⟩ = some nilV := by
  obtain ⟨news, hB, hR⟩ := h.ex
  rw [hB.cell k]
  have hl : news.length = k := by rw [hR.1, h.len]
  simp [List.getElem?_append_right, hl, List.getElem?_replicate]
  omega
theorem RFill.next (h : RFill w wr g n k vs) (hk : k < n) {B : Option Addr} {L C : Nat} {x : List Int} (hS : Sl .i64 wr B L C x) (h1 : B = none → C = 0) (h2 : L ≤ 17592186044416) : RFill w (wr.setCell ⟨g, k, none⟩ (.slice B L C)) g n (k + 1) (vs ++ [x]) := by
  obtain ⟨news, hB, hR⟩ := h.ex
  have hl : news.length = k := by rw [hR.1, h.len]
  have hsl := fill_slices hR (n - k)
  refine ⟨⟨news ++ [Value.slice B L C], ?_, (hR.set_ hB hsl k _).app (RowL.one (hS.farn (hS.nob hB hsl) k _) h1 h2)⟩, by rw [List.length_append, h.len]; rfl, h.bel.setCell h.new _, h.new⟩
  have h3 := hB.set_ k (.slice B L C)
  rw [show (news ++ List.replicate (n - k) nilV).toArray.setIfInBounds k (Value.slice B L C) = ((news ++ [Value.slice B L C]) ++ List.replicate (n - (k + 1)) nilV).toArray by
    rw [List.setIfInBounds_toArray, List.set_append_right _ _ (by omega), hl, Nat.sub_self, show n - k = (n - (k + 1)) + 1 by omega, List.replicate_succ, List.set_cons_zero]
    simp] at h3
  exact h3
theorem RFill.below {w2 : World} (h : RFill w wr g n k vs) (hb : Below wr.heap.size wr w2) : RFill w w2 g n k vs := by
  obtain ⟨news, hB, hR⟩ := h.ex
  exact ⟨⟨news, hB.below hb, hR.below hb⟩, h.len, h.bel.trans (hb.mono h.bel.size), h.new⟩
theorem RFill.drewN (h : RFill w wr g n k vs) (i : Nat) : RFill w (wr.drewN i) g n k vs := h.below (bel_drewN (Below.refl _ _) i)
theorem Rr.of_blk {news : List Value} (hB : Blk wr g 30 news.toArray) (hR : RowL wr news vs) (hn : vs.length = n) (h63 : n ≤ 9223372036854775807) : Rr wr (some ⟨g, 0, none⟩) n n vs :=
  ⟨Nat.le_refl _, h63, news, ⟨by rw [hR.1, hn, Nat.mul_one], fun e => (by cases e), fun ad e j u hu => by
    injection e with e
    subst e
    rw [add_new, hB.cell j]
    simpa using hu, fun u hu => by
      obtain ⟨B, L, C, rfl⟩ := hR.slices u hu
      rfl⟩, hR⟩
theorem RFill.done (h : RFill w wr g n n vs) (h63 : n ≤ 9223372036854775807) : Rr wr (some ⟨g, 0, none⟩) n n vs := by
  obtain ⟨news, hB, hR⟩ := h.ex
  rw [Nat.sub_self, List.replicate_zero, List.append_nil] at hB
  exact Rr.of_blk hB hR h.len h63
end

/-- what a function of two integers returns -/
def Bin (F : FuncId) (f : Int → Int → Int) : Prop := ∀ (x y : Int) (w : World), -4611686018427387904 ≤ f x y → f x y ≤ 4611686018427387904 → Calls Tryd.prog F #[.int .i64 x, .int .i64 y] w fun e w' => e = .returned (.int .i64 (f x y)) ∧ w = w'
theorem add1_bin : Bin 116 (fun x y => x + y) := by
  intro x y w h1 h2
  dsimp only at h1 h2
  go_enter Tryd.func116, Tryd.ntmps116
  go_wp2
  go_ret
  exact ⟨rfl, rfl⟩
theorem sub1_bin : Bin 103 (fun x y => x - y) := by
  intro x y w h1 h2
  dsimp only at h1 h2
  go_enter Tryd.func103, Tryd.ntmps103
  go_wp2
  go_ret
  exact ⟨rfl, rfl⟩

set_option maxHeartbeats 800000 in
set_option maxRecDepth 100000 in
theorem CombineA_any (A A' : Option Addr) (n c c' : Nat) (xs ys : List Int) (w : World) (h : Sl .i64 w A n c xs) (h' : Sl .i64 w A' n c' ys) (hn : n ≤ 1000000)
    (hb : ∀ i, i < n → -4611686018427387904 ≤ (xs.getD i 0 + ys.getD i 0) ∧ (xs.getD i 0 + ys.getD i 0) ≤ 4611686018427387904) :
    Calls Tryd.prog 102 #[.slice A n c, .slice A' n c', .func (.func 116) #[] #[]] w fun e w' =>
      ∃ g, e = .returned (.slice (some ⟨g, 0, none⟩) n n) ∧ Mk w' g 3 .i64 (tab n fun i => (xs.getD i 0 + ys.getD i 0)) ∧ Below w.heap.size w w' ∧ w.heap.size ≤ g := by
  have hcap := h.cap
  have htop := h.top
  have hcap' := h'.cap
  have hb := Lib.hid hb
  have hmk := make_int n (by omega)
  go_enter Tryd.func102, Tryd.ntmps102
  go_wp2
  clear hmk
  go_loopw [15] (fun iv wr => ∃ k : Nat, iv = .int .i64 k ∧ k ≤ n ∧ Fill w wr w.heap.size 3 n k fun i => (xs.getD i 0 + ys.getD i 0)) (fun iv _ => n - (intOf iv).toNat)
  case atStart => exact ⟨0, rfl, Nat.zero_le _, Fill.start (Below.refl _ _) rfl⟩
  case round =>
    obtain ⟨k, rfl, hk, hW⟩ := hrel
    have hr := h.below hW.bel
    have hr' := h'.below hW.bel
    rcases Nat.lt_or_ge k n with hlt | hge
    · obtain ⟨ad, x, rfl, hc, hx⟩ := hr.at_ hlt
      obtain ⟨ad', y, rfl, hc', hy⟩ := hr'.at_ hlt
      obtain ⟨z, hz⟩ := hW.cell hlt
      have hf := hW.frozen k
      have hN := Lib.hid (hW.next hlt (v := (x + y)) (by rw [← hx.out, ← hy.out]))
      have hbb := Lib.hid (show -4611686018427387904 ≤ (x + y) ∧ (x + y) ≤ 4611686018427387904 by rw [← hx.out, ← hy.out]; exact hb.out k hlt)
      go_wp2_with fail
      refine (add1_bin x y _ hbb.out.1 hbb.out.2).mono ?_
      rintro e w' ⟨rfl, rfl⟩
      go_wp2
      go_roundw
      case rel => exact ⟨k + 1, by go_num, hlt, hN.out⟩
      case measure => simp [intOf]; omega
    · have hkn : k = n := by omega
      subst hkn
      have hD := hW.whole
      go_wp2
      go_ret
      exact ⟨_, rfl, hD, hW.bel, Nat.le_refl _⟩
set_option maxHeartbeats 800000 in
set_option maxRecDepth 100000 in
theorem CombineS_any (A A' : Option Addr) (n c c' : Nat) (xs ys : List Int) (w : World) (h : Sl .i64 w A n c xs) (h' : Sl .i64 w A' n c' ys) (hn : n ≤ 1000000)
    (hb : ∀ i, i < n → -4611686018427387904 ≤ (xs.getD i 0 - ys.getD i 0) ∧ (xs.getD i 0 - ys.getD i 0) ≤ 4611686018427387904) :
    Calls Tryd.prog 102 #[.slice A n c, .slice A' n c', .func (.func 103) #[] #[]] w fun e w' =>
      ∃ g, e = .returned (.slice (some ⟨g, 0, none⟩) n n) ∧ Mk w' g 3 .i64 (tab n fun i => (xs.getD i 0 - ys.getD i 0)) ∧ Below w.heap.size w w' ∧ w.heap.size ≤ g := by
  have hcap := h.cap
  have htop := h.top
  have hcap' := h'.cap
  have hb := Lib.hid hb
  have hmk := make_int n (by omega)
  go_enter Tryd.func102, Tryd.ntmps102
  go_wp2
  clear hmk
  go_loopw [15] (fun iv wr => ∃ k : Nat, iv = .int .i64 k ∧ k ≤ n ∧ Fill w wr w.heap.size 3 n k fun i => (xs.getD i 0 - ys.getD i 0)) (fun iv _ => n - (intOf iv).toNat)
  case atStart => exact ⟨0, rfl, Nat.zero_le _, Fill.start (Below.refl _ _) rfl⟩
  case round =>
    obtain ⟨k, rfl, hk, hW⟩ := hrel
    have hr := h.below hW.bel
    have hr' := h'.below hW.bel
    rcases Nat.lt_or_ge k n with hlt | hge
    · obtain ⟨ad, x, rfl, hc, hx⟩ := hr.at_ hlt
      obtain ⟨ad', y, rfl, hc', hy⟩ := hr'.at_ hlt
      obtain ⟨z, hz⟩ := hW.cell hlt
      have hf := hW.frozen k
      have hN := Lib.hid (hW.next hlt (v := (x - y)) (by rw [← hx.out, ← hy.out]))
      have hbb := Lib.hid (show -4611686018427387904 ≤ (x - y) ∧ (x - y) ≤ 4611686018427387904 by rw [← hx.out, ← hy.out]; exact hb.out k hlt)
      go_wp2_with fail
      refine (sub1_bin x y _ hbb.out.1 hbb.out.2).mono ?_
      rintro e w' ⟨rfl, rfl⟩
      go_wp2
      go_roundw
      case rel => exact ⟨k + 1, by go_num, hlt, hN.out⟩
      case measure => simp [intOf]; omega
    · have hkn : k = n := by omega
      subst hkn
      have hD := hW.whole
      go_wp2
      go_ret
      exact ⟨_, rfl, hD, hW.bel, Nat.le_refl _⟩
theorem add_any (A A' : Option Addr) (n c c' : Nat) (xs ys : List Int) (w : World) (h : Sl .i64 w A n c xs) (h' : Sl .i64 w A' n c' ys) (hn : n ≤ 1000000)
    (hb : ∀ i, i < n → -4611686018427387904 ≤ xs.getD i 0 + ys.getD i 0 ∧ xs.getD i 0 + ys.getD i 0 ≤ 4611686018427387904) :
    Calls Tryd.prog 104 #[.slice A n c, .slice A' n c'] w fun e w' =>
      ∃ g, e = .returned (.slice (some ⟨g, 0, none⟩) n n) ∧ Mk w' g 3 .i64 (tab n fun i => xs.getD i 0 + ys.getD i 0) ∧ Below w.heap.size w w' ∧ w.heap.size ≤ g := by
  have hb := Lib.hid hb
  go_enter Tryd.func104, Tryd.ntmps104
  go_wp2_with fail
  refine (CombineA_any _ _ _ _ _ _ _ _ h h' hn hb.out).mono ?_
  rintro e w' ⟨g, rfl, hM, hB, hg⟩
  go_wp2
  go_ret
  exact ⟨g, rfl, hM, hB, hg⟩
theorem subtract_any (A A' : Option Addr) (n c c' : Nat) (xs ys : List Int) (w : World) (h : Sl .i64 w A n c xs) (h' : Sl .i64 w A' n c' ys) (hn : n ≤ 1000000)
    (hb : ∀ i, i < n → -4611686018427387904 ≤ xs.getD i 0 - ys.getD i 0 ∧ xs.getD i 0 - ys.getD i 0 ≤ 4611686018427387904) :
    Calls Tryd.prog 78 #[.slice A n c, .slice A' n c'] w fun e w' =>
      ∃ g, e = .returned (.slice (some ⟨g, 0, none⟩) n n) ∧ Mk w' g 3 .i64 (tab n fun i => xs.getD i 0 - ys.getD i 0) ∧ Below w.heap.size w w' ∧ w.heap.size ≤ g := by
  have hb := Lib.hid hb
  go_enter Tryd.func78, Tryd.ntmps78
  go_wp2_with fail
  refine (CombineS_any _ _ _ _ _ _ _ _ h h' hn hb.out).mono ?_
  rintro e w' ⟨g, rfl, hM, hB, hg⟩
  go_wp2
  go_ret
  exact ⟨g, rfl, hM, hB, hg⟩

/-- the sum of component c of the first k vectors -/
def colS (vs : List (List Int)) (c k : Nat) : Int := sm k fun t => (vs.getD t []).getD c 0
def meanL (m : Nat) (vs : List (List Int)) : List Int := tab m fun c => rnd (colS vs c vs.length) vs.length
theorem colS_bd {vs : List (List Int)} {M : Int} (hM : 0 ≤ M) (h : ∀ x ∈ vs, allB (-M) M x = true) (c k : Nat) : -(k * M) ≤ colS vs c k ∧ colS vs c k ≤ k * M := by
  refine sm_bd (fun t _ => ?_)
  rcases Nat.lt_or_ge t vs.length with ht | ht
  · have hm : vs.getD t [] ∈ vs := by rw [List.getD_eq_getElem?_getD, List.getElem?_eq_getElem ht]; exact List.getElem_mem _
    rcases Nat.lt_or_ge c (vs.getD t []).length with hc | hc
    · exact allB_get (h _ hm) hc rfl
    · rw [getD_out hc]; omega
  · have e : vs.getD t [] = [] := by rw [List.getD_eq_getElem?_getD, List.getElem?_eq_none ht]; rfl
    rw [e, getD_out (Nat.zero_le _)]; omega

set_option maxHeartbeats 1600000 in
set_option maxRecDepth 100000 in
theorem mean_any (A : Option Addr) (n c m : Nat) (vs : List (List Int)) (w : World) (h : Rr w A n c vs) (hn : 1 ≤ n) (hn2 : n ≤ 10000) (hm : m ≤ 64) (hu : ∀ u ∈ vs, u.length = m ∧ allB (-1048576) 1048576 u = true) :
    Calls Tryd.prog 80 #[.slice A n c] w fun e w' =>
      ∃ g, e = .returned (.slice (some ⟨g, 0, none⟩) m m) ∧ Mk w' g 3 .i64 (meanL m vs) ∧ Below w.heap.size w w' ∧ w.heap.size ≤ g := by
  have hl := Lib.hid h.len
  have hcap := h.cap
  have htop := h.top
  have hbd := Lib.hid (fun c k => colS_bd (M := 1048576) (by decide) (fun x hx => (hu x hx).2) c k)
  have hu := Lib.hid hu
  obtain ⟨ad, B, L, C, x0, rfl, hc, hx0, hS0, _⟩ := h.at_ (i := 0) (by omega)
  have hLm : L = m := by rw [← hS0.len]; exact (hu.out x0 (List.mem_of_getElem? hx0.out)).1
  subst hLm
  have hc0 := hc
  rw [show ad.add 0 = ad from by unfold Addr.add; simp] at hc0
  have hmk := make_int L (by omega)
  have hLc := hS0.cap
  have hLt := hS0.top
  go_enter Tryd.func80, Tryd.ntmps80
  go_wp2
  clear hmk
  have hM0 := Mk.new w 3 .i64 (zs L)
  have hb0 := (Below.refl w.heap.size w).alloc (Nat.le_refl _) (.cells (ivs .i64 (zs L)).toArray 3)
  go_loopw [3, 15] (fun sv iv wr => ∃ k g : Nat, iv = .int .i64 k ∧ k ≤ n ∧ sv = .slice (some ⟨g, 0, none⟩) L L ∧ Mk wr g 3 .i64 (tab L fun c => colS vs c k) ∧ Below w.heap.size w wr ∧ w.heap.size ≤ g) (fun _ iv _ => n - (intOf iv).toNat)
  case atStart =>
    refine ⟨0, _, rfl, Nat.zero_le _, rfl, ?_, hb0, Nat.le_refl _⟩
    have e : (tab L fun c => colS vs c 0) = zs L := by
      apply List.ext_getElem
      · rw [tab_len, zs_len]
      · intro i h1 h2
        simp [tab, zs, colS, sm]
    rw [e]
    exact hM0
  case round =>
    obtain ⟨k, g, rfl, hk, rfl, hM, hB, hg⟩ := hrel
    have hr := h.below hB
    rcases Nat.lt_or_ge k n with hlt | hge
    · obtain ⟨ad2, B2, L2, C2, x, e2, hc2, hx, hS2, _⟩ := hr.at_ hlt
      injection e2 with e2
      subst e2
      have hL2 : L2 = L := by rw [← hS2.len]; exact (hu.out x (List.mem_of_getElem? hx.out)).1
      subst hL2
      have hSl := hM.sl (tab_len _ _) (by omega)
      have hxall := Lib.hid (hu.out x (List.mem_of_getElem? hx.out))
      go_wp2_with fail
      refine (add_any _ _ _ _ _ _ _ _ hSl hS2 (by omega) (fun i hi => ?_)).mono ?_
      · rw [tab_getD hi]
        have h1 := hbd.out i k
        have h2 := allB_get hxall.out.2 (j := i) (by rw [hxall.out.1]; exact hi) rfl
        omega
      rintro e w2 ⟨g2, rfl, hM2, hB2, hg2⟩
      have hbz := hB.size
      have e3 : (tab L2 fun i => (tab L2 fun c => colS vs c k).getD i 0 + x.getD i 0) = tab L2 fun c => colS vs c (k + 1) := tab_congr fun i hi => by
        rw [tab_getD hi]
        show _ = colS vs i k + (vs.getD k []).getD i 0
        rw [getD_some hx.out]
      rw [e3] at hM2
      go_wp2
      go_roundw
      case rel => exact ⟨k + 1, g2, by go_num, hlt, rfl, hM2, hB.trans (hB2.mono hbz), by omega⟩
      case measure => simp [intOf]; omega
    · have hkn : k = n := by omega
      subst hkn
      have hR := Lib.hid (show meanL L vs = tab L fun c => rnd (colS vs c k) k by unfold meanL; rw [hl.out])
      have e0 : (tab L fun c => colS vs c k) = upd L 0 (fun c => colS vs c k) fun c => rnd (colS vs c k) k := (upd_zero _ _ _).symm
      rw [e0] at hM
      clear e0
      go_wp2
      go_loopw [25] (fun iv wr => ∃ j : Nat, iv = .int .i64 j ∧ j ≤ L ∧ Mk wr g 3 .i64 (upd L j (fun c => colS vs c k) fun c => rnd (colS vs c k) k) ∧ Below w.heap.size w wr) (fun iv _ => L - (intOf iv).toNat)
      case atStart => exact ⟨0, rfl, Nat.zero_le _, hM, hB⟩
      case round =>
        obtain ⟨j, rfl, hj, hM2, hb2⟩ := hrel
        rcases Nat.lt_or_ge j L with hjl | hjg
        · have hcj := hM2.cell (i := j) (by rw [upd_len]; exact hjl)
          rw [upd_at hjl] at hcj
          have hf := hM2.frozen j
          have hb3 := hbd.out j k
          have hM3 := hM2.set_ j (rnd (colS vs j k) k)
          rw [upd_set hjl (fun c => colS vs c k) fun c => rnd (colS vs c k) k] at hM3
          have hb4 := hb2.setCell (p := ⟨g, j, none⟩) hg (.int .i64 (rnd (colS vs j k) k))
          have hM3 := Lib.hid hM3
          generalize colS vs j k = v at *
          go_wp2_with (go_at_call 64; refine (divide_any _ _ _ (by omega) (by omega) (by omega) (by omega)).mono ?_; rintro e w' ⟨rfl, rfl⟩)
          go_roundw
          case rel => exact ⟨j + 1, by go_num, hjl, hM3.out, hb4⟩
          case measure => simp [intOf]; omega
        · have hjL : j = L := by omega
          subst hjL
          rw [upd_all] at hM2
          go_wp2
          go_ret
          exact ⟨_, rfl, by rw [hR.out]; exact hM2, hb2, hg⟩
end Go.Proofs.YtjpdgnbdbpgnmaaDoor
