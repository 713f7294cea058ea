/- The features of a recording, the program's. -/
import Derived.Test.YtoljffghaklpdaaGreatDoorEL
import Derived.Test.YtoljffghaklpdaaGreatDoorEK
import Derived.Test.YtoljffghaklpdaaGreatDoorEJ
namespace Go.Proofs.YtoljffghaklpdaaGreatDoor
open Go.RowKit

/-- a list of lists that may be empty in whatever form -/
def RrZ (w : World) (A : Option Addr) (n c : Nat) (vs : List (List Int)) : Prop := vs.length = n ∧ n ≤ c ∧ c ≤ 9223372036854775807 ∧ (0 < n → Rr w A n c vs)
theorem Rr.z {w : World} {A : Option Addr} {n c : Nat} {vs : List (List Int)} (h : Rr w A n c vs) : RrZ w A n c vs := ⟨h.len, h.cap, h.top, fun _ => h⟩
theorem RrZ.below {w w' : World} {A : Option Addr} {n c : Nat} {vs : List (List Int)} (h : RrZ w A n c vs) (hb : Below w.heap.size w w') : RrZ w' A n c vs := ⟨h.1, h.2.1, h.2.2.1, fun h0 => (h.2.2.2 h0).below hb⟩
theorem RrZ.of_rs {w : World} {A : Option Addr} {n c : Nat} {B : Nat → Option Addr} {L C : Nat → Nat} {X : Nat → List Int} (h : Rs w A n c B L C X) : RrZ w A n c ((List.range n).map X) :=
  ⟨by simp, h.cap, h.top, fun h0 => Rr.of_rs h (fun e => by
    obtain ⟨ad, e2, _⟩ := h.cell h0
    rw [e] at e2
    cases e2)⟩

/-- each$1 at a list of lists that may be empty in whatever form -/
theorem eachZ_any (fid : Nat) (rc : Value) (gv : Addr) (A : Option Addr) (n c : Nat) (vs : List (List Int)) (f : List Int → List Int) (w : World) (h : RrZ w A n c vs) (hn : n ≤ 10000)
    (hc : w.cell? gv = some (.func (.func fid) #[rc] #[])) (hcf : ∀ (a : Array Value) (w : World), (callFunc fid a).run Tryz.prog w = .ok (.enter fid a) w)
    (hf : ∀ x, x ∈ vs → ∀ B L C W, Below w.heap.size w W → Sl .i64 W B L C x → Calls Tryz.prog fid #[rc, .slice B L C] W (RetRow W (f x)))
    (hfl : ∀ x, x ∈ vs → (f x).length ≤ 17592186044416) :
    Calls Tryz.prog 166 #[.slice A n c, .pointer (some gv)] w fun e w' => ∃ A' c', e = .returned (.tuple #[.slice A' n c', .int .i64 0]) ∧ Rr w' A' n c' (vs.map f) ∧ Below w.heap.size w w' := by
  rcases Nat.eq_zero_or_pos n with h0 | h0
  · subst h0
    have hv : vs = [] := List.eq_nil_of_length_eq_zero h.1
    subst hv
    have hcap := h.2.1
    have htop := h.2.2.1
    have hmk : ∀ w : World, (Instr.makeSlice 34 (.int .i64 0) (.int .i64 0)).run Tryz.prog w = .ok (.slice (some ⟨w.heap.size, 0, none⟩) 0 0) (w.alloc (.cells (List.replicate 0 nilV).toArray 28)) := make_rows 0 (by omega)
    have hst := RFill.start (n := 0) (Below.refl w.heap.size w)
    have hD := hst.done (by omega)
    have hbw := hst.bel
    clear hf hfl hcf
    go_enter Tryz.func166, Tryz.ntmps166
    go_wp2
    clear hmk
    refine wp_loop_rounds 1 ?_
    rw [rounds_succ]
    go_wp2
    go_ret2
    exact ⟨_, _, rfl, hD, hbw⟩
  · exact each1_any fid rc gv A n c vs f w (h.2.2.2 h0) hn hc hcf hf hfl

theorem emphasize_row (num den size step kind points cep : Int) (E : Value) (diff ctr : Bool) (A : Option Addr) (n c : Nat) (xs : List Int) (w : World) (h : Sl .i64 w A n c xs) (hE : ∃ B m d, E = .slice B m d) (hd1 : 1 ≤ den) (hd2 : den ≤ 1024) (hn1 : 0 ≤ num) (hn2 : num ≤ den) (hx : allB (-32768) 32767 xs = true) (hl : xs.length ≤ 200000) :
    Calls Tryz.prog 121 #[rcV num den size step kind points E cep diff ctr, .slice A n c] w (RetRow w (emF xs num den)) := by
  have hem := em_ok hd1 hd2 hn1 hn2 hx hl
  rcases Nat.eq_zero_or_pos n with h0 | h0
  · subst h0
    obtain ⟨B, m, d, rfl⟩ := hE
    have hxs : xs = [] := List.eq_nil_of_length_eq_zero h.len
    subst hxs
    clear hem hx hl
    unfold rcV
    go_enter Tryz.func121, Tryz.ntmps121
    go_wp2_with fail
    refine (Emphasize_nil _ _ num den _ (h.alloc _) hd1 hd2 hn1 hn2).mono ?_
    rintro e w' ⟨A', m', c', rfl, hs, hnn, hb⟩
    go_wp2
    go_ret2
    exact ⟨A', m', c', rfl, hs, hnn, ((Below.refl _ _).alloc (Nat.le_refl _) _).trans (hb.mono (by simp))⟩
  · refine (emphasize_any num den size step kind points cep E diff ctr A n c xs w h hE).mono fun e w' h2 => ?_
    rw [hem.1] at h2
    exact RetRow.of_L2 h2 hem.2.1 (by rw [em_len, h.len]; exact h0)

/-- the lists behind so many steps -/
def stg (num den size step kind : Int) (p : Nat) (cep : Int) (es : List Int) (diff ctr : Bool) (xs : List Int) : Nat → List (List Int)
  | 0 => [xs]
  | 1 => [emF xs num den]
  | 2 => frF (emF xs num den) size step
  | 3 => (frF (emF xs num den) size step).map (fun x => wgL x kind)
  | 4 => ((frF (emF xs num den) size step).map (fun x => wgL x kind)).map (anF p)
  | 5 => (((frF (emF xs num den) size step).map (fun x => wgL x kind)).map (anF p)).map (meF es)
  | 6 => (frF (emF xs num den) size step).map (ftF kind p es cep)
  | 7 => if diff then difL ((frF (emF xs num den) size step).map (ftF kind p es cep)) else (frF (emF xs num den) size step).map (ftF kind p es cep)
  | _ => featL num den size step kind p cep es diff ctr xs
theorem stg6_no (num den size step kind : Int) (p : Nat) (es : List Int) (diff ctr : Bool) (xs : List Int) : stg num den size step kind p 0 es diff ctr xs 6 = stg num den size step kind p 0 es diff ctr xs 5 := by
  unfold stg
  rw [List.map_map, List.map_map]
  rfl
theorem stg6_yes (num den size step kind : Int) (p : Nat) (cep : Int) (h : cep ≠ 0) (es : List Int) (diff ctr : Bool) (xs : List Int) : stg num den size step kind p cep es diff ctr xs 6 = (stg num den size step kind p cep es diff ctr xs 5).map (fun x => cpL x cep) := by
  show (frF (emF xs num den) size step).map (ftF kind p es cep) = ((((frF (emF xs num den) size step).map (fun x => wgL x kind)).map (anF p)).map (meF es)).map (fun x => cpL x cep)
  rw [List.map_map, List.map_map, List.map_map]
  refine List.map_congr_left fun x _ => ?_
  show shF cep _ = _
  unfold shF
  rw [if_neg h]
  rfl

/-- what the call returns: the features, or an error -/
def ExtP (V : Prop) (vs : List (List Int)) (w : World) (e : Ending) (w' : World) : Prop := (V ∧ Ret2B w vs.length vs e w') ∨ (¬ V ∧ RetN w 2 e w')

/-- the loop's relation: what has been done to the lists -/
structure StR (w5 : World) (N : Nat) (vs : List (List Int)) (t : Nat) (A : Option Addr) (n c : Nat) (wr : World) : Prop where
  z : RrZ wr A n c vs
  r : t ≠ 2 → Rr wr A n c vs
  one : t < 2 → n = 1
  many : 2 ≤ t → n = N
  bel : Below w5.heap.size w5 wr

set_option linter.unusedSimpArgs false
set_option maxHeartbeats 20000000 in
set_option maxRecDepth 100000 in
theorem Extract_ok (rate num den size step kind cep : Int) (p : Nat) (diff ctr : Bool) (A : Option Addr) (n c : Nat) (xs : List Int) (Ae : Option Addr) (m ce : Nat) (es : List Int) (w : World)
    (h : Sl .i64 w A n c xs) (hA : A = none → c = 0) (he : Sl .i64 w Ae m ce es) (hT : Tab w) (hn : n ≤ 1000) (hv : chkR rate xs = 0) (hx : allB (-32768) 32767 xs = true) (hR : RcP num den size step kind p cep es) :
    Calls Tryz.prog 13 #[.agg #[.int .i64 rate, .slice A n c], (rcV num den size step kind (p : Int) (.slice Ae m ce) cep diff ctr)] w (Ret2B w (featL num den size step kind p cep es diff ctr xs).length (featL num den size step kind p cep es diff ctr xs)) := by
  obtain ⟨⟨hd1, hd2⟩, ⟨hn1, hn2⟩, ⟨_, hp⟩, ⟨hs1, hs2⟩, ⟨ht1, ht2⟩, ⟨hk1, hk2⟩, h33, hE, hc1, hc2⟩ := id hR
  have hl := Lib.hid h.len
  have hle := Lib.hid he.len
  have hp : lenB p = true := by simpa using hp
  have hp64 := (lenB_le hp).2.1
  have hem := em_ok hd1 hd2 hn1 hn2 hx (by rw [hl.out]; omega)
  have hfr := fr_ok (size := size) (step := step) hs1 (by omega) ht1 ht2 hem.2.2 (by rw [em_len, hl.out]; omega)
  obtain ⟨N, hN⟩ : ∃ N, fcount (emF xs num den).length size.toNat step.toNat false = N := ⟨_, rfl⟩
  have hNl : N ≤ 1000 := by have := hfr.2; rw [hN, em_len, hl.out] at this; omega
  have hrow : ∀ x ∈ frF (emF xs num den) size step, x.length = size.toNat ∧ allB (-65536) 65536 x = true := fun x hx2 => fr_row hem.2.2 hx2
  have hcapz := h.cap
  have htopz := h.top
  have hcape := he.cap
  have htope := he.top
  have hb0 := ((Below.refl w.heap.size w).alloc (Nat.le_refl _) (.cells #[.int .i64 rate, .slice A n c] 30)).alloc (by simp) (.cells #[.int .i64 num, .int .i64 den, .int .i64 size, .int .i64 step, .int .i64 kind, .int .i64 (p : Int), .slice Ae m ce, .int .i64 cep, .bool diff, .bool ctr] 33)
  have hsz : ((w.alloc (.cells #[.int .i64 rate, .slice A n c] 30)).alloc (.cells #[.int .i64 num, .int .i64 den, .int .i64 size, .int .i64 step, .int .i64 kind, .int .i64 (p : Int), .slice Ae m ce, .int .i64 cep, .bool diff, .bool ctr] 33)).heap.size = w.heap.size + 2 := by simp
  have q0 : ((w.alloc (.cells #[.int .i64 rate, .slice A n c] 30)).alloc (.cells #[.int .i64 num, .int .i64 den, .int .i64 size, .int .i64 step, .int .i64 kind, .int .i64 (p : Int), .slice Ae m ce, .int .i64 cep, .bool diff, .bool ctr] 33)).cell? ⟨w.heap.size, 0, none⟩ = some (.int .i64 rate) := by simp
  have q1 : ((w.alloc (.cells #[.int .i64 rate, .slice A n c] 30)).alloc (.cells #[.int .i64 num, .int .i64 den, .int .i64 size, .int .i64 step, .int .i64 kind, .int .i64 (p : Int), .slice Ae m ce, .int .i64 cep, .bool diff, .bool ctr] 33)).cell? ⟨w.heap.size, 1, none⟩ = some (.slice A n c) := by simp
  have f0 : ((w.alloc (.cells #[.int .i64 rate, .slice A n c] 30)).alloc (.cells #[.int .i64 num, .int .i64 den, .int .i64 size, .int .i64 step, .int .i64 kind, .int .i64 (p : Int), .slice Ae m ce, .int .i64 cep, .bool diff, .bool ctr] 33)).cell? ⟨w.heap.size + 1, 0, none⟩ = some (.int .i64 num) := by simp
  have f1 : ((w.alloc (.cells #[.int .i64 rate, .slice A n c] 30)).alloc (.cells #[.int .i64 num, .int .i64 den, .int .i64 size, .int .i64 step, .int .i64 kind, .int .i64 (p : Int), .slice Ae m ce, .int .i64 cep, .bool diff, .bool ctr] 33)).cell? ⟨w.heap.size + 1, 1, none⟩ = some (.int .i64 den) := by simp
  have f2 : ((w.alloc (.cells #[.int .i64 rate, .slice A n c] 30)).alloc (.cells #[.int .i64 num, .int .i64 den, .int .i64 size, .int .i64 step, .int .i64 kind, .int .i64 (p : Int), .slice Ae m ce, .int .i64 cep, .bool diff, .bool ctr] 33)).cell? ⟨w.heap.size + 1, 2, none⟩ = some (.int .i64 size) := by simp
  have f3 : ((w.alloc (.cells #[.int .i64 rate, .slice A n c] 30)).alloc (.cells #[.int .i64 num, .int .i64 den, .int .i64 size, .int .i64 step, .int .i64 kind, .int .i64 (p : Int), .slice Ae m ce, .int .i64 cep, .bool diff, .bool ctr] 33)).cell? ⟨w.heap.size + 1, 3, none⟩ = some (.int .i64 step) := by simp
  have f4 : ((w.alloc (.cells #[.int .i64 rate, .slice A n c] 30)).alloc (.cells #[.int .i64 num, .int .i64 den, .int .i64 size, .int .i64 step, .int .i64 kind, .int .i64 (p : Int), .slice Ae m ce, .int .i64 cep, .bool diff, .bool ctr] 33)).cell? ⟨w.heap.size + 1, 4, none⟩ = some (.int .i64 kind) := by simp
  have f5 : ((w.alloc (.cells #[.int .i64 rate, .slice A n c] 30)).alloc (.cells #[.int .i64 num, .int .i64 den, .int .i64 size, .int .i64 step, .int .i64 kind, .int .i64 (p : Int), .slice Ae m ce, .int .i64 cep, .bool diff, .bool ctr] 33)).cell? ⟨w.heap.size + 1, 5, none⟩ = some (.int .i64 (p : Int)) := by simp
  have f6 : ((w.alloc (.cells #[.int .i64 rate, .slice A n c] 30)).alloc (.cells #[.int .i64 num, .int .i64 den, .int .i64 size, .int .i64 step, .int .i64 kind, .int .i64 (p : Int), .slice Ae m ce, .int .i64 cep, .bool diff, .bool ctr] 33)).cell? ⟨w.heap.size + 1, 6, none⟩ = some (.slice Ae m ce) := by simp
  have f7 : ((w.alloc (.cells #[.int .i64 rate, .slice A n c] 30)).alloc (.cells #[.int .i64 num, .int .i64 den, .int .i64 size, .int .i64 step, .int .i64 kind, .int .i64 (p : Int), .slice Ae m ce, .int .i64 cep, .bool diff, .bool ctr] 33)).cell? ⟨w.heap.size + 1, 7, none⟩ = some (.int .i64 cep) := by simp
  have f8 : ((w.alloc (.cells #[.int .i64 rate, .slice A n c] 30)).alloc (.cells #[.int .i64 num, .int .i64 den, .int .i64 size, .int .i64 step, .int .i64 kind, .int .i64 (p : Int), .slice Ae m ce, .int .i64 cep, .bool diff, .bool ctr] 33)).cell? ⟨w.heap.size + 1, 8, none⟩ = some (.bool diff) := by simp
  have f9 : ((w.alloc (.cells #[.int .i64 rate, .slice A n c] 30)).alloc (.cells #[.int .i64 num, .int .i64 den, .int .i64 size, .int .i64 step, .int .i64 kind, .int .i64 (p : Int), .slice Ae m ce, .int .i64 cep, .bool diff, .bool ctr] 33)).cell? ⟨w.heap.size + 1, 9, none⟩ = some (.bool ctr) := by simp
  have h2 := h.below hb0
  have he2 := he.below hb0
  have hT2 : Tab ((w.alloc (.cells #[.int .i64 rate, .slice A n c] 30)).alloc (.cells #[.int .i64 num, .int .i64 den, .int .i64 size, .int .i64 step, .int .i64 kind, .int .i64 (p : Int), .slice Ae m ce, .int .i64 cep, .bool diff, .bool ctr] 33)) := hT.below hb0
  have hv := Lib.hid hv
  have hR := Lib.hid hR
  have hx := Lib.hid hx
  have hem := Lib.hid hem
  have hfr := Lib.hid hfr
  have hN := Lib.hid hN
  have hrow := Lib.hid hrow
  have hp := Lib.hid hp
  obtain ⟨cb, hcb⟩ : ∃ cb, (cep != 0) = cb := ⟨_, rfl⟩
  have hcb := Lib.hid hcb
  clear hE hc2
  have hE := Lib.hid hR.out.2.2.2.2.2.2.2.1
  unfold rcV
  go_enter Tryz.func13, Tryz.ntmps13
  go_wp2_with fail
  generalize ((w.alloc (.cells #[.int .i64 rate, .slice A n c] 30)).alloc (.cells #[.int .i64 num, .int .i64 den, .int .i64 size, .int .i64 step, .int .i64 kind, .int .i64 (p : Int), .slice Ae m ce, .int .i64 cep, .bool diff, .bool ctr] 33)) = w2 at *
  refine (wValid_any _ _ _ _ _ _ h2).mono ?_
  rintro e w3 ⟨rfl, hb3⟩
  rw [hv.out]
  have q0 := cell_bel q0 hb3
  have q1 := cell_bel q1 hb3
  have f0 := cell_bel f0 hb3
  have f1 := cell_bel f1 hb3
  have f2 := cell_bel f2 hb3
  have f3 := cell_bel f3 hb3
  have f4 := cell_bel f4 hb3
  have f5 := cell_bel f5 hb3
  have f6 := cell_bel f6 hb3
  have f7 := cell_bel f7 hb3
  have f8 := cell_bel f8 hb3
  have f9 := cell_bel f9 hb3
  have h3 := h2.below hb3
  have he3 := he2.below hb3
  have hT3 : Tab w3 := hT2.below hb3
  have hb03 := hb0.trans (hb3.mono (by omega))
  have hs3 := hb3.size
  go_wp2_with fail
  refine (FValid_any _ _ _ _ _ _ _ _ _ _ _ _ _ _ he3 (lenB p) (fun w0 => (isLength_any p w0)) ⟨fun hh => ⟨by omega, by simpa using hh⟩, fun hh => by simpa using hh.2⟩).mono ?_
  rintro e w4 ⟨b, rfl, hb, hb4⟩
  obtain rfl : b = true := hb.2 hR.out
  clear hb
  have q0 := cell_bel q0 hb4
  have q1 := cell_bel q1 hb4
  have f0 := cell_bel f0 hb4
  have f1 := cell_bel f1 hb4
  have f2 := cell_bel f2 hb4
  have f3 := cell_bel f3 hb4
  have f4 := cell_bel f4 hb4
  have f5 := cell_bel f5 hb4
  have f6 := cell_bel f6 hb4
  have f7 := cell_bel f7 hb4
  have f8 := cell_bel f8 hb4
  have f9 := cell_bel f9 hb4
  have h4 := h3.below hb4
  have he4 := he3.below hb4
  have hT4 : Tab w4 := hT3.below hb4
  have hb04 := hb03.trans (hb4.mono (by have := hb03.size; omega))
  have hb5 := (Below.refl w4.heap.size w4).alloc (Nat.le_refl _) (.cells #[.slice A n c] 28)
  have f0 := cell_bel f0 hb5
  have f1 := cell_bel f1 hb5
  have f2 := cell_bel f2 hb5
  have f3 := cell_bel f3 hb5
  have f4 := cell_bel f4 hb5
  have f5 := cell_bel f5 hb5
  have f6 := cell_bel f6 hb5
  have f7 := cell_bel f7 hb5
  have f8 := cell_bel f8 hb5
  have f9 := cell_bel f9 hb5
  go_wp2_with fail
  refine (steps_any num den size step kind (p : Int) cep Ae m ce diff ctr cb hcb.out _).mono ?_
  rintro e w6 ⟨gs, g1, g3, g4, g5, g6, rfl, hS, hb6⟩
  have hl0 : Blk (w4.alloc (.cells #[.slice A n c] 28)) w4.heap.size 28 #[.slice A n c] := Blk.new _ _ _
  have hl6 := hl0.below hb6
  have h6 := (h4.below hb5).below hb6
  have he6 := (he4.below hb5).below hb6
  have hT6 : Tab w6 := Tab.below (Tab.below hT4 hb5) hb6
  have hb46 := hb5.trans (hb6.mono hb5.size)
  have hb06 := hb04.trans (hb46.mono (by have := hb04.size; omega))
  have hR0 : Rr w6 (some ⟨w4.heap.size, 0, none⟩) 1 1 [xs] := Rr.of_blk (news := [.slice A n c]) hl6 (RowL.one h6 hA (by omega)) rfl (by decide)
  clear f0 f1 f2 f3 f4 f5 f6 f7 f8 f9 q0 q1
  go_wp2
  go_loopw [6, 25] (fun lv iv wr => ∃ t A' n' c', iv = .int .i64 ((t : Nat) : Int) ∧ t ≤ 8 ∧ lv = .slice A' n' c' ∧ StR w6 N (stg num den size step kind p cep es diff ctr xs t) t A' n' c' wr) (fun _ iv _ => 8 - (intOf iv).toNat)
  case atStart => exact ⟨0, _, _, _, rfl, by omega, rfl, ⟨hR0.z, fun _ => hR0, fun _ => rfl, fun hh => absurd hh (by omega), Below.refl _ _⟩⟩
  case round =>
    obtain ⟨t, A', n', c', rfl, ht, rfl, hQ⟩ := hrel
    clear hR0
    have hlt := hQ.bel
    have hBk := hS.blk.below hlt
    have hsz6 := hlt.size
    rcases (show t = 0 ∨ t = 1 ∨ t = 2 ∨ t = 3 ∨ t = 4 ∨ t = 5 ∨ t = 6 ∨ t = 7 ∨ t = 8 by omega) with rfl | rfl | rfl | rfl | rfl | rfl | rfl | rfl | rfl
    · have f0 : wr.cell? ⟨gs, 0, none⟩ = some (.bool true) := hBk.cell 0
      have f1 : wr.cell? ⟨gs, 1, none⟩ = some (.func (.func 166) #[] #[.pointer (some ⟨g1, 0, none⟩)]) := hBk.cell 1
      have hba := (Below.refl wr.heap.size wr).alloc (Nat.le_refl _) (.cells #[.bool true, .func (.func 166) #[] #[.pointer (some ⟨g1, 0, none⟩)]] 93)
      have hbz := hlt.trans (hba.mono hlt.size)
      have hZ := hQ.z.below hba
      have he7 := he6.below hbz
      have hT7 : Tab (wr.alloc (.cells #[.bool true, .func (.func 166) #[] #[.pointer (some ⟨g1, 0, none⟩)]] 93)) := Tab.below hT6 hbz
      have kk := cell_bel (cell_bel hS.k1 hlt) hba
      have hn9 : n' ≤ 10000 := by have := hQ.one (by decide); omega
      clear f0 f1
      have f0 : wr.cell? ⟨gs, 0, none⟩ = some (.bool true) := hBk.cell 0
      have f1 : wr.cell? ⟨gs, 1, none⟩ = some (.func (.func 166) #[] #[.pointer (some ⟨g1, 0, none⟩)]) := hBk.cell 1
      go_wp2_with fail
      refine (eachZ_any 121 _ ⟨g1, 0, none⟩ A' n' c' (stg num den size step kind p cep es diff ctr xs 0) (fun x => emF x num den) _ hZ hn9 kk (fun _ _ => rfl) (fun x hx2 B L C W hbW hs => by
        obtain rfl : x = xs := List.mem_singleton.1 hx2
        exact emphasize_row num den size step kind (p : Int) cep _ diff ctr B L C x W hs ⟨_, _, _, rfl⟩ hd1 hd2 hn1 hn2 hx.out (by rw [hl.out]; omega)) (fun x hx2 => by
        obtain rfl : x = xs := List.mem_singleton.1 hx2
        show (emF x num den).length ≤ _
        rw [em_len, hl.out]; omega)).mono ?_
      rintro e w7 ⟨A7, c7, rfl, hR7, hb7⟩
      have hbn := hbz.trans (hb7.mono hbz.size)
      go_wp2
      go_roundw
      case rel => exact ⟨1, _, _, _, rfl, by omega, rfl, ⟨hR7.z, fun _ => hR7, fun _ => hQ.one (by decide), fun hh => absurd hh (by decide), hbn⟩⟩
      case measure => simp [intOf]
    · have f0 : wr.cell? ⟨gs, 2, none⟩ = some (.bool true) := hBk.cell 2
      have f1 : wr.cell? ⟨gs, 3, none⟩ = some (.func (.func 122) #[(rcV num den size step kind (p : Int) (.slice Ae m ce) cep diff ctr)] #[]) := hBk.cell 3
      have hba := (Below.refl wr.heap.size wr).alloc (Nat.le_refl _) (.cells #[.bool true, .func (.func 122) #[(rcV num den size step kind (p : Int) (.slice Ae m ce) cep diff ctr)] #[]] 93)
      have hbz := hlt.trans (hba.mono hlt.size)
      have hZ := hQ.z.below hba
      have he7 := he6.below hbz
      have hT7 : Tab (wr.alloc (.cells #[.bool true, .func (.func 122) #[(rcV num den size step kind (p : Int) (.slice Ae m ce) cep diff ctr)] #[]] 93)) := Tab.below hT6 hbz
      have hR1 := (hQ.r (by decide)).below hba
      have hn1' := hQ.one (by decide)
      subst hn1'
      obtain ⟨ad, B, L, C, x, rfl, hcx, hx2, hSx, hB0, hL0⟩ := hR1.at_ (i := 0) (by decide)
      have hx3 : x = emF xs num den := by have := hx2.out; simpa [stg] using this.symm
      have hLx := hSx.len
      subst hx3
      have hcx : (wr.alloc (.cells #[.bool true, .func (.func 122) #[(rcV num den size step kind (p : Int) (.slice Ae m ce) cep diff ctr)] #[]] 93)).cell? ad = some (.slice B L C) := hcx
      have hcc := Lib.hid (show (if frC (emF xs num den) size step false = 0 then fcount L size.toNat step.toNat false else 0) = N by rw [if_pos hfr.out.1, ← hLx]; exact hN.out)
      have hLx := Lib.hid hLx
      go_wp2_with fail
      refine (cut_any num den size step kind (p : Int) cep _ diff ctr ad 1 _ B L C _ _ hSx ⟨_, _, _, rfl⟩ (by decide) hcx N hcc.out).mono ?_
      rintro e w7 (⟨hbad, _⟩ | ⟨_, A7, c7, B7, L7, C7, rfl, hs7, hb7⟩)
      · omega
      rw [hfr.out.1]
      have hZ7 : RrZ w7 A7 N c7 (stg num den size step kind p cep es diff ctr xs 2) := by
        have := RrZ.of_rs hs7
        show RrZ w7 A7 N c7 (frF (emF xs num den) size step)
        unfold frF
        rw [hN.out]
        exact this
      have hbn := hbz.trans (hb7.mono hbz.size)
      go_wp2
      go_roundw
      case rel => exact ⟨2, _, _, _, rfl, by omega, rfl, ⟨hZ7, fun hh => absurd rfl hh, fun hh => absurd hh (by decide), fun _ => rfl, hbn⟩⟩
      case measure => simp [intOf]
    · have f0 : wr.cell? ⟨gs, 4, none⟩ = some (.bool true) := hBk.cell 4
      have f1 : wr.cell? ⟨gs, 5, none⟩ = some (.func (.func 166) #[] #[.pointer (some ⟨g3, 0, none⟩)]) := hBk.cell 5
      have hba := (Below.refl wr.heap.size wr).alloc (Nat.le_refl _) (.cells #[.bool true, .func (.func 166) #[] #[.pointer (some ⟨g3, 0, none⟩)]] 93)
      have hbz := hlt.trans (hba.mono hlt.size)
      have hZ := hQ.z.below hba
      have he7 := he6.below hbz
      have hT7 : Tab (wr.alloc (.cells #[.bool true, .func (.func 166) #[] #[.pointer (some ⟨g3, 0, none⟩)]] 93)) := Tab.below hT6 hbz
      have kk := cell_bel (cell_bel hS.k3 hlt) hba
      have hn9 : n' ≤ 10000 := by have := hQ.many (by decide); omega
      clear f0 f1
      have f0 : wr.cell? ⟨gs, 4, none⟩ = some (.bool true) := hBk.cell 4
      have f1 : wr.cell? ⟨gs, 5, none⟩ = some (.func (.func 166) #[] #[.pointer (some ⟨g3, 0, none⟩)]) := hBk.cell 5
      go_wp2_with fail
      refine (eachZ_any 123 _ ⟨g3, 0, none⟩ A' n' c' (stg num den size step kind p cep es diff ctr xs 2) (fun x => wgL x kind) _ hZ hn9 kk (fun _ _ => rfl) (fun x hx2 B L C W hbW hs => by
        have hr := hrow.out x hx2
        have hw := wg_ok hk1 hk2 (by omega) (by omega) hr.2
        exact (weigh_any num den size step kind (p : Int) cep _ diff ctr B L C x W hs ⟨_, _, _, rfl⟩).mono fun e w' h2 => RetRow.of_L2 h2 hw.1 (by rw [hw.2.1]; omega)) (fun x hx2 => by
        have hr := hrow.out x hx2
        have hw := wg_ok hk1 hk2 (by omega) (by omega) hr.2
        show (wgL x kind).length ≤ _
        rw [hw.2.1]; omega)).mono ?_
      rintro e w7 ⟨A7, c7, rfl, hR7, hb7⟩
      have hbn := hbz.trans (hb7.mono hbz.size)
      go_wp2
      go_roundw
      case rel => exact ⟨3, _, _, _, rfl, by omega, rfl, ⟨hR7.z, fun _ => hR7, fun hh => absurd hh (by decide), fun _ => hQ.many (by decide), hbn⟩⟩
      case measure => simp [intOf]
    · have f0 : wr.cell? ⟨gs, 6, none⟩ = some (.bool true) := hBk.cell 6
      have f1 : wr.cell? ⟨gs, 7, none⟩ = some (.func (.func 166) #[] #[.pointer (some ⟨g4, 0, none⟩)]) := hBk.cell 7
      have hba := (Below.refl wr.heap.size wr).alloc (Nat.le_refl _) (.cells #[.bool true, .func (.func 166) #[] #[.pointer (some ⟨g4, 0, none⟩)]] 93)
      have hbz := hlt.trans (hba.mono hlt.size)
      have hZ := hQ.z.below hba
      have he7 := he6.below hbz
      have hT7 : Tab (wr.alloc (.cells #[.bool true, .func (.func 166) #[] #[.pointer (some ⟨g4, 0, none⟩)]] 93)) := Tab.below hT6 hbz
      have kk := cell_bel (cell_bel hS.k4 hlt) hba
      have hn9 : n' ≤ 10000 := by have := hQ.many (by decide); omega
      clear f0 f1
      have f0 : wr.cell? ⟨gs, 6, none⟩ = some (.bool true) := hBk.cell 6
      have f1 : wr.cell? ⟨gs, 7, none⟩ = some (.func (.func 166) #[] #[.pointer (some ⟨g4, 0, none⟩)]) := hBk.cell 7
      go_wp2_with fail
      refine (eachZ_any 124 _ ⟨g4, 0, none⟩ A' n' c' (stg num den size step kind p cep es diff ctr xs 3) (anF p) _ hZ hn9 kk (fun _ _ => rfl) (fun x hx2 B L C W hbW hs => by
        obtain ⟨y, hy, rfl⟩ := List.mem_map.1 hx2
        have hr := hrow.out y hy
        have hw := wg_ok hk1 hk2 (by omega) (by omega) hr.2
        have hLl := hs.len
        have ha := an_ok hp.out (x := wgL y kind) (by omega) hw.2.2.1
        refine (analyze_any num den size step kind cep p _ diff ctr B L C _ W hs ⟨_, _, _, rfl⟩ (hT7.below hbW) (by omega) (by omega) hp64).mono fun e w' h2 => ?_
        rw [← hLl] at h2
        rcases h2 with ⟨_, h2⟩ | ⟨h2, _⟩
        · exact RetRow.of_M h2 (an_bd hp64 (x := wgL y kind) (by omega) hw.2.2.1).1 (by omega)
        · rw [ha.1] at h2; cases h2) (fun x hx2 => by
        obtain ⟨y, hy, rfl⟩ := List.mem_map.1 hx2
        have hr := hrow.out y hy
        have hw := wg_ok hk1 hk2 (by omega) (by omega) hr.2
        have := (an_bd hp64 (x := wgL y kind) (by omega) hw.2.2.1).1
        omega)).mono ?_
      rintro e w7 ⟨A7, c7, rfl, hR7, hb7⟩
      have hbn := hbz.trans (hb7.mono hbz.size)
      go_wp2
      go_roundw
      case rel => exact ⟨4, _, _, _, rfl, by omega, rfl, ⟨hR7.z, fun _ => hR7, fun hh => absurd hh (by decide), fun _ => hQ.many (by decide), hbn⟩⟩
      case measure => simp [intOf]
    · have f0 : wr.cell? ⟨gs, 8, none⟩ = some (.bool true) := hBk.cell 8
      have f1 : wr.cell? ⟨gs, 9, none⟩ = some (.func (.func 166) #[] #[.pointer (some ⟨g5, 0, none⟩)]) := hBk.cell 9
      have hba := (Below.refl wr.heap.size wr).alloc (Nat.le_refl _) (.cells #[.bool true, .func (.func 166) #[] #[.pointer (some ⟨g5, 0, none⟩)]] 93)
      have hbz := hlt.trans (hba.mono hlt.size)
      have hZ := hQ.z.below hba
      have he7 := he6.below hbz
      have hT7 : Tab (wr.alloc (.cells #[.bool true, .func (.func 166) #[] #[.pointer (some ⟨g5, 0, none⟩)]] 93)) := Tab.below hT6 hbz
      have kk := cell_bel (cell_bel hS.k5 hlt) hba
      have hn9 : n' ≤ 10000 := by have := hQ.many (by decide); omega
      clear f0 f1
      have f0 : wr.cell? ⟨gs, 8, none⟩ = some (.bool true) := hBk.cell 8
      have f1 : wr.cell? ⟨gs, 9, none⟩ = some (.func (.func 166) #[] #[.pointer (some ⟨g5, 0, none⟩)]) := hBk.cell 9
      go_wp2_with fail
      refine (eachZ_any 125 _ ⟨g5, 0, none⟩ A' n' c' (stg num den size step kind p cep es diff ctr xs 4) (meF es) _ hZ hn9 kk (fun _ _ => rfl) (fun x hx2 B L C W hbW hs => by
        obtain ⟨z, hz, rfl⟩ := List.mem_map.1 hx2
        obtain ⟨y, hy, rfl⟩ := List.mem_map.1 hz
        have hr := hrow.out y hy
        have hw := wg_ok hk1 hk2 (by omega) (by omega) hr.2
        have ha := an_bd hp64 (x := wgL y kind) (by omega) hw.2.2.1
        have hPb := me_P hp64 hE.out ha.1 ha.2
        have hmm := hle.out
        have h33' := h33
        have hE2 := hE.out.1
        refine (measure_any num den size step kind (p : Int) cep diff ctr Ae m ce es B L C _ W hs (he7.below hbW) (by omega) hPb (fun i hi => bn_bd hPb i (by omega))).mono fun e w' h2 => ?_
        have h3 : RetM W (m - 1) (meF es (anF p (wgL y kind))) e w' := by unfold meF; rw [hmm]; exact h2
        exact RetRow.of_M h3 (by rw [(me_ok hPb).1, hmm]) (by omega)) (fun x hx2 => by
        obtain ⟨z, hz, rfl⟩ := List.mem_map.1 hx2
        obtain ⟨y, hy, rfl⟩ := List.mem_map.1 hz
        have hr := hrow.out y hy
        have hw := wg_ok hk1 hk2 (by omega) (by omega) hr.2
        have ha := an_bd hp64 (x := wgL y kind) (by omega) hw.2.2.1
        have hPb := me_P hp64 hE.out ha.1 ha.2
        have := (me_ok hPb).1
        omega)).mono ?_
      rintro e w7 ⟨A7, c7, rfl, hR7, hb7⟩
      have hbn := hbz.trans (hb7.mono hbz.size)
      go_wp2
      go_roundw
      case rel => exact ⟨5, _, _, _, rfl, by omega, rfl, ⟨hR7.z, fun _ => hR7, fun hh => absurd hh (by decide), fun _ => hQ.many (by decide), hbn⟩⟩
      case measure => simp [intOf]
    · cases cb with
      | false =>
        have f0 : wr.cell? ⟨gs, 10, none⟩ = some (.bool false) := hBk.cell 10
        have f1 : wr.cell? ⟨gs, 11, none⟩ = some (.func (.func 166) #[] #[.pointer (some ⟨g6, 0, none⟩)]) := hBk.cell 11
        have hba := (Below.refl wr.heap.size wr).alloc (Nat.le_refl _) (.cells #[.bool false, .func (.func 166) #[] #[.pointer (some ⟨g6, 0, none⟩)]] 93)
        have hbz := hlt.trans (hba.mono hlt.size)
        have hZ := hQ.z.below hba
        have hR7 := (hQ.r (by decide)).below hba
        obtain rfl : cep = 0 := by have := hcb.out; simpa using this
        rw [← stg6_no] at hR7
        go_wp2
        go_roundw
        case rel => exact ⟨6, _, _, _, rfl, by omega, rfl, ⟨hR7.z, fun _ => hR7, fun hh => absurd hh (by decide), fun _ => hQ.many (by decide), hbz⟩⟩
        case measure => simp [intOf]
      | true =>
        have hc0 : cep ≠ 0 := by have := hcb.out; simpa using this
        have f0 : wr.cell? ⟨gs, 10, none⟩ = some (.bool true) := hBk.cell 10
        have f1 : wr.cell? ⟨gs, 11, none⟩ = some (.func (.func 166) #[] #[.pointer (some ⟨g6, 0, none⟩)]) := hBk.cell 11
        have hba := (Below.refl wr.heap.size wr).alloc (Nat.le_refl _) (.cells #[.bool true, .func (.func 166) #[] #[.pointer (some ⟨g6, 0, none⟩)]] 93)
        have hbz := hlt.trans (hba.mono hlt.size)
        have hZ := hQ.z.below hba
        have he7 := he6.below hbz
        have hT7 : Tab (wr.alloc (.cells #[.bool true, .func (.func 166) #[] #[.pointer (some ⟨g6, 0, none⟩)]] 93)) := Tab.below hT6 hbz
        have kk := cell_bel (cell_bel hS.k6 hlt) hba
        have hn9 : n' ≤ 10000 := by have := hQ.many (by decide); omega
        clear f0 f1
        have f0 : wr.cell? ⟨gs, 10, none⟩ = some (.bool true) := hBk.cell 10
        have f1 : wr.cell? ⟨gs, 11, none⟩ = some (.func (.func 166) #[] #[.pointer (some ⟨g6, 0, none⟩)]) := hBk.cell 11
        go_wp2_with fail
        refine (eachZ_any 126 _ ⟨g6, 0, none⟩ A' n' c' (stg num den size step kind p cep es diff ctr xs 5) (fun x => cpL x cep) _ hZ hn9 kk (fun _ _ => rfl) (fun x hx2 B L C W hbW hs => by
          obtain ⟨v, hv9, rfl⟩ := List.mem_map.1 hx2
          obtain ⟨z, hz, rfl⟩ := List.mem_map.1 hv9
          obtain ⟨y, hy, rfl⟩ := List.mem_map.1 hz
          have hr := hrow.out y hy
          have hw := wg_ok hk1 hk2 (by omega) (by omega) hr.2
          have ha := an_bd hp64 (x := wgL y kind) (by omega) hw.2.2.1
          have hPb := me_P hp64 hE.out ha.1 ha.2
          have hmo := me_ok hPb
          have hc2 := hR.out.2.2.2.2.2.2.2.2.2
          have hE2 := hE.out.1
          have hco := cp_ok (x := meF es (anF p (wgL y kind))) (cep := cep) (by rw [hmo.1]; omega) (by rw [hmo.1]; omega) (by omega) (by rw [hmo.1]; exact hc2) hmo.2
          refine (shorten_any num den size step kind (p : Int) cep _ diff ctr B L C _ W hs ⟨_, _, _, rfl⟩ (hT7.below hbW)).mono fun e w' h2 => ?_
          rcases h2 with ⟨_, h2⟩ | ⟨h2, _⟩
          · exact RetRow.of_S h2 (by omega)
          · rw [hco.1] at h2; cases h2) (fun x hx2 => by
          obtain ⟨v, hv9, rfl⟩ := List.mem_map.1 hx2
          obtain ⟨z, hz, rfl⟩ := List.mem_map.1 hv9
          obtain ⟨y, hy, rfl⟩ := List.mem_map.1 hz
          have hr := hrow.out y hy
          have hw := wg_ok hk1 hk2 (by omega) (by omega) hr.2
          have ha := an_bd hp64 (x := wgL y kind) (by omega) hw.2.2.1
          have hPb := me_P hp64 hE.out ha.1 ha.2
          have hmo := me_ok hPb
          have hc2 := hR.out.2.2.2.2.2.2.2.2.2
          have hE2 := hE.out.1
          have hco := cp_ok (x := meF es (anF p (wgL y kind))) (cep := cep) (by rw [hmo.1]; omega) (by rw [hmo.1]; omega) (by omega) (by rw [hmo.1]; exact hc2) hmo.2
          show (cpL _ cep).length ≤ _
          rw [hco.2.1]; omega)).mono ?_
        rintro e w7 ⟨A7, c7, rfl, hR7, hb7⟩
        rw [← stg6_yes _ _ _ _ _ _ _ hc0] at hR7
        have hbn := hbz.trans (hb7.mono hbz.size)
        go_wp2
        go_roundw
        case rel => exact ⟨6, _, _, _, rfl, by omega, rfl, ⟨hR7.z, fun _ => hR7, fun hh => absurd hh (by decide), fun _ => hQ.many (by decide), hbn⟩⟩
        case measure => simp [intOf]
    · cases diff with
      | false =>
        have f0 : wr.cell? ⟨gs, 12, none⟩ = some (.bool false) := hBk.cell 12
        have f1 : wr.cell? ⟨gs, 13, none⟩ = some (.func (.func 45) #[] #[]) := hBk.cell 13
        have hba := (Below.refl wr.heap.size wr).alloc (Nat.le_refl _) (.cells #[.bool false, .func (.func 45) #[] #[]] 93)
        have hbz := hlt.trans (hba.mono hlt.size)
        have hZ := hQ.z.below hba
        have hR7 := (hQ.r (by decide)).below hba
        go_wp2
        go_roundw
        case rel => exact ⟨7, _, _, _, rfl, by omega, rfl, ⟨hR7.z, fun _ => hR7, fun hh => absurd hh (by decide), fun _ => hQ.many (by decide), hbz⟩⟩
        case measure => simp [intOf]
      | true =>
        have f0 : wr.cell? ⟨gs, 12, none⟩ = some (.bool true) := hBk.cell 12
        have f1 : wr.cell? ⟨gs, 13, none⟩ = some (.func (.func 45) #[] #[]) := hBk.cell 13
        have hba := (Below.refl wr.heap.size wr).alloc (Nat.le_refl _) (.cells #[.bool true, .func (.func 45) #[] #[]] 93)
        have hbz := hlt.trans (hba.mono hlt.size)
        have hZ := hQ.z.below hba
        have he7 := he6.below hbz
        have hT7 : Tab (wr.alloc (.cells #[.bool true, .func (.func 45) #[] #[]] 93)) := Tab.below hT6 hbz
        have hV : VecM (ftN es cep) 128000 (stg num den size step kind p cep es true ctr xs 6) := by
          intro u hu
          obtain ⟨y, hy, rfl⟩ := List.mem_map.1 hu
          have hr := hrow.out y hy
          exact ft_ok hk1 hk2 (s := size.toNat) (by omega) (by omega) hp.out hE.out h33 hc1 hR.out.2.2.2.2.2.2.2.2.2 hr.1 hr.2
        have hfn := ftN_bd hE.out h33 hc1 hR.out.2.2.2.2.2.2.2.2.2
        have hnN := hQ.many (by decide)
        have hlen := hQ.z.1
        have h0 := chk1_mk hV (by decide) hfn.1 (by omega) (by rw [hlen]; omega)
        have hD2 := dif_vec hV (by decide)
        have h1 := chk1_mk hD2 (by decide) (by omega) (by omega) (by rw [dif_len, hlen]; omega)
        have hdc : difC (stg num den size step kind p cep es true ctr xs 6) = 0 := by unfold difC; rw [if_pos h0, if_pos h1]
        have hRx := (hQ.r (by decide)).below hba
        have hdc := Lib.hid hdc
        clear h0 h1 hnN hlen
        go_wp2_with fail
        refine (Differences_any A' n' c' _ _ hRx).mono ?_
        rintro e w7 (⟨_, A7, c7, rfl, hR7, hb7⟩ | ⟨hbad, _⟩)
        case inr => exact absurd hdc.out hbad
        have hbn := hbz.trans (hb7.mono hbz.size)
        go_wp2
        go_roundw
        case rel => exact ⟨7, _, _, _, rfl, by omega, rfl, ⟨hR7.z, fun _ => hR7, fun hh => absurd hh (by decide), fun _ => hQ.many (by decide), hbn⟩⟩
        case measure => simp [intOf]
    · cases ctr with
      | false =>
        have f0 : wr.cell? ⟨gs, 14, none⟩ = some (.bool false) := hBk.cell 14
        have f1 : wr.cell? ⟨gs, 15, none⟩ = some (.func (.func 127) #[] #[]) := hBk.cell 15
        have hba := (Below.refl wr.heap.size wr).alloc (Nat.le_refl _) (.cells #[.bool false, .func (.func 127) #[] #[]] 93)
        have hbz := hlt.trans (hba.mono hlt.size)
        have hZ := hQ.z.below hba
        have hR7 := (hQ.r (by decide)).below hba
        go_wp2
        go_roundw
        case rel => exact ⟨8, _, _, _, rfl, by omega, rfl, ⟨hR7.z, fun _ => hR7, fun hh => absurd hh (by decide), fun _ => hQ.many (by decide), hbz⟩⟩
        case measure => simp [intOf]
      | true =>
        have f0 : wr.cell? ⟨gs, 14, none⟩ = some (.bool true) := hBk.cell 14
        have f1 : wr.cell? ⟨gs, 15, none⟩ = some (.func (.func 127) #[] #[]) := hBk.cell 15
        have hba := (Below.refl wr.heap.size wr).alloc (Nat.le_refl _) (.cells #[.bool true, .func (.func 127) #[] #[]] 93)
        have hbz := hlt.trans (hba.mono hlt.size)
        have hZ := hQ.z.below hba
        have he7 := he6.below hbz
        have hT7 : Tab (wr.alloc (.cells #[.bool true, .func (.func 127) #[] #[]] 93)) := Tab.below hT6 hbz
        have hV : VecM (ftN es cep) 128000 (stg num den size step kind p cep es diff true xs 6) := by
          intro u hu
          obtain ⟨y, hy, rfl⟩ := List.mem_map.1 hu
          have hr := hrow.out y hy
          exact ft_ok hk1 hk2 (s := size.toNat) (by omega) (by omega) hp.out hE.out h33 hc1 hR.out.2.2.2.2.2.2.2.2.2 hr.1 hr.2
        have hfn := ftN_bd hE.out h33 hc1 hR.out.2.2.2.2.2.2.2.2.2
        have hnN := hQ.many (by decide)
        have hlen := hQ.z.1
        obtain ⟨M7, m7, hV7, hM7, hm7, hm72⟩ : ∃ M m7, VecM m7 M (stg num den size step kind p cep es diff true xs 7) ∧ (0 ≤ M ∧ M ≤ 256000) ∧ 1 ≤ m7 ∧ m7 ≤ 64 := by
          cases diff with
          | false => exact ⟨128000, _, hV, by decide, hfn.1, by omega⟩
          | true => exact ⟨256000, _, dif_vec hV (by decide), by decide, by omega, by omega⟩
        have h0 := chk1_mk hV7 (by omega) hm7 hm72 (by rw [hlen]; omega)
        have hD2 := cen_vec hV7 hM7.1
        have h1 := chk1_mk hD2 (by omega) hm7 hm72 (by rw [cen_len, hlen]; omega)
        have hdc : cenC (stg num den size step kind p cep es diff true xs 7) = 0 := by unfold cenC; rw [if_pos h0, if_pos h1]
        have hRx := (hQ.r (by decide)).below hba
        have hdc := Lib.hid hdc
        clear h0 h1 hnN hlen
        go_wp2_with fail
        refine (Center_any A' n' c' _ _ hRx).mono ?_
        rintro e w7 (⟨_, A7, c7, rfl, hR7, hb7⟩ | ⟨hbad, _⟩)
        case inr => exact absurd hdc.out hbad
        have hbn := hbz.trans (hb7.mono hbz.size)
        go_wp2
        go_roundw
        case rel => exact ⟨8, _, _, _, rfl, by omega, rfl, ⟨hR7.z, fun _ => hR7, fun hh => absurd hh (by decide), fun _ => hQ.many (by decide), hbn⟩⟩
        case measure => simp [intOf]
    · have hRf := hQ.r (by decide)
      have hnf := hQ.z.1
      have hbf := hb06.trans (hQ.bel.mono (by have := hb06.size; omega))
      go_wp2
      go_ret2
      exact ⟨_, _, by first | rfl | rw [← hnf]; rfl, by rw [show (featL num den size step kind p cep es diff ctr xs).length = n' from hnf]; exact hRf, hbf⟩
end Go.Proofs.YtoljffghaklpdaaGreatDoor


/- A recording or a recipe that is none has no features. -/
namespace Go.Proofs.YtoljffghaklpdaaGreatDoor
open Go.RowKit

set_option linter.unusedSimpArgs false
set_option maxHeartbeats 4000000 in
set_option maxRecDepth 100000 in
theorem Extract_bad (rate num den size step kind points cep : Int) (diff ctr : Bool) (A : Option Addr) (n c : Nat) (xs : List Int) (Ae : Option Addr) (m ce : Nat) (es : List Int) (w : World)
    (h : Sl .i64 w A n c xs) (he : Sl .i64 w Ae m ce es) (lb : Bool) (hlb : ∀ w0 : World, Calls Tryz.prog 52 #[.int .i64 points] w0 fun e w' => e = .returned (.bool lb) ∧ w0 = w') (hlp : lb = true ↔ (0 ≤ points ∧ lenB points.toNat = true))
    (hbad : chkR rate xs ≠ 0 ∨ ¬ RcP num den size step kind points cep es) :
    Calls Tryz.prog 13 #[.agg #[.int .i64 rate, .slice A n c], (rcV num den size step kind points (.slice Ae m ce) cep diff ctr)] w (RetN w 2) := by
  have hb0 := ((Below.refl w.heap.size w).alloc (Nat.le_refl _) (.cells #[.int .i64 rate, .slice A n c] 30)).alloc (by simp) (.cells #[.int .i64 num, .int .i64 den, .int .i64 size, .int .i64 step, .int .i64 kind, .int .i64 points, .slice Ae m ce, .int .i64 cep, .bool diff, .bool ctr] 33)
  have hsz : ((w.alloc (.cells #[.int .i64 rate, .slice A n c] 30)).alloc (.cells #[.int .i64 num, .int .i64 den, .int .i64 size, .int .i64 step, .int .i64 kind, .int .i64 points, .slice Ae m ce, .int .i64 cep, .bool diff, .bool ctr] 33)).heap.size = w.heap.size + 2 := by simp
  have q0 : ((w.alloc (.cells #[.int .i64 rate, .slice A n c] 30)).alloc (.cells #[.int .i64 num, .int .i64 den, .int .i64 size, .int .i64 step, .int .i64 kind, .int .i64 points, .slice Ae m ce, .int .i64 cep, .bool diff, .bool ctr] 33)).cell? ⟨w.heap.size, 0, none⟩ = some (.int .i64 rate) := by simp
  have q1 : ((w.alloc (.cells #[.int .i64 rate, .slice A n c] 30)).alloc (.cells #[.int .i64 num, .int .i64 den, .int .i64 size, .int .i64 step, .int .i64 kind, .int .i64 points, .slice Ae m ce, .int .i64 cep, .bool diff, .bool ctr] 33)).cell? ⟨w.heap.size, 1, none⟩ = some (.slice A n c) := by simp
  have f0 : ((w.alloc (.cells #[.int .i64 rate, .slice A n c] 30)).alloc (.cells #[.int .i64 num, .int .i64 den, .int .i64 size, .int .i64 step, .int .i64 kind, .int .i64 points, .slice Ae m ce, .int .i64 cep, .bool diff, .bool ctr] 33)).cell? ⟨w.heap.size + 1, 0, none⟩ = some (.int .i64 num) := by simp
  have f1 : ((w.alloc (.cells #[.int .i64 rate, .slice A n c] 30)).alloc (.cells #[.int .i64 num, .int .i64 den, .int .i64 size, .int .i64 step, .int .i64 kind, .int .i64 points, .slice Ae m ce, .int .i64 cep, .bool diff, .bool ctr] 33)).cell? ⟨w.heap.size + 1, 1, none⟩ = some (.int .i64 den) := by simp
  have f2 : ((w.alloc (.cells #[.int .i64 rate, .slice A n c] 30)).alloc (.cells #[.int .i64 num, .int .i64 den, .int .i64 size, .int .i64 step, .int .i64 kind, .int .i64 points, .slice Ae m ce, .int .i64 cep, .bool diff, .bool ctr] 33)).cell? ⟨w.heap.size + 1, 2, none⟩ = some (.int .i64 size) := by simp
  have f3 : ((w.alloc (.cells #[.int .i64 rate, .slice A n c] 30)).alloc (.cells #[.int .i64 num, .int .i64 den, .int .i64 size, .int .i64 step, .int .i64 kind, .int .i64 points, .slice Ae m ce, .int .i64 cep, .bool diff, .bool ctr] 33)).cell? ⟨w.heap.size + 1, 3, none⟩ = some (.int .i64 step) := by simp
  have f4 : ((w.alloc (.cells #[.int .i64 rate, .slice A n c] 30)).alloc (.cells #[.int .i64 num, .int .i64 den, .int .i64 size, .int .i64 step, .int .i64 kind, .int .i64 points, .slice Ae m ce, .int .i64 cep, .bool diff, .bool ctr] 33)).cell? ⟨w.heap.size + 1, 4, none⟩ = some (.int .i64 kind) := by simp
  have f5 : ((w.alloc (.cells #[.int .i64 rate, .slice A n c] 30)).alloc (.cells #[.int .i64 num, .int .i64 den, .int .i64 size, .int .i64 step, .int .i64 kind, .int .i64 points, .slice Ae m ce, .int .i64 cep, .bool diff, .bool ctr] 33)).cell? ⟨w.heap.size + 1, 5, none⟩ = some (.int .i64 points) := by simp
  have f6 : ((w.alloc (.cells #[.int .i64 rate, .slice A n c] 30)).alloc (.cells #[.int .i64 num, .int .i64 den, .int .i64 size, .int .i64 step, .int .i64 kind, .int .i64 points, .slice Ae m ce, .int .i64 cep, .bool diff, .bool ctr] 33)).cell? ⟨w.heap.size + 1, 6, none⟩ = some (.slice Ae m ce) := by simp
  have f7 : ((w.alloc (.cells #[.int .i64 rate, .slice A n c] 30)).alloc (.cells #[.int .i64 num, .int .i64 den, .int .i64 size, .int .i64 step, .int .i64 kind, .int .i64 points, .slice Ae m ce, .int .i64 cep, .bool diff, .bool ctr] 33)).cell? ⟨w.heap.size + 1, 7, none⟩ = some (.int .i64 cep) := by simp
  have f8 : ((w.alloc (.cells #[.int .i64 rate, .slice A n c] 30)).alloc (.cells #[.int .i64 num, .int .i64 den, .int .i64 size, .int .i64 step, .int .i64 kind, .int .i64 points, .slice Ae m ce, .int .i64 cep, .bool diff, .bool ctr] 33)).cell? ⟨w.heap.size + 1, 8, none⟩ = some (.bool diff) := by simp
  have f9 : ((w.alloc (.cells #[.int .i64 rate, .slice A n c] 30)).alloc (.cells #[.int .i64 num, .int .i64 den, .int .i64 size, .int .i64 step, .int .i64 kind, .int .i64 points, .slice Ae m ce, .int .i64 cep, .bool diff, .bool ctr] 33)).cell? ⟨w.heap.size + 1, 9, none⟩ = some (.bool ctr) := by simp
  have h2 := h.below hb0
  have he2 := he.below hb0
  by_cases hv : chkR rate xs = 0
  · have hR : ¬ RcP num den size step kind points cep es := hbad.resolve_left (fun hh => hh hv)
    have hv := Lib.hid hv
    have hR := Lib.hid hR
    clear hbad
    have hlp := Lib.hid hlp
    unfold rcV
    go_enter Tryz.func13, Tryz.ntmps13
    go_wp2_with fail
    generalize ((w.alloc (.cells #[.int .i64 rate, .slice A n c] 30)).alloc (.cells #[.int .i64 num, .int .i64 den, .int .i64 size, .int .i64 step, .int .i64 kind, .int .i64 points, .slice Ae m ce, .int .i64 cep, .bool diff, .bool ctr] 33)) = w2 at *
    refine (wValid_any _ _ _ _ _ _ h2).mono ?_
    rintro e w3 ⟨rfl, hb3⟩
    rw [hv.out]
    have f0 := cell_bel f0 hb3
    have f1 := cell_bel f1 hb3
    have f2 := cell_bel f2 hb3
    have f3 := cell_bel f3 hb3
    have f4 := cell_bel f4 hb3
    have f5 := cell_bel f5 hb3
    have f6 := cell_bel f6 hb3
    have f7 := cell_bel f7 hb3
    have f8 := cell_bel f8 hb3
    have f9 := cell_bel f9 hb3
    have he3 := he2.below hb3
    have hb03 := hb0.trans (hb3.mono (by omega))
    go_wp2_with fail
    refine (FValid_any _ _ _ _ _ _ _ _ _ _ _ _ _ _ he3 lb hlb hlp.out).mono ?_
    rintro e w4 ⟨b, rfl, hb, hb4⟩
    obtain rfl : b = false := by cases b with | false => rfl | true => exact absurd (hb.1 rfl) hR.out
    clear hb
    have hb04 := hb03.trans (hb4.mono (by have := hb03.size; omega))
    go_wp2
    go_ret2
    exact ⟨rfl, hb04⟩
  · have hv2 : (chkR rate xs == 0) = false := beq_eq_false_iff_ne.2 hv
    have hv2 := Lib.hid hv2
    clear hbad hv
    have hlp := Lib.hid hlp
    unfold rcV
    go_enter Tryz.func13, Tryz.ntmps13
    go_wp2_with fail
    generalize ((w.alloc (.cells #[.int .i64 rate, .slice A n c] 30)).alloc (.cells #[.int .i64 num, .int .i64 den, .int .i64 size, .int .i64 step, .int .i64 kind, .int .i64 points, .slice Ae m ce, .int .i64 cep, .bool diff, .bool ctr] 33)) = w2 at *
    refine (wValid_any _ _ _ _ _ _ h2).mono ?_
    rintro e w3 ⟨rfl, hb3⟩
    rw [hv2.out]
    have hb03 := hb0.trans (hb3.mono (by omega))
    go_wp2
    go_ret2
    exact ⟨rfl, hb03⟩
end Go.Proofs.YtoljffghaklpdaaGreatDoor
