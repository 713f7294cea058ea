/- Which bytes are those of a recording: the law's walk. -/
import Derived.Test.YtobobbhifajhmaaBE
import Derived.Test.YtobobbhifajhmaaK3
import Derived.Test.YtobobbhifajhmaaR1
namespace Go.Proofs.Ytobobbhifajhmaa
open Go.ChangeShapes Go.WideShapes Go.ChangeAt Go.RowKit

theorem cells_byte : Try.prog.cellsOf 5 = 1 := by kernel_rfl
theorem wf_byte {b : Int} (h : (Lit.int .u8 b).wf = true) : 0 ≤ b ∧ b ≤ 255 := by
  simp [Lit.wf] at h
  rw [show IntKind.u8.min = 0 by rfl, show IntKind.u8.max = 255 by rfl] at h
  exact h
set_option maxRecDepth 100000 in
theorem open_slb {H : Type} {enc : TypeId × Value → H} {W : World} {b0 : Nat} {v : Value} {d : DataW H} {p : List MemPlace} (hv : Value.okWide Try.prog W .any b0 27 v)
    (h : DataW.Trod enc Try.prog W 0 (fun _ => true) true 27 v d p) : ∃ A n c xs, v = .slice A n c ∧ Sl .u8 W A n c xs ∧ byB xs := by
  obtain ⟨a0, len, cap, rfl⟩ := okWide_slice Try.underlying27 hv
  obtain ⟨fuel, hf⟩ := h
  rcases open_ints Try.underlying27 Try.underlying5 cells_byte hf with ⟨hcs, _⟩ | ⟨a, len', cap', zs, hcs, _, hl, hm, hz, _, hcell, hwf⟩
  · have e : Value.slice a0 len cap = .slice none 0 0 := by simpa [Value.cells] using hcs
    rw [e]
    exact ⟨none, 0, 0, [], rfl, Sl.nil _ _, fun b hb => by simp at hb⟩
  · have e : Value.slice a0 len cap = .slice (some a) len' cap' := by simpa [Value.cells] using hcs
    rw [e]
    rw [if_pos rfl] at hz
    refine ⟨some a, len', cap', zs.take len', rfl, ⟨by rw [List.length_take]; omega, hl, by simpa [maxLen] using hm, fun _ => ⟨a, rfl, fun j x hx => ?_⟩⟩, fun b hb => wf_byte (hwf b (List.mem_of_mem_take hb))⟩
    have hj := lt_of_some hx
    rw [List.length_take] at hj
    rw [List.getElem?_take, if_pos (by omega)] at hx
    rw [hcell j (by omega)]
    simp [List.getD_eq_getElem?_getD, hx]
end Go.Proofs.Ytobobbhifajhmaa
namespace Go.Proofs.Ytobobbhifajhmaa
open Go.RowKit

abbrev YesU (w : World) (e : Ending) (w' : World) : Prop := e = .returned (.bool true) ∧ Below w.heap.size w w'
theorem upC_cases {bs : List Int} (hn : bs.length ≤ 500000) : upC bs = 0 ∨ (upC bs = 4 ∧ upR bs = 0 ∧ upL bs = []) := by
  by_cases h : upC bs = 0
  · exact .inl h
  · have hC : upC bs = 4 := by
      unfold upC at h ⊢
      rw [if_neg (by omega)] at h ⊢
      split
      · rename_i h2; rw [if_pos h2] at h; exact absurd rfl h
      · rfl
    exact .inr ⟨hC, by unfold upR; rw [if_neg h], by unfold upL; rw [if_neg h]⟩

set_option maxHeartbeats 1600000 in
set_option maxRecDepth 100000 in
theorem un_skip (A : Option Addr) (n c : Nat) (w : World) (hn : (8000 < n ∧ n ≤ 500000) ∨ 600000 < n) :
    Calls Try.prog 4 #[.slice A n c] w (YesU w) := by
  rcases hn with ⟨h1, h2⟩ | h1
  · have d1 : decide (8000 < (n : Int)) = true := decide_eq_true (by omega)
    have d2 : decide ((n : Int) ≤ 500000) = true := decide_eq_true (by omega)
    go_enter Try.func4, Try.ntmps4
    go_wp2_with fail
    refine (known_any _).mono ?_
    rintro e w7 ⟨rfl, hb7⟩
    go_wp2
    go_ret
    exact ⟨rfl, hb7⟩
  · have d1 : decide (8000 < (n : Int)) = true := decide_eq_true (by omega)
    have d2 : decide ((n : Int) ≤ 500000) = false := decide_eq_false (by omega)
    have d3 : decide (600000 < (n : Int)) = true := decide_eq_true (by omega)
    go_enter Try.func4, Try.ntmps4
    go_wp2_with fail
    refine (known_any _).mono ?_
    rintro e w7 ⟨rfl, hb7⟩
    go_wp2
    go_ret
    exact ⟨rfl, hb7⟩

set_option maxHeartbeats 1600000 in
set_option maxRecDepth 100000 in
theorem un_long (A : Option Addr) (n c : Nat) (bs : List Int) (w : World) (h : Sl .u8 w A n c bs) (hb : byB bs) (h1 : 500000 < n) (h2 : n ≤ 600000) :
    Calls Try.prog 4 #[.slice A n c] w (YesU w) := by
  have d1 : decide (8000 < (n : Int)) = true := decide_eq_true (by omega)
  have d2 : decide ((n : Int) ≤ 500000) = false := decide_eq_false (by omega)
  have d3 : decide (600000 < (n : Int)) = false := decide_eq_false (by omega)
  have d4 : decide (500000 < (n : Int)) = true := decide_eq_true (by omega)
  have hC : upC bs = 5 := by unfold upC; rw [if_pos (by rw [h.len]; exact h1)]
  have hR : upR bs = 0 := by unfold upR; rw [if_neg (by rw [hC]; decide)]
  have hL : upL bs = [] := by unfold upL; rw [if_neg (by rw [hC]; decide)]
  have hU := Unpack_any A n c bs w h hb
  rw [hC, hR, hL] at hU
  have hU := Lib.hid hU
  clear hC hR hL
  go_enter Try.func4, Try.ntmps4
  go_wp2_with fail
  refine hU.out.mono ?_
  rintro e w1 ⟨A1, m1, c1, rfl, hS1, hb1⟩
  have hB2 := (Blk.new w1 24 #[.int .i64 0, .slice A1 m1 c1]).alloc (.cells #[.int .i64 0, .slice none 0 0] 24)
  have hC2 := Blk.new (w1.alloc (.cells #[.int .i64 0, .slice A1 m1 c1] 24)) 24 #[.int .i64 0, .slice none 0 0]
  rw [World.size_alloc] at hC2
  have q0 := hB2.cell 0
  have q1 : ((w1.alloc (.cells #[.int .i64 0, .slice A1 m1 c1] 24)).alloc (.cells #[.int .i64 0, .slice none 0 0] 24)).cell? ⟨w1.heap.size, 1, none⟩ = some (.slice A1 m1 c1) := hB2.cell 1
  have r0 := hC2.cell 0
  have r1 := hC2.cell 1
  have hS2 := (hS1.alloc (.cells #[.int .i64 0, .slice A1 m1 c1] 24)).alloc (.cells #[.int .i64 0, .slice none 0 0] 24)
  have hb2 := (hb1.alloc hb1.size (.cells #[.int .i64 0, .slice A1 m1 c1] 24)).alloc (by have := hb1.size; simp; omega) (.cells #[.int .i64 0, .slice none 0 0] 24)
  go_wp2_with fail
  refine (Same_any _ _ _ _ _ _ _ _ _ hS2 (Sl.nil _ _)).mono ?_
  rintro e w3 ⟨i3, he, rfl⟩
  rw [sameB_yes rfl] at he
  subst he
  have hb3 := bel_drewN hb2 i3
  generalize ((w1.alloc (.cells #[.int .i64 0, .slice A1 m1 c1] 24)).alloc (.cells #[.int .i64 0, .slice none 0 0] 24)).drewN i3 = w3 at *
  go_wp2_with fail
  refine (known_any _).mono ?_
  rintro e w7 ⟨rfl, hb7⟩
  go_wp2
  go_ret
  exact ⟨rfl, hb3.trans (hb7.mono hb3.size)⟩

set_option maxHeartbeats 1600000 in
set_option maxRecDepth 100000 in
theorem un_short (A : Option Addr) (n c : Nat) (bs : List Int) (w : World) (h : Sl .u8 w A n c bs) (hb : byB bs) (h1 : n ≤ 8000) :
    Calls Try.prog 4 #[.slice A n c] w (YesU w) := by
  have d1 : decide (8000 < (n : Int)) = false := decide_eq_false (by omega)
  have d3 : decide (600000 < (n : Int)) = false := decide_eq_false (by omega)
  have d4 : decide (500000 < (n : Int)) = false := decide_eq_false (by omega)
  have hU := Lib.hid (Unpack_any A n c bs w h hb)
  have hV := Lib.hid (fun (w9 : World) (h9 : Sl .u8 w9 A n c bs) => RUnpack_any A n c bs w9 h9 hb h1)
  have hcs := upC_cases (bs := bs) (by rw [h.len]; omega)
  obtain ⟨uc, huc⟩ : ∃ x, upC bs = x := ⟨_, rfl⟩
  obtain ⟨ur, hur⟩ : ∃ x, upR bs = x := ⟨_, rfl⟩
  obtain ⟨ul, hul⟩ : ∃ x, upL bs = x := ⟨_, rfl⟩
  rw [huc, hur, hul] at hU hcs
  rw [huc, hur, hul] at hV
  clear huc hur hul
  have hcs : uc = 0 ∨ uc = 4 := by rcases hcs with h | ⟨h, _⟩ <;> simp [h]
  rcases hcs with rfl | rfl
  all_goals
    go_enter Try.func4, Try.ntmps4
    go_wp2_with fail
    refine hU.out.mono ?_
    rintro e w1 ⟨A1, m1, c1, rfl, hS1, hb1⟩
    clear hU
    have hB2 := (Blk.new w1 24 #[.int .i64 ur, .slice A1 m1 c1]).alloc (.cells #[.int .i64 0, .slice none 0 0] 24)
    have hC2 := Blk.new (w1.alloc (.cells #[.int .i64 ur, .slice A1 m1 c1] 24)) 24 #[.int .i64 0, .slice none 0 0]
    rw [World.size_alloc] at hC2
    have hS2 := (hS1.alloc (.cells #[.int .i64 ur, .slice A1 m1 c1] 24)).alloc (.cells #[.int .i64 0, .slice none 0 0] 24)
    have hb2 := (hb1.alloc hb1.size (.cells #[.int .i64 ur, .slice A1 m1 c1] 24)).alloc (by have := hb1.size; simp; omega) (.cells #[.int .i64 0, .slice none 0 0] 24)
    have h2 := h.below hb2
    have hb12 := hb1.size
    go_wp2_with fail
    have hsz2 : w1.heap.size + 2 ≤ ((w1.alloc (.cells #[.int .i64 ur, .slice A1 m1 c1] 24)).alloc (.cells #[.int .i64 0, .slice none 0 0] 24)).heap.size := by simp
    generalize (w1.alloc (.cells #[.int .i64 ur, .slice A1 m1 c1] 24)).alloc (.cells #[.int .i64 0, .slice none 0 0] 24) = w2 at *
    refine (hV.out _ h2).mono ?_
    rintro e w3 ⟨A3, m3, c3, rfl, hS3, hb3, hfr3⟩
    clear hV h2
    have hC3 := hC2.below hb3
    have hB3 := hB2.below hb3
    have f0 := hC3.frozen 0
    have f1 := hC3.frozen 1
    have k0 := hC3.cell 0
    have k1 := hC3.cell 1
    have hfr1 : 0 < m1 → ∀ ad, A1 = some ad → ad.block ≠ w1.heap.size + 1 := hS1.ne_new (by omega)
    have hS13 := ((hS2.below hb3).farn hfr1 0 (.int .i64 ur)).farn hfr1 1 (.slice A3 m3 c3)
    have hB4 := (hB3.far (p := ⟨w1.heap.size + 1, 0, none⟩) (by simp) (.int .i64 ur)).far (p := ⟨w1.heap.size + 1, 1, none⟩) (by simp) (.slice A3 m3 c3)
    have hC4 := (hC3.set_ 0 (.int .i64 ur)).set_ 1 (.slice A3 m3 c3)
    have hfr3' : 0 < m3 → ∀ ad, A3 = some ad → ad.block ≠ w1.heap.size + 1 := fun hn ad he => by have := hfr3.out hn ad he; omega
    have hS34 := (hS3.farn hfr3' 0 (.int .i64 ur)).farn hfr3' 1 (.slice A3 m3 c3)
    have hb4 := ((hb2.trans (hb3.mono hb2.size)).setCell (p := ⟨w1.heap.size + 1, 0, none⟩) (by simp; omega) (.int .i64 ur)).setCell (p := ⟨w1.heap.size + 1, 1, none⟩) (by simp; omega) (.slice A3 m3 c3)
    have q0 : ((w3.setCell ⟨w1.heap.size + 1, 0, none⟩ (.int .i64 ur)).setCell ⟨w1.heap.size + 1, 1, none⟩ (.slice A3 m3 c3)).cell? ⟨w1.heap.size, 0, none⟩ = some (.int .i64 ur) := hB4.cell 0
    have q1 : ((w3.setCell ⟨w1.heap.size + 1, 0, none⟩ (.int .i64 ur)).setCell ⟨w1.heap.size + 1, 1, none⟩ (.slice A3 m3 c3)).cell? ⟨w1.heap.size, 1, none⟩ = some (.slice A1 m1 c1) := hB4.cell 1
    have r0 : ((w3.setCell ⟨w1.heap.size + 1, 0, none⟩ (.int .i64 ur)).setCell ⟨w1.heap.size + 1, 1, none⟩ (.slice A3 m3 c3)).cell? ⟨w1.heap.size + 1, 0, none⟩ = some (.int .i64 ur) := hC4.cell 0
    have r1 : ((w3.setCell ⟨w1.heap.size + 1, 0, none⟩ (.int .i64 ur)).setCell ⟨w1.heap.size + 1, 1, none⟩ (.slice A3 m3 c3)).cell? ⟨w1.heap.size + 1, 1, none⟩ = some (.slice A3 m3 c3) := hC4.cell 1
    clear hfr1 hfr3'
    go_wp2_with fail
    generalize (w3.setCell ⟨w1.heap.size + 1, 0, none⟩ (.int .i64 ur)).setCell ⟨w1.heap.size + 1, 1, none⟩ (.slice A3 m3 c3) = w4 at *
    refine (Same_any _ _ _ _ _ _ _ _ _ hS13 hS34).mono ?_
    rintro e w5 ⟨i5, he, rfl⟩
    rw [sameB_yes rfl] at he
    subst he
    have hb5 := bel_drewN hb4 i5
    generalize w4.drewN i5 = w5 at *
    go_wp2_with fail
    refine (known_any _).mono ?_
    rintro e w7 ⟨rfl, hb7⟩
    go_wp2
    go_ret
    exact ⟨rfl, hb5.trans (hb7.mono hb5.size)⟩

theorem unpacks_any (A : Option Addr) (n c : Nat) (bs : List Int) (w : World) (h : Sl .u8 w A n c bs) (hb : byB bs) :
    Calls Try.prog 4 #[.slice A n c] w (YesU w) := by
  by_cases h1 : (8000 < n ∧ n ≤ 500000) ∨ 600000 < n
  · exact un_skip A n c w h1
  · rcases Nat.lt_or_ge 8000 n with h2 | h2
    · exact un_long A n c bs w h hb (by omega) (by omega)
    · exact un_short A n c bs w h hb h2
end Go.Proofs.Ytobobbhifajhmaa
