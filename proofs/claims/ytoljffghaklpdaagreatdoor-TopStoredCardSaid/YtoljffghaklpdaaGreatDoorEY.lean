/- What is stored as bytes and read again has the same segments and features: the law's walk. -/
import Derived.Test.YtoljffghaklpdaaGreatDoorEV
import Derived.Test.YtoljffghaklpdaaGreatDoorEX
namespace Go.Proofs.YtoljffghaklpdaaGreatDoor
open Go.RowKit

/-- the cells of a gate that lies at g -/
structure GtC (w : World) (g : Nat) (b h l r f d x : Int) : Prop where
  c0 : w.cell? ⟨g, 0, none⟩ = some (.int .i64 b)
  c1 : w.cell? ⟨g, 1, none⟩ = some (.int .i64 h)
  c2 : w.cell? ⟨g, 2, none⟩ = some (.int .i64 l)
  c3 : w.cell? ⟨g, 3, none⟩ = some (.int .i64 r)
  c4 : w.cell? ⟨g, 4, none⟩ = some (.int .i64 f)
  c5 : w.cell? ⟨g, 5, none⟩ = some (.int .i64 d)
  c6 : w.cell? ⟨g, 6, none⟩ = some (.int .i64 x)
theorem GtC.below {w w' : World} {g : Nat} {b h l r f d x : Int} (hg : GtC w g b h l r f d x) (hb : Below w.heap.size w w') : GtC w' g b h l r f d x :=
  ⟨cell_bel hg.c0 hb, cell_bel hg.c1 hb, cell_bel hg.c2 hb, cell_bel hg.c3 hb, cell_bel hg.c4 hb, cell_bel hg.c5 hb, cell_bel hg.c6 hb⟩
theorem sameP_refl (ps : List (Int × Int)) : sameP ps ps = true := by
  unfold sameP
  simp
theorem Ext_eq {V : Prop} {vs : List (List Int)} {w : World} {e : Ending} {w' : World} (h : ExtP V vs w e w') : (V ∧ ∃ A c, e = .returned (.tuple #[.slice A vs.length c, .int .i64 0]) ∧ Rr w' A vs.length c vs ∧ Below w.heap.size w w') ∨ (¬ V ∧ e = .returned (.tuple #[.slice none 0 0, .int .i64 2]) ∧ Rr w' none 0 0 [] ∧ Below w.heap.size w w') := by
  rcases h with ⟨hV, A, c, he, hR, hb⟩ | ⟨hV, he, hb⟩
  · exact .inl ⟨hV, A, c, he, hR, hb⟩
  · exact .inr ⟨hV, he, Rr.nil _, hb⟩

set_option linter.unusedSimpArgs false
set_option maxHeartbeats 16000000 in
set_option maxRecDepth 100000 in
theorem stored_law (rate : Int) (A : Option Addr) (n c : Nat) (xs : List Int) (b h l r f d x : Int) (num den size step kind points : Int) (Ae : Option Addr) (m ce : Nat) (es : List Int) (cep : Int) (diff ctr : Bool) (w : World) (hS : Sl .i64 w A n c xs) (hA : A = none → c = 0) (he : Sl .i64 w Ae m ce es) (hT : Tab w) :
    Calls Tryz.prog 9 #[.agg #[.int .i64 rate, .slice A n c], (gtV b h l r f d x), (rcV num den size step kind points (.slice Ae m ce) cep diff ctr)] w (YesF w) := by
  have hl := Lib.hid hS.len
  have hcapz := hS.cap
  have htopz := hS.top
  have hcape := he.cap
  have htope := he.top
  have hb0 := (((Below.refl w.heap.size w).alloc (Nat.le_refl _) (.cells #[.int .i64 rate, .slice A n c] 30)).alloc (by simp) (.cells #[.int .i64 b, .int .i64 h, .int .i64 l, .int .i64 r, .int .i64 f, .int .i64 d, .int .i64 x] 66)).alloc (by simp; omega) (.cells #[.int .i64 num, .int .i64 den, .int .i64 size, .int .i64 step, .int .i64 kind, .int .i64 points, .slice Ae m ce, .int .i64 cep, .bool diff, .bool ctr] 33)
  have hsz : (((w.alloc (.cells #[.int .i64 rate, .slice A n c] 30)).alloc (.cells #[.int .i64 b, .int .i64 h, .int .i64 l, .int .i64 r, .int .i64 f, .int .i64 d, .int .i64 x] 66)).alloc (.cells #[.int .i64 num, .int .i64 den, .int .i64 size, .int .i64 step, .int .i64 kind, .int .i64 points, .slice Ae m ce, .int .i64 cep, .bool diff, .bool ctr] 33)).heap.size = w.heap.size + 3 := by simp
  have k2 := (Below.refl (w.alloc (.cells #[.int .i64 rate, .slice A n c] 30)).heap.size (w.alloc (.cells #[.int .i64 rate, .slice A n c] 30))).alloc (Nat.le_refl _) (.cells #[.int .i64 b, .int .i64 h, .int .i64 l, .int .i64 r, .int .i64 f, .int .i64 d, .int .i64 x] 66)
  have k3 := (Below.refl ((w.alloc (.cells #[.int .i64 rate, .slice A n c] 30)).alloc (.cells #[.int .i64 b, .int .i64 h, .int .i64 l, .int .i64 r, .int .i64 f, .int .i64 d, .int .i64 x] 66)).heap.size ((w.alloc (.cells #[.int .i64 rate, .slice A n c] 30)).alloc (.cells #[.int .i64 b, .int .i64 h, .int .i64 l, .int .i64 r, .int .i64 f, .int .i64 d, .int .i64 x] 66))).alloc (Nat.le_refl _) (.cells #[.int .i64 num, .int .i64 den, .int .i64 size, .int .i64 step, .int .i64 kind, .int .i64 points, .slice Ae m ce, .int .i64 cep, .bool diff, .bool ctr] 33)
  have q0 := cell_bel (cell_bel (show (w.alloc (.cells #[.int .i64 rate, .slice A n c] 30)).cell? ⟨w.heap.size, 0, none⟩ = some (.int .i64 rate) by simp) k2) k3
  have q1 := cell_bel (cell_bel (show (w.alloc (.cells #[.int .i64 rate, .slice A n c] 30)).cell? ⟨w.heap.size, 1, none⟩ = some (.slice A n c) by simp) k2) k3
  have z1 : (w.alloc (.cells #[.int .i64 rate, .slice A n c] 30)).heap.size = w.heap.size + 1 := by simp
  have z2 : ((w.alloc (.cells #[.int .i64 rate, .slice A n c] 30)).alloc (.cells #[.int .i64 b, .int .i64 h, .int .i64 l, .int .i64 r, .int .i64 f, .int .i64 d, .int .i64 x] 66)).heap.size = w.heap.size + 2 := by simp
  have hB1 := Blk.below (Blk.new (w.alloc (.cells #[.int .i64 rate, .slice A n c] 30)) 66 #[.int .i64 b, .int .i64 h, .int .i64 l, .int .i64 r, .int .i64 f, .int .i64 d, .int .i64 x]) k3
  have hB2 := Blk.new ((w.alloc (.cells #[.int .i64 rate, .slice A n c] 30)).alloc (.cells #[.int .i64 b, .int .i64 h, .int .i64 l, .int .i64 r, .int .i64 f, .int .i64 d, .int .i64 x] 66)) 33 #[.int .i64 num, .int .i64 den, .int .i64 size, .int .i64 step, .int .i64 kind, .int .i64 points, .slice Ae m ce, .int .i64 cep, .bool diff, .bool ctr]
  rw [z1] at hB1
  rw [z2] at hB2
  have hG : GtC (((w.alloc (.cells #[.int .i64 rate, .slice A n c] 30)).alloc (.cells #[.int .i64 b, .int .i64 h, .int .i64 l, .int .i64 r, .int .i64 f, .int .i64 d, .int .i64 x] 66)).alloc (.cells #[.int .i64 num, .int .i64 den, .int .i64 size, .int .i64 step, .int .i64 kind, .int .i64 points, .slice Ae m ce, .int .i64 cep, .bool diff, .bool ctr] 33)) (w.heap.size + 1) b h l r f d x := ⟨hB1.cell 0, hB1.cell 1, hB1.cell 2, hB1.cell 3, hB1.cell 4, hB1.cell 5, hB1.cell 6⟩
  have hC : RcC (((w.alloc (.cells #[.int .i64 rate, .slice A n c] 30)).alloc (.cells #[.int .i64 b, .int .i64 h, .int .i64 l, .int .i64 r, .int .i64 f, .int .i64 d, .int .i64 x] 66)).alloc (.cells #[.int .i64 num, .int .i64 den, .int .i64 size, .int .i64 step, .int .i64 kind, .int .i64 points, .slice Ae m ce, .int .i64 cep, .bool diff, .bool ctr] 33)) (w.heap.size + 2) num den size step kind points (.slice Ae m ce) cep diff ctr := ⟨hB2.cell 0, hB2.cell 1, hB2.cell 2, hB2.cell 3, hB2.cell 4, hB2.cell 5, hB2.cell 6, hB2.cell 7, hB2.cell 8, hB2.cell 9⟩
  clear k2 k3 z1 z2 hB1 hB2
  have h2 := hS.below hb0
  have he2 := he.below hb0
  have hT2 : Tab (((w.alloc (.cells #[.int .i64 rate, .slice A n c] 30)).alloc (.cells #[.int .i64 b, .int .i64 h, .int .i64 l, .int .i64 r, .int .i64 f, .int .i64 d, .int .i64 x] 66)).alloc (.cells #[.int .i64 num, .int .i64 den, .int .i64 size, .int .i64 step, .int .i64 kind, .int .i64 points, .slice Ae m ce, .int .i64 cep, .bool diff, .bool ctr] 33)) := hT.below hb0
  obtain ⟨vb, hvb⟩ : ∃ vb, (okB 1 192000 rate && allB (-32768) 32767 xs) = vb := ⟨_, rfl⟩
  have hvb := Lib.hid hvb
  unfold gtV rcV
  by_cases n3 : 300 < n
  · have cn1 : (300 : Int) < (n : Int) := by omega
    have cn2 : decide ((300 : Int) < (n : Int)) = true := decide_eq_true cn1
    have cn3 : decide (300 < n) = true := decide_eq_true n3
    go_enter Tryz.func9, Tryz.ntmps9
    go_wp2_with fail
    generalize (((w.alloc (.cells #[.int .i64 rate, .slice A n c] 30)).alloc (.cells #[.int .i64 b, .int .i64 h, .int .i64 l, .int .i64 r, .int .i64 f, .int .i64 d, .int .i64 x] 66)).alloc (.cells #[.int .i64 num, .int .i64 den, .int .i64 size, .int .i64 step, .int .i64 kind, .int .i64 points, .slice Ae m ce, .int .i64 cep, .bool diff, .bool ctr] 33)) = w2 at *
    have f6 := hC.c6
    go_wp2_with fail
    refine (known03_any _).mono ?_
    rintro e w99 ⟨rfl, hb99⟩
    have hbz := hb0.trans (hb99.mono hb0.size)
    go_wp2
    go_ret
    exact ⟨rfl, hbz⟩
  have cn1 : ¬ (300 : Int) < (n : Int) := by omega
  have cn2 : decide ((300 : Int) < (n : Int)) = false := decide_eq_false cn1
  have cn3 : decide (300 < n) = false := decide_eq_false n3
  by_cases m3 : 40 < m
  · have d1 : (40 : Int) < (m : Int) := by omega
    have d2 : decide ((40 : Int) < (m : Int)) = true := decide_eq_true d1
    have d3 : decide (40 < m) = true := decide_eq_true m3
    go_enter Tryz.func9, Tryz.ntmps9
    go_wp2_with fail
    generalize (((w.alloc (.cells #[.int .i64 rate, .slice A n c] 30)).alloc (.cells #[.int .i64 b, .int .i64 h, .int .i64 l, .int .i64 r, .int .i64 f, .int .i64 d, .int .i64 x] 66)).alloc (.cells #[.int .i64 num, .int .i64 den, .int .i64 size, .int .i64 step, .int .i64 kind, .int .i64 points, .slice Ae m ce, .int .i64 cep, .bool diff, .bool ctr] 33)) = w2 at *
    have f6 := hC.c6
    go_wp2_with fail
    refine (known03_any _).mono ?_
    rintro e w99 ⟨rfl, hb99⟩
    have hbz := hb0.trans (hb99.mono hb0.size)
    go_wp2
    go_ret
    exact ⟨rfl, hbz⟩
  have d1 : ¬ (40 : Int) < (m : Int) := by omega
  have d2 : decide ((40 : Int) < (m : Int)) = false := decide_eq_false d1
  have d3 : decide (40 < m) = false := decide_eq_false m3
  cases vb with
  | false =>
    go_enter Tryz.func9, Tryz.ntmps9
    go_wp2_with fail
    generalize (((w.alloc (.cells #[.int .i64 rate, .slice A n c] 30)).alloc (.cells #[.int .i64 b, .int .i64 h, .int .i64 l, .int .i64 r, .int .i64 f, .int .i64 d, .int .i64 x] 66)).alloc (.cells #[.int .i64 num, .int .i64 den, .int .i64 size, .int .i64 step, .int .i64 kind, .int .i64 points, .slice Ae m ce, .int .i64 cep, .bool diff, .bool ctr] 33)) = w2 at *
    have f6 := hC.c6
    go_wp2_with fail
    refine (wRValid_any _ _ _ _ _ _ h2 (by omega)).mono ?_
    rintro e w3 ⟨rfl, hb3⟩
    rw [hvb.out]
    have q0 := cell_bel q0 hb3
    have q1 := cell_bel q1 hb3
    have hG3 := hG.below hb3
    have hC3 := hC.below hb3
    have he3 := he2.below hb3
    have h3 := h2.below hb3
    have hT3 : Tab w3 := Tab.below hT2 hb3
    have hb03 := hb0.trans (hb3.mono (by omega))
    go_wp2_with fail
    refine (known03_any _).mono ?_
    rintro e w99 ⟨rfl, hb99⟩
    have hbz := hb03.trans (hb99.mono hb03.size)
    go_wp2
    go_ret
    exact ⟨rfl, hbz⟩
  | true =>
    have hx := (Bool.and_eq_true _ _ ▸ hvb.out).2
    have hk : chkR rate xs = 0 := (chkR_iff (by rw [hl.out]; omega)).2 hvb.out
    have hP := Lib.hid (fun (w9 : World) (h9 : Sl .i64 w9 A n c xs) => Pack_ok rate A n c xs w9 h9 hk)
    have hpb : byB (pkB rate xs) := by unfold pkB; exact byB_app (hdB_by _ _) (le_by _ _)
    have hU := Lib.hid (fun (A9 : Option Addr) (c9 : Nat) (w9 : World) (h9 : Sl .u8 w9 A9 (16 + n * 2) c9 (pkB rate xs)) => Unpack_pk rate xs hk A9 (16 + n * 2) c9 w9 h9 hpb (by omega))
    have hSg := Lib.hid (fun (A9 : Option Addr) (c9 : Nat) (w9 : World) (h9 : Sl .i64 w9 A9 n c9 xs) => Segs_any b h l r f d x A9 n c9 xs w9 h9 (by omega) hx)
    have hXt := Lib.hid (fun (A9 : Option Addr) (c9 : Nat) (w9 : World) (h9 : Sl .i64 w9 A9 n c9 xs) (a9 : A9 = none → c9 = 0) (e9 : Sl .i64 w9 Ae m ce es) (t9 : Tab w9) => Extract_any rate num den size step kind points cep diff ctr A9 n c9 xs Ae m ce es w9 h9 a9 e9 t9 (by omega))
    unfold gtV at hSg
    unfold rcV at hXt
    obtain ⟨V, hV⟩ : ∃ V : Prop, (chkR rate xs = 0 ∧ RcP num den size step kind points cep es) = V := ⟨_, rfl⟩
    rw [hV] at hXt
    clear hV
    generalize hvs : featL num den size step kind points.toNat cep es diff ctr xs = vs at hXt
    clear hvs
    generalize hsl : sgL b h l r f d x xs = ps at hSg
    generalize hsc : sgC b h l r f d x = cd at hSg
    clear hsl hsc hx hk hpb
    go_enter Tryz.func9, Tryz.ntmps9
    go_wp2_with fail
    generalize (((w.alloc (.cells #[.int .i64 rate, .slice A n c] 30)).alloc (.cells #[.int .i64 b, .int .i64 h, .int .i64 l, .int .i64 r, .int .i64 f, .int .i64 d, .int .i64 x] 66)).alloc (.cells #[.int .i64 num, .int .i64 den, .int .i64 size, .int .i64 step, .int .i64 kind, .int .i64 points, .slice Ae m ce, .int .i64 cep, .bool diff, .bool ctr] 33)) = w2 at *
    have f6 := hC.c6
    go_wp2_with fail
    refine (wRValid_any _ _ _ _ _ _ h2 (by omega)).mono ?_
    rintro e w3 ⟨rfl, hb3⟩
    rw [hvb.out]
    have q0 := cell_bel q0 hb3
    have q1 := cell_bel q1 hb3
    have hG3 := hG.below hb3
    have hC3 := hC.below hb3
    have he3 := he2.below hb3
    have h3 := h2.below hb3
    have hT3 : Tab w3 := Tab.below hT2 hb3
    have hb03 := hb0.trans (hb3.mono (by omega))
    go_wp2_with fail
    refine (hP.out _ h3).mono ?_
    rintro e w4 ⟨V4, rfl, hown4, hb4⟩
    obtain ⟨A4, c4, rfl, hS4⟩ := Sl.of_own hown4
    clear hown4
    have q0 := cell_bel q0 hb4
    have q1 := cell_bel q1 hb4
    have hG4 := hG3.below hb4
    have hC4 := hC3.below hb4
    have he4 := he3.below hb4
    have h4 := h3.below hb4
    have hT4 : Tab w4 := Tab.below hT3 hb4
    have hb04 := hb03.trans (hb4.mono hb03.size)
    go_wp2_with fail
    refine (hU.out _ _ _ hS4).mono ?_
    rintro e w5 ⟨A5, m5, c5, rfl, hS5, hn5, hb5⟩
    have hm5 : m5 = n := by rw [← hS5.len, hl.out]
    subst hm5
    have q0 := cell_bel q0 hb5
    have q1 := cell_bel q1 hb5
    have hG5 := hG4.below hb5
    have hC5 := hC4.below hb5
    have he5 := he4.below hb5
    have h5 := h4.below hb5
    have hT5 : Tab w5 := Tab.below hT4 hb5
    have hb05 := hb04.trans (hb5.mono hb04.size)
    have hb6 := (Below.refl w5.heap.size w5).alloc (Nat.le_refl _) (.cells #[.int .i64 rate, .slice A5 m5 c5] 30)
    have z0 : (w5.alloc (.cells #[.int .i64 rate, .slice A5 m5 c5] 30)).cell? ⟨w5.heap.size, 0, none⟩ = some (.int .i64 rate) := by simp
    have z1 : (w5.alloc (.cells #[.int .i64 rate, .slice A5 m5 c5] 30)).cell? ⟨w5.heap.size, 1, none⟩ = some (.slice A5 m5 c5) := by simp
    have hS6 := hS5.below hb6
    have q0 := cell_bel q0 hb6
    have q1 := cell_bel q1 hb6
    have hG6 := hG5.below hb6
    have hC6 := hC5.below hb6
    have he6 := he5.below hb6
    have h6 := h5.below hb6
    have hT6 : Tab (w5.alloc (.cells #[.int .i64 rate, .slice A5 m5 c5] 30)) := Tab.below hT5 hb6
    have hb06 := hb05.trans (hb6.mono hb05.size)
    have g0 := hG6.c0
    have g1 := hG6.c1
    have g2 := hG6.c2
    have g3 := hG6.c3
    have g4 := hG6.c4
    have g5 := hG6.c5
    have g6 := hG6.c6
    go_wp2_with fail
    generalize w5.alloc (.cells #[.int .i64 rate, .slice A5 m5 c5] 30) = w6 at *
    refine (hSg.out _ _ _ h6).mono ?_
    rintro e w7 ⟨A7, n7, c7, rfl, hP7, hb7⟩
    have z0 := cell_bel z0 hb7
    have z1 := cell_bel z1 hb7
    have hS7 := hS6.below hb7
    have q0 := cell_bel q0 hb7
    have q1 := cell_bel q1 hb7
    have hG7 := hG6.below hb7
    have hC7 := hC6.below hb7
    have he7 := he6.below hb7
    have h7 := h6.below hb7
    have hT7 : Tab w7 := Tab.below hT6 hb7
    have hb07 := hb06.trans (hb7.mono hb06.size)
    have g0 := hG7.c0
    have g1 := hG7.c1
    have g2 := hG7.c2
    have g3 := hG7.c3
    have g4 := hG7.c4
    have g5 := hG7.c5
    have g6 := hG7.c6
    go_wp2_with fail
    refine (hSg.out _ _ _ hS7).mono ?_
    rintro e w8 ⟨A8, n8, c8, rfl, hP8, hb8⟩
    have hn8 : n8 = n7 := by rw [← hP8.len, hP7.len]
    subst hn8
    have z0 := cell_bel z0 hb8
    have z1 := cell_bel z1 hb8
    have hS8 := hS7.below hb8
    have hP78 := hP7.below hb8
    have q0 := cell_bel q0 hb8
    have q1 := cell_bel q1 hb8
    have hG8 := hG7.below hb8
    have hC8 := hC7.below hb8
    have he8 := he7.below hb8
    have h8 := h7.below hb8
    have hT8 : Tab w8 := Tab.below hT7 hb8
    have hb08 := hb07.trans (hb8.mono hb07.size)
    have f0 := hC8.c0
    have f1 := hC8.c1
    have f2 := hC8.c2
    have f3 := hC8.c3
    have f4 := hC8.c4
    have f5 := hC8.c5
    have f6 := hC8.c6
    have f7 := hC8.c7
    have f8 := hC8.c8
    have f9 := hC8.c9
    go_wp2_with fail
    refine (hXt.out _ _ _ h8 hA he8 hT8).mono ?_
    intro e w9 hE9
    rcases Ext_eq hE9 with ⟨hV9, A9, c9, rfl, hR9, hb9⟩ | ⟨hV9, rfl, hR9, hb9⟩
    · clear hE9
      have z0 := cell_bel z0 hb9
      have z1 := cell_bel z1 hb9
      have hS9 := hS8.below hb9
      have hP79 := hP78.below hb9
      have hP89 := hP8.below hb9
      have q0 := cell_bel q0 hb9
      have q1 := cell_bel q1 hb9
      have hG9 := hG8.below hb9
      have hC9 := hC8.below hb9
      have he9 := he8.below hb9
      have h9 := h8.below hb9
      have hT9 : Tab w9 := Tab.below hT8 hb9
      have hb09 := hb08.trans (hb9.mono hb08.size)
      have f0 := hC9.c0
      have f1 := hC9.c1
      have f2 := hC9.c2
      have f3 := hC9.c3
      have f4 := hC9.c4
      have f5 := hC9.c5
      have f6 := hC9.c6
      have f7 := hC9.c7
      have f8 := hC9.c8
      have f9 := hC9.c9
      go_wp2_with fail
      refine (hXt.out _ _ _ hS9 hn5 he9 hT9).mono ?_
      intro e w10 hE10
      obtain ⟨A10, c10, rfl, hR10, hb10⟩ := ((Ext_eq hE10).resolve_right (fun hh => hh.1 hV9)).2
      clear hE10
      have hP710 := hP79.below hb10
      have hP810 := hP89.below hb10
      have hR910 := hR9.below hb10
      have hb010 := hb09.trans (hb10.mono hb09.size)
      clear q0 q1 z0 z1 f0 f1 f2 f3 f4 f5 f6 f7 f8 f9
      go_wp2_with fail
      refine (SameSegments_any _ _ _ _ _ _ _ _ _ hP710 hP810).mono ?_
      rintro e w11 ⟨k11, rfl, hw11⟩
      rw [sameP_refl]
      have hb11 : Below w10.heap.size w10 w11 := by rw [hw11]; exact bel_drewN (Below.refl _ _) k11
      clear hw11
      have hb011 := hb010.trans (hb11.mono hb010.size)
      go_wp2_with fail
      refine (SameL_any _ _ _ _ _ _ _ _ _ (hR910.below hb11) (hR10.below hb11)).mono ?_
      rintro e w12 ⟨b12, r12, rfl, hi12, hw12⟩
      obtain rfl : b12 = true := hi12.2 rfl
      clear hi12
      have hb12 : Below w11.heap.size w11 w12 := by rw [hw12]; exact bel_drewN (Below.refl _ _) r12
      clear hw12
      have hb012 := hb011.trans (hb12.mono hb011.size)
      go_wp2_with fail
      refine (known03_any _).mono ?_
      rintro e w99 ⟨rfl, hb99⟩
      have hbz := hb012.trans (hb99.mono hb012.size)
      go_wp2
      go_ret
      exact ⟨rfl, hbz⟩
    · clear hE9
      have z0 := cell_bel z0 hb9
      have z1 := cell_bel z1 hb9
      have hS9 := hS8.below hb9
      have hP79 := hP78.below hb9
      have hP89 := hP8.below hb9
      have q0 := cell_bel q0 hb9
      have q1 := cell_bel q1 hb9
      have hG9 := hG8.below hb9
      have hC9 := hC8.below hb9
      have he9 := he8.below hb9
      have h9 := h8.below hb9
      have hT9 : Tab w9 := Tab.below hT8 hb9
      have hb09 := hb08.trans (hb9.mono hb08.size)
      have f0 := hC9.c0
      have f1 := hC9.c1
      have f2 := hC9.c2
      have f3 := hC9.c3
      have f4 := hC9.c4
      have f5 := hC9.c5
      have f6 := hC9.c6
      have f7 := hC9.c7
      have f8 := hC9.c8
      have f9 := hC9.c9
      go_wp2_with fail
      refine (hXt.out _ _ _ hS9 hn5 he9 hT9).mono ?_
      intro e w10 hE10
      obtain ⟨rfl, hR10, hb10⟩ := ((Ext_eq hE10).resolve_left (fun hh => hV9 hh.1)).2
      clear hE10
      have hP710 := hP79.below hb10
      have hP810 := hP89.below hb10
      have hR910 := hR9.below hb10
      have hb010 := hb09.trans (hb10.mono hb09.size)
      clear q0 q1 z0 z1 f0 f1 f2 f3 f4 f5 f6 f7 f8 f9
      go_wp2_with fail
      refine (SameSegments_any _ _ _ _ _ _ _ _ _ hP710 hP810).mono ?_
      rintro e w11 ⟨k11, rfl, hw11⟩
      rw [sameP_refl]
      have hb11 : Below w10.heap.size w10 w11 := by rw [hw11]; exact bel_drewN (Below.refl _ _) k11
      clear hw11
      have hb011 := hb010.trans (hb11.mono hb010.size)
      go_wp2_with fail
      refine (SameL_any _ _ _ _ _ _ _ _ _ (hR910.below hb11) (hR10.below hb11)).mono ?_
      rintro e w12 ⟨b12, r12, rfl, hi12, hw12⟩
      obtain rfl : b12 = true := hi12.2 rfl
      clear hi12
      have hb12 : Below w11.heap.size w11 w12 := by rw [hw12]; exact bel_drewN (Below.refl _ _) r12
      clear hw12
      have hb012 := hb011.trans (hb12.mono hb011.size)
      go_wp2_with fail
      refine (known03_any _).mono ?_
      rintro e w99 ⟨rfl, hb99⟩
      have hbz := hb012.trans (hb99.mono hb012.size)
      go_wp2
      go_ret
      exact ⟨rfl, hbz⟩
end Go.Proofs.YtoljffghaklpdaaGreatDoor
