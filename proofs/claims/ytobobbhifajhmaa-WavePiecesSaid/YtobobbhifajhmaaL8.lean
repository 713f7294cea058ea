/- A listener is made and closed. -/
import Derived.Test.YtobobbhifajhmaaL7
namespace Go.Proofs.Ytobobbhifajhmaa
open Go.RowKit

theorem gtB_ok {b h l r f d x : Int} (hv : gtB b h l r f d x = true) : ∃ G : Gt, G.Ok ∧ b = (G.B : Int) ∧ h = G.H ∧ l = G.L ∧ r = G.R ∧ f = G.F ∧ d = G.D ∧ x = G.X := by
  unfold gtB at hv
  simp only [Bool.and_eq_true, okB_iff] at hv
  obtain ⟨⟨⟨⟨⟨⟨h1, h2⟩, h3⟩, h4⟩, h5⟩, h6⟩, h7⟩ := hv
  exact ⟨⟨b.toNat, h, l, r, f, d, x⟩, ⟨by dsimp only; omega, by dsimp only; omega, h2.1, h2.2, h3.1, h3.2, h4.1, h4.2, h5.1, h5.2, h6.1, h6.2, h7.1, h7.2⟩, by dsimp only; omega, rfl, rfl, rfl, rfl, rfl, rfl⟩
def gval (G : Gt) : Value := gtV (G.B : Int) G.H G.L G.R G.F G.D G.X
theorem gtB_of {G : Gt} (hG : G.Ok) : gtB (G.B : Int) G.H G.L G.R G.F G.D G.X = true := by
  obtain ⟨h1, h2, h3, h4, h5, h6, h7, h8, h9, h10, h11, h12, h13, h14⟩ := hG
  unfold gtB
  simp only [Bool.and_eq_true, okB_iff]
  exact ⟨⟨⟨⟨⟨⟨⟨by omega, by omega⟩, h3, h4⟩, h5, h6⟩, h7, h8⟩, h9, h10⟩, h11, h12⟩, h13, h14⟩

theorem Lis.start {w : World} {g gr : Nat} {G : Gt} (hL : LB w g G 1 (.slice (some ⟨gr, 0, none⟩) (2 * G.B) (2 * G.B)) 0 0 0 0) (hR : Mk w gr 3 .i64 (zs (2 * G.B))) (hne : gr ≠ g) : Lis w g gr G [] := by
  have e : endM G [] = Ms.start := by unfold endM; rw [show ([] : List Int).length / G.B = 0 from Nat.zero_div _]; rfl
  exact ⟨by rw [e]; exact hL, ⟨_, hR, zs_len _, by simp⟩, hne, (fun x hx => absurd hx List.not_mem_nil), Nat.zero_le _⟩

set_option maxHeartbeats 1600000 in
theorem Listen_bad (b h l r f d x : Int) (w : World) (hv : gtB b h l r f d x = false) :
    Calls Try.prog 55 #[gtV b h l r f d x] w fun e w' => e = .returned (.tuple #[.pointer none, .int .i64 2]) ∧ Below w.heap.size w w' := by
  have hb0 := (Below.refl w.heap.size w).alloc (Nat.le_refl _) (.cells #[.int .i64 b, .int .i64 h, .int .i64 l, .int .i64 r, .int .i64 f, .int .i64 d, .int .i64 x] 65)
  have hvg := fun w => validGate_any b h l r f d x w
  unfold gtV at hvg ⊢
  rw [hv] at hvg
  have hvg := Lib.hid hvg
  go_enter Try.func55, Try.ntmps55
  go_wp2_with (go_at_call 87; refine (hvg.out _).mono ?_; rintro e w1 ⟨rfl, hb1⟩)
  go_ret2
  exact ⟨rfl, hb0.trans (hb1.mono hb0.size)⟩

set_option maxHeartbeats 1600000 in
set_option maxRecDepth 100000 in
theorem Listen_any (G : Gt) (hG : G.Ok) (w : World) :
    Calls Try.prog 55 #[gval G] w fun e w' => ∃ g gr, e = .returned (.tuple #[.pointer (some ⟨g, 0, none⟩), .int .i64 0]) ∧ Lis w' g gr G [] ∧ Below w.heap.size w w' ∧ w.heap.size ≤ g ∧ w.heap.size ≤ gr := by
  have hb0 := (Below.refl w.heap.size w).alloc (Nat.le_refl _) (.cells #[.int .i64 G.B, .int .i64 G.H, .int .i64 G.L, .int .i64 G.R, .int .i64 G.F, .int .i64 G.D, .int .i64 G.X] 65)
  have hB0 := Blk.new w 65 #[.int .i64 G.B, .int .i64 G.H, .int .i64 G.L, .int .i64 G.R, .int .i64 G.F, .int .i64 G.D, .int .i64 G.X]
  have hvg := fun w => validGate_any G.B G.H G.L G.R G.F G.D G.X w
  rw [gtB_of hG] at hvg
  have hb1 := hG.b1
  have hb2 := hG.b2
  unfold gval gtV at *
  have hvg := Lib.hid hvg
  have hmk : ∀ w : World, (Instr.makeSlice 22 (.int .i64 (2 * (G.B : Int))) (.int .i64 (2 * (G.B : Int)))).run Try.prog w = .ok (.slice (some ⟨w.heap.size, 0, none⟩) (2 * G.B) (2 * G.B)) (w.alloc (.cells (ivs .i64 (zs (2 * G.B))).toArray 3)) := fun w => by
    have := make_int (2 * G.B) (by omega) w
    rw [Int.natCast_mul] at this
    exact this
  go_enter Try.func55, Try.ntmps55
  go_wp2_with (go_at_call 87; refine (hvg.out _).mono ?_; rintro e w1 ⟨rfl, hb1⟩)
  have hB1 := hB0.below hb1
  have hbw := hb0.trans (hb1.mono hb0.size)
  have hsz := hB1.lt
  have c0 := hB1.cell 0
  have c1 := hB1.cell 1
  have c2 := hB1.cell 2
  have c3 := hB1.cell 3
  have c4 := hB1.cell 4
  have c5 := hB1.cell 5
  have c6 := hB1.cell 6
  have e1 : IntKind.i64.wrap (2 * (G.B : Int)) = 2 * (G.B : Int) := IntWalk.i64_in _ (by omega)
  go_region
  clear e1 c0 c1 c2 c3 c4 c5 c6 hmk
  go_wp2
  go_ret2
  refine ⟨_, _, rfl, Lis.start (Blk.drewN (by have := Blk.new (w1.alloc (.cells (ivs .i64 (zs (2 * G.B))).toArray 3)) 89 (lcs G 1 (.slice (some ⟨w1.heap.size, 0, none⟩) (2 * G.B) (2 * G.B)) 0 0 0 0); rw [show (w1.alloc (.cells (ivs .i64 (zs (2 * G.B))).toArray 3)).heap.size = w1.heap.size + 1 by simp] at this; exact this) 1) ((Mk.new w1 _ _ _).alloc _) (by omega), (bel_drewN ((hbw.alloc hbw.size _).alloc (by simp; have := hbw.size; omega) _) 1), by omega, by omega⟩

/-- the cells of a closed listener -/
def G0 : Gt := ⟨0, 0, 0, 0, 0, 0, 0⟩
def Closed (w : World) (g : Nat) (n : Nat) : Prop := LB w g G0 3 (.slice none 0 0) (n : Int) 0 0 0

theorem Close_nil (w : World) : Calls Try.prog 58 #[.pointer none] w fun e w' => e = .returned (.tuple #[.slice none 0 0, .int .i64 1]) ∧ w = w' := by
  go_enter Try.func58, Try.ntmps58
  go_wp2_with (go_at_call 88; refine (isMissing_nil _).mono ?_; rintro e w' ⟨rfl, rfl⟩)
  go_ret2
  exact ⟨rfl, rfl⟩
theorem Close_zero (g : Nat) (w : World) (G : Gt) (ring : Value) (arr run first last : Int) (h : LB w g G 0 ring arr run first last) :
    Calls Try.prog 58 #[.pointer (some ⟨g, 0, none⟩)] w fun e w' => e = .returned (.tuple #[.slice none 0 0, .int .i64 1]) ∧ w = w' := by
  go_enter Try.func58, Try.ntmps58
  go_wp2_with (go_at_call 88; refine (isMissing_any _ _ _ _ _ _ _ _ _ h).mono ?_; rintro e w' ⟨rfl, rfl⟩)
  go_ret2
  exact ⟨rfl, rfl⟩
theorem Close_closed (g : Nat) (w : World) (n : Nat) (h : Closed w g n) :
    Calls Try.prog 58 #[.pointer (some ⟨g, 0, none⟩)] w fun e w' => e = .returned (.tuple #[.slice none 0 0, .int .i64 8]) ∧ w = w' := by
  unfold Closed at h
  have c7 := h.c7
  go_enter Try.func58, Try.ntmps58
  go_wp2_with (go_at_call 88; refine (isMissing_any _ _ _ _ _ _ _ _ _ h).mono ?_; rintro e w' ⟨rfl, rfl⟩)
  go_ret2
  exact ⟨rfl, rfl⟩

theorem lastS_wait {G : Gt} {all : List Int} (h : (endM G all).sp = false) : lastS G all = [] := by unfold lastS; rw [h]; rfl
theorem lastS_speech {G : Gt} {all : List Int} (h : (endM G all).sp = true) : lastS G all = [((endM G all).first * G.B, (all.length : Int))] := by unfold lastS; rw [h]; rfl

theorem LB.s0 {w : World} {g : Nat} {G : Gt} {st arr run first last : Int} {ring : Value} (h : LB w g G st ring arr run first last) (v : Nat) : LB (w.setCell ⟨g, 0, none⟩ (.int .i64 (v : Int))) g ⟨v, G.H, G.L, G.R, G.F, G.D, G.X⟩ st ring arr run first last := Blk.set_ h 0 _
theorem LB.s1 {w : World} {g : Nat} {G : Gt} {st arr run first last : Int} {ring : Value} (h : LB w g G st ring arr run first last) (v : Int) : LB (w.setCell ⟨g, 1, none⟩ (.int .i64 v)) g ⟨G.B, v, G.L, G.R, G.F, G.D, G.X⟩ st ring arr run first last := Blk.set_ h 1 _
theorem LB.s2 {w : World} {g : Nat} {G : Gt} {st arr run first last : Int} {ring : Value} (h : LB w g G st ring arr run first last) (v : Int) : LB (w.setCell ⟨g, 2, none⟩ (.int .i64 v)) g ⟨G.B, G.H, v, G.R, G.F, G.D, G.X⟩ st ring arr run first last := Blk.set_ h 2 _
theorem LB.s3 {w : World} {g : Nat} {G : Gt} {st arr run first last : Int} {ring : Value} (h : LB w g G st ring arr run first last) (v : Int) : LB (w.setCell ⟨g, 3, none⟩ (.int .i64 v)) g ⟨G.B, G.H, G.L, v, G.F, G.D, G.X⟩ st ring arr run first last := Blk.set_ h 3 _
theorem LB.s4 {w : World} {g : Nat} {G : Gt} {st arr run first last : Int} {ring : Value} (h : LB w g G st ring arr run first last) (v : Int) : LB (w.setCell ⟨g, 4, none⟩ (.int .i64 v)) g ⟨G.B, G.H, G.L, G.R, v, G.D, G.X⟩ st ring arr run first last := Blk.set_ h 4 _
theorem LB.s5 {w : World} {g : Nat} {G : Gt} {st arr run first last : Int} {ring : Value} (h : LB w g G st ring arr run first last) (v : Int) : LB (w.setCell ⟨g, 5, none⟩ (.int .i64 v)) g ⟨G.B, G.H, G.L, G.R, G.F, v, G.X⟩ st ring arr run first last := Blk.set_ h 5 _
theorem LB.s6 {w : World} {g : Nat} {G : Gt} {st arr run first last : Int} {ring : Value} (h : LB w g G st ring arr run first last) (v : Int) : LB (w.setCell ⟨g, 6, none⟩ (.int .i64 v)) g ⟨G.B, G.H, G.L, G.R, G.F, G.D, v⟩ st ring arr run first last := Blk.set_ h 6 _
theorem LB.s8 {w : World} {g : Nat} {G : Gt} {st arr run first last : Int} {ring : Value} (h : LB w g G st ring arr run first last) (v : Value) : LB (w.setCell ⟨g, 8, none⟩ v) g G st v arr run first last := Blk.set_ h 8 _
/-- thirteen stores -/
theorem LB.all13 {w : World} {g : Nat} {G : Gt} {st arr run first last : Int} {ring : Value} (h : LB w g G st ring arr run first last) (n : Nat) :
    Closed (((((((((((((w.setCell ⟨g, 0, none⟩ (.int .i64 0)).setCell ⟨g, 1, none⟩ (.int .i64 0)).setCell ⟨g, 2, none⟩ (.int .i64 0)).setCell ⟨g, 3, none⟩ (.int .i64 0)).setCell ⟨g, 4, none⟩ (.int .i64 0)).setCell ⟨g, 5, none⟩ (.int .i64 0)).setCell ⟨g, 6, none⟩ (.int .i64 0)).setCell ⟨g, 7, none⟩ (.int .i64 3)).setCell ⟨g, 8, none⟩ (.slice none 0 0)).setCell ⟨g, 9, none⟩ (.int .i64 (n : Int))).setCell ⟨g, 10, none⟩ (.int .i64 0)).setCell ⟨g, 11, none⟩ (.int .i64 0)).setCell ⟨g, 12, none⟩ (.int .i64 0)) g n :=
  ((((((((((((h.s0 0).s1 0).s2 0).s3 0).s4 0).s5 0).s6 0).s7 3).s8 (.slice none 0 0)).s9 (n : Int)).s10 0).s11 0).s12 0

set_option maxHeartbeats 1600000 in
theorem Close_wait (g gr : Nat) (all : List Int) (w : World) (G : Gt) (h : Lis w g gr G all) (hs : (endM G all).sp = false) :
    Calls Try.prog 58 #[.pointer (some ⟨g, 0, none⟩)] w fun e w' => e = .returned (.tuple #[.slice none 0 0, .int .i64 0]) ∧ Closed w' g all.length ∧ Two g gr w w' := by
  have hst : (endM G all).st = 1 := by unfold Ms.st; rw [hs]; rfl
  have hlb := h.lb
  rw [hst] at hlb
  clear hst hs
  have c0 := hlb.c0
  have c1 := hlb.c1
  have c2 := hlb.c2
  have c3 := hlb.c3
  have c4 := hlb.c4
  have c5 := hlb.c5
  have c6 := hlb.c6
  have c7 := hlb.c7
  have c8 := hlb.c8
  have c9 := hlb.c9
  have c10 := hlb.c10
  have c11 := hlb.c11
  have c12 := hlb.c12
  have f := fun i => hlb.fz i
  go_enter Try.func58, Try.ntmps58
  go_wp2_with (go_at_call 88; refine (isMissing_any _ _ _ _ _ _ _ _ _ hlb).mono ?_; rintro e w' ⟨rfl, rfl⟩)
  go_ret2
  exact ⟨rfl, LB.all13 (show LB _ _ _ _ _ _ _ _ _ from hlb) _, ((((((((((((((Two.refl g gr w).set_ 0 _).set_ 1 _).set_ 2 _).set_ 3 _).set_ 4 _).set_ 5 _).set_ 6 _).set_ 7 _).set_ 8 _).set_ 9 _).set_ 10 _).set_ 11 _).set_ 12 _)⟩
end Go.Proofs.Ytobobbhifajhmaa
