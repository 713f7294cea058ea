/- What laws about recordings and recipes share: the program's Extract, whatever it is asked; the answers about recipes. -/
import Derived.Test.YtoljffghaklpdaaGreatDoorEM
import Derived.Test.YtoljffghaklpdaaGreatDoorED
import Derived.Test.YtoljffghaklpdaaGreatDoorLA
import Derived.Test.YtoljffghaklpdaaGreatDoorPM
namespace Go.Proofs.YtoljffghaklpdaaGreatDoor
open Go.RowKit

/-- the cells of a recipe that lies at g -/
structure RcC (w : World) (g : Nat) (num den size step kind points : Int) (E : Value) (cep : Int) (diff ctr : Bool) : Prop where
  c0 : w.cell? ⟨g, 0, none⟩ = some (.int .i64 num)
  c1 : w.cell? ⟨g, 1, none⟩ = some (.int .i64 den)
  c2 : w.cell? ⟨g, 2, none⟩ = some (.int .i64 size)
  c3 : w.cell? ⟨g, 3, none⟩ = some (.int .i64 step)
  c4 : w.cell? ⟨g, 4, none⟩ = some (.int .i64 kind)
  c5 : w.cell? ⟨g, 5, none⟩ = some (.int .i64 points)
  c6 : w.cell? ⟨g, 6, none⟩ = some E
  c7 : w.cell? ⟨g, 7, none⟩ = some (.int .i64 cep)
  c8 : w.cell? ⟨g, 8, none⟩ = some (.bool diff)
  c9 : w.cell? ⟨g, 9, none⟩ = some (.bool ctr)
theorem RcC.below {w w' : World} {g : Nat} {num den size step kind points : Int} {E : Value} {cep : Int} {diff ctr : Bool} (h : RcC w g num den size step kind points E cep diff ctr) (hb : Below w.heap.size w w') : RcC w' g num den size step kind points E cep diff ctr :=
  ⟨cell_bel h.c0 hb, cell_bel h.c1 hb, cell_bel h.c2 hb, cell_bel h.c3 hb, cell_bel h.c4 hb, cell_bel h.c5 hb, cell_bel h.c6 hb, cell_bel h.c7 hb, cell_bel h.c8 hb, cell_bel h.c9 hb⟩

theorem len_split (points : Int) : ∃ lb : Bool, (∀ w0 : World, Calls Tryz.prog 52 #[.int .i64 points] w0 fun e w' => e = .returned (.bool lb) ∧ w0 = w') ∧ (∀ w0 : World, Calls Tryz.prog 57 #[.int .i64 points] w0 fun e w' => e = .returned (.bool lb) ∧ w' = w0) ∧ (lb = true ↔ (0 ≤ points ∧ lenB points.toNat = true)) := by
  by_cases h : points < 0
  · exact ⟨false, fun w0 => isLength_neg points w0 h, fun w0 => RLength_neg points w0 h, ⟨fun hh => (by cases hh), fun hh => absurd hh.1 (by omega)⟩⟩
  · obtain ⟨k, rfl⟩ : ∃ k : Nat, points = (k : Int) := ⟨points.toNat, by omega⟩
    exact ⟨lenB k, fun w0 => isLength_any k w0, fun w0 => RLength_any k w0, ⟨fun hh => ⟨by omega, by simpa using hh⟩, fun hh => by simpa using hh.2⟩⟩
theorem chkR_iff {rate : Int} {xs : List Int} (hl : xs.length ≤ 200000) : chkR rate xs = 0 ↔ (okB 1 192000 rate && allB (-32768) 32767 xs) = true := by
  have e : chk (-32768) 32767 xs = if allB (-32768) 32767 xs then 0 else 2 := by unfold chk; rw [if_neg (by omega)]
  unfold chkR
  rw [e]
  cases allB (-32768) 32767 xs <;> cases okB 1 192000 rate <;> simp

theorem Extract_any (rate num den size step kind points cep : Int) (diff ctr : Bool) (A : Option Addr) (n c : Nat) (xs : List Int) (Ae : Option Addr) (m ce : Nat) (es : List Int) (w : World)
    (h : Sl .i64 w A n c xs) (hA : A = none → c = 0) (he : Sl .i64 w Ae m ce es) (hT : Tab w) (hn : n ≤ 1000) :
    Calls Tryz.prog 13 #[.agg #[.int .i64 rate, .slice A n c], (rcV num den size step kind points (.slice Ae m ce) cep diff ctr)] w (ExtP (chkR rate xs = 0 ∧ RcP num den size step kind points cep es) (featL num den size step kind points.toNat cep es diff ctr xs) w) := by
  by_cases hV : chkR rate xs = 0 ∧ RcP num den size step kind points cep es
  · obtain ⟨p, hp⟩ : ∃ p : Nat, points = (p : Int) := ⟨points.toNat, by have := hV.2.2.2.1.1; omega⟩
    subst hp
    have hx := (Bool.and_eq_true _ _ ▸ (chkR_iff (by rw [h.len]; omega)).1 hV.1).2
    exact (Extract_ok rate num den size step kind cep p diff ctr A n c xs Ae m ce es w h hA he hT hn hV.1 hx hV.2).mono fun e w' h2 => .inl ⟨hV, h2⟩
  · obtain ⟨lb, h1, _, h3⟩ := len_split points
    exact (Extract_bad rate num den size step kind points cep diff ctr A n c xs Ae m ce es w h he lb h1 h3 (by
      by_cases h0 : chkR rate xs = 0
      · exact .inr fun h2 => hV ⟨h0, h2⟩
      · exact .inl h0)).mono fun e w' h2 => .inr ⟨hV, h2⟩

/-- the same answer of both -/
theorem Valid_both (num den size step kind points cep : Int) (diff ctr : Bool) (Ae : Option Addr) (m ce : Nat) (es : List Int) :
    (∀ w : World, Sl .i64 w Ae m ce es → Calls Tryz.prog 14 #[(rcV num den size step kind points (.slice Ae m ce) cep diff ctr)] w (FVP (RcP num den size step kind points cep es) w)) ∧ (∀ w : World, Sl .i64 w Ae m ce es → Calls Tryz.prog 15 #[(rcV num den size step kind points (.slice Ae m ce) cep diff ctr)] w (FVP (RcP num den size step kind points cep es) w)) := by
  obtain ⟨lb, h1, h2, h3⟩ := len_split points
  exact ⟨fun w he => FValid_any num den size step kind points cep Ae m ce es diff ctr w he lb h1 h3, fun w he => RValidR_any num den size step kind points cep Ae m ce es diff ctr w he lb h2 h3⟩

end Go.Proofs.YtoljffghaklpdaaGreatDoor
