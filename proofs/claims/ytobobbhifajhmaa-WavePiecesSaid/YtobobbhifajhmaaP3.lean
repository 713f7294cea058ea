/- The frames of a list: the program's own. -/
import Derived.Test.YtobobbhifajhmaaP2
import Derived.Test.YtobobbhifajhmaaR4
namespace Go.Proofs.Ytobobbhifajhmaa
open Go.RowKit Go.Shelf
attribute [local go_sem] Oper.semAt_some

/-- the cells of a list of n rows of s elements each, row r in block G r -/
def rowV (G : Nat → Nat) (s n : Nat) : List Value := (List.range n).map fun r => .slice (some ⟨G r, 0, none⟩) s s
theorem rowV_len (G : Nat → Nat) (s n : Nat) : (rowV G s n).length = n := by simp [rowV]
theorem rowV_snoc (G : Nat → Nat) (s n g : Nat) : rowV (fun r => if r = n then g else G r) s (n + 1) = rowV G s n ++ [.slice (some ⟨g, 0, none⟩) s s] := by
  unfold rowV
  rw [List.range_succ, List.map_append]
  congr 1
  · apply List.map_congr_left
    intro r hr
    have := List.mem_range.1 hr
    simp [show ¬ r = n by omega]
  · simp
theorem blk_type {W : World} {g g' : Nat} {t e : TypeId} {cs : Array Value} {base size n cap : Nat} {xs : List Value} (h : Blk W g t cs) (ho : W.ownsRow base e size (.slice (some ⟨g', 0, none⟩) n cap) n xs) (hte : t ≠ e) : g ≠ g' := by
  rintro rfl
  rcases ho.2 with ⟨h2, _⟩ | ⟨g2, cap2, cur, h2, h3, h4, _⟩
  · cases h2
  · injection h2 with h5 h6 h7
    injection h5 with h5
    injection h5 with h5
    subst h5
    unfold Blk at h
    rw [h] at h4
    injection h4 with h4
    injection h4 with h4 h6
    exact hte h6
theorem blk_row {W : World} {g : Nat} {t e : TypeId} {cs : Array Value} {base size n : Nat} {V : Value} {xs : List Value} (h : Blk W g t cs) (ho : W.ownsRow base e size V n xs) (hte : t ≠ e) : some g ≠ V.ownBlock := by
  rcases ho.2 with ⟨rfl, _⟩ | ⟨g2, cap2, cur, rfl, _⟩
  · simp [Value.ownBlock]
  · intro e2
    simp only [Value.ownBlock, Option.some.injEq] at e2
    exact blk_type h ho hte e2
theorem Blk.kept {W W' : World} {row : Option Nat} {g : Nat} {t : TypeId} {cs : Array Value} (h : Blk W g t cs) (hg : W.grownBy W' row) (hr : ∀ r, row = some r → ∃ o : Obj, W.heap[r]? = some o ∧ o.isCells = false) : Blk W' g t cs :=
  h.grown hg (fun e => by
    obtain ⟨o, ho, hc⟩ := hr g e.symm
    unfold Blk at h
    rw [h] at ho
    cases ho
    cases hc)
theorem Sl.kept {k : IntKind} {W W' : World} {A : Option Addr} {n c : Nat} {xs : List Int} {row : Option Nat} (h : Sl k W A n c xs) (hg : W.grownBy W' row) (hr : ∀ r, row = some r → ∃ o : Obj, W.heap[r]? = some o ∧ o.isCells = false) : Sl k W' A n c xs :=
  ⟨h.len, h.cap, h.top, fun hn => by
    obtain ⟨ad, e, hc⟩ := h.cell hn
    exact ⟨ad, e, fun j x hx => cell_kept (hc j x hx) hg hr⟩⟩
theorem own_kept {W W' : World} {base e size n : Nat} {V : Value} {xs : List Value} {row : Option Nat} (h : W.ownsRow base e size V n xs) (hg : W.grownBy W' row) (hr : ∀ r, row = some r → ∃ o : Obj, W.heap[r]? = some o ∧ o.isCells = false) : W'.ownsRow base e size V n xs := by
  obtain ⟨hl, h2⟩ := h
  rcases h2 with h2 | ⟨g, cap, cur, rfl, h3, h4, h5⟩
  · exact ⟨hl, .inl h2⟩
  · refine ⟨hl, .inr ⟨g, cap, cur, rfl, h3, ?_, h5⟩⟩
    exact Blk.kept (cs := cur) (t := e) (g := g) h4 hg hr

theorem own_bel {W W' : World} {base e size n : Nat} {V : Value} {xs : List Value} (h : W.ownsRow base e size V n xs) (hb : Below W.heap.size W W') : W'.ownsRow base e size V n xs := own_kept h (grown_none hb) (fun r e => by cases e)
theorem own_cells {W : World} {base e size g n cap : Nat} {xs : List Value} (h : W.ownsRow base e size (.slice (some ⟨g, 0, none⟩) n cap) n xs) : ∃ cur, W.heap[g]? = some (.cells cur e (0, 0)) := by
  rcases h.2 with ⟨h2, _⟩ | ⟨g2, cap2, cur, h2, h3, h4, _⟩
  · cases h2
  · injection h2 with h5 h6 h7
    injection h5 with h5
    injection h5 with h5
    subst h5
    exact ⟨cur, h4⟩
theorem own_blk {W W' : World} {base e size g n cap : Nat} {xs : List Value} (h : W.ownsRow base e size (.slice (some ⟨g, 0, none⟩) n cap) n xs) (hb : W'.heap[g]? = W.heap[g]?) : W'.ownsRow base e size (.slice (some ⟨g, 0, none⟩) n cap) n xs := by
  obtain ⟨hl, h2⟩ := h
  rcases h2 with h2 | ⟨g2, cap2, cur, h2, h3, h4, h5⟩
  · exact ⟨hl, .inl h2⟩
  · injection h2 with h6 h7 h8
    injection h6 with h6
    injection h6 with h6
    subst h6 h8
    exact ⟨hl, .inr ⟨g, cap, cur, rfl, h3, hb.trans h4, h5⟩⟩
theorem blk_ne {W : World} {g g' : Nat} {t t' : TypeId} {cs cs' : Array Value} (h : Blk W g t cs) (h' : Blk W g' t' cs') (ht : t ≠ t') : g ≠ g' := by
  rintro rfl
  unfold Blk at h h'
  rw [h] at h'
  injection h' with h'
  injection h' with h1 h2
  exact ht h2
theorem Rs.kept {W W' : World} {A : Option Addr} {n c : Nat} {B : Nat → Option Addr} {L C : Nat → Nat} {X : Nat → List Int} {row : Option Nat} (h : Rs W A n c B L C X) (hg : W.grownBy W' row) (hr : ∀ r, row = some r → ∃ o : Obj, W.heap[r]? = some o ∧ o.isCells = false) : Rs W' A n c B L C X :=
  ⟨h.cap, h.top, fun hn => by
    obtain ⟨ad, e, hc⟩ := h.cell hn
    exact ⟨ad, e, fun r hlt => cell_kept (hc r hlt) hg hr⟩, fun r hlt => (h.row r hlt).kept hg hr, h.nil, h.few⟩
/-- a list of the call's own of t rows of the call's own -/
structure OwnRs (W : World) (base : Nat) (V : Value) (t : Nat) (G : Nat → Nat) (s : Nat) (X : Nat → List Int) : Prop where
  own : W.ownsRow base 22 1 V t (rowV G s t)
  mks : ∀ r, r < t → Mk W (G r) 3 .i64 (X r)
  len : ∀ r, r < t → (X r).length = s
theorem OwnRs.rs {W : World} {base : Nat} {V : Value} {t : Nat} {G : Nat → Nat} {s : Nat} {X : Nat → List Int} (h : OwnRs W base V t G s X) (hs : s ≤ 17592186044416) : ∃ A c, V = .slice A t c ∧ Rs W A t c (fun r => some ⟨G r, 0, none⟩) (fun _ => s) (fun _ => s) X := by
  rcases h.own.2 with ⟨rfl, rfl⟩ | ⟨g, cap, cur, rfl, h3, h4, h5, h6, h7, h8⟩
  · exact ⟨none, 0, rfl, ⟨Nat.le_refl _, by decide, fun h => absurd h (by omega), fun r h => absurd h (by omega), fun r h => absurd h (by omega), fun r h => absurd h (by omega)⟩⟩
  · refine ⟨some ⟨g, 0, none⟩, cap, rfl, ⟨h5, by simpa [maxLen] using h6, fun hn => ⟨_, rfl, fun r hr => ?_⟩, fun r hr => (h.mks r hr).sl (h.len r hr) (by omega), fun r hr e => (by cases e), fun r hr => hs⟩⟩
    have := h.own.cells (g := g) rfl r (.slice (some ⟨G r, 0, none⟩) s s) (by simp [rowV, hr])
    exact this

/-- the call returned rows beside a code -/
def RetRs (w : World) (n : Nat) (X : Nat → List Int) (code : Int) (e : Ending) (w' : World) : Prop :=
  ∃ A c B L C, e = .returned (.tuple #[.slice A n c, .int .i64 code]) ∧ Rs w' A n c B L C X ∧ Below w.heap.size w w'
theorem rs_nil (w : World) (X : Nat → List Int) : Rs w none 0 0 (fun _ => none) (fun _ => 0) (fun _ => 0) X :=
  ⟨Nat.le_refl _, by decide, fun h => absurd h (by omega), fun r h => absurd h (by omega), fun r h => absurd h (by omega), fun r h => absurd h (by omega)⟩

/-- the code of frames -/
def frC (xs : List Int) (size step : Int) (pad : Bool) : Int :=
  if chkV xs = 0 then (if (okB 1 4096 size && okB 1 4096 step) = true then (if 4000000 < fcount xs.length size.toNat step.toNat pad * size.toNat then 5 else 0) else 2) else chkV xs

set_option maxHeartbeats 1600000 in
set_option maxRecDepth 100000 in
theorem Frames_arg (A : Option Addr) (n c : Nat) (xs : List Int) (size step : Int) (pad : Bool) (w : World) (h : Sl .i64 w A n c xs) (hv : ¬ chkV xs = 0 ∨ (okB 1 4096 size && okB 1 4096 step) = false) :
    Calls Try.prog 37 #[.slice A n c, .int .i64 size, .int .i64 step, .bool pad] w (RetRs w 0 (fun _ => []) (frC xs size step pad)) := by
  by_cases hc : chkV xs = 0
  · have hv := hv.resolve_left (fun e => e hc)
    have hr := Lib.hid (show frC xs size step pad = 2 by unfold frC; rw [if_pos hc, hv]; rfl)
    have hC := Lib.hid (checkValues_any A n c xs w h)
    rw [show chk (-2147483647) 2147483647 xs = 0 from hc] at hC
    clear hc
    cases h1 : okB 1 4096 size with
    | false =>
      go_enter Try.func37, Try.ntmps37
      go_wp2_with (first | (go_at_call 80; refine hC.out.mono ?_; rintro e w' ⟨rfl, rfl⟩) | (go_at_call 70; refine (within_any _ _ _ _).mono ?_; rintro e w' ⟨rfl, rfl⟩))
      go_ret2
      exact ⟨none, 0, _, _, _, by rw [hr.out]; rfl, rs_nil _ _, Below.refl _ _⟩
    | true =>
      rw [h1, Bool.true_and] at hv
      go_enter Try.func37, Try.ntmps37
      go_wp2_with (first | (go_at_call 80; refine hC.out.mono ?_; rintro e w' ⟨rfl, rfl⟩) | (go_at_call 70; refine (within_any _ _ _ _).mono ?_; rintro e w' ⟨rfl, rfl⟩))
      go_ret2
      exact ⟨none, 0, _, _, _, by rw [hr.out]; rfl, rs_nil _ _, Below.refl _ _⟩
  · have hr := Lib.hid (show frC xs size step pad = chkV xs by unfold frC; rw [if_neg hc])
    have hC := Lib.hid (checkValues_any A n c xs w h)
    rw [show chk (-2147483647) 2147483647 xs = chkV xs from rfl] at hC
    generalize chkV xs = k at *
    have hkb : (k == 0) = false := by simpa using hc
    have hkb2 : (k != 0) = true := by simpa using hc
    clear hv
    go_enter Try.func37, Try.ntmps37
    go_wp2_with (go_at_call 80; refine hC.out.mono ?_; rintro e w' ⟨rfl, rfl⟩)
    go_ret2
    exact ⟨none, 0, _, _, _, by rw [hr.out]; rfl, rs_nil _ _, Below.refl _ _⟩
end Go.Proofs.Ytobobbhifajhmaa
