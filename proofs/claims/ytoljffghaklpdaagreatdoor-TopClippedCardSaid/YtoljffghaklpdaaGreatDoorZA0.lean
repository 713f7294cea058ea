/- Appending a whole slice, nil or not, empty or not, to a row of the call's own. Nothing here speaks of a program's own functions. -/
import Derived.Test.YtoljffghaklpdaaGreatDoorHM
import Derived.Test.YtoljffghaklpdaaGreatDoorJA
import Derived.Test.YtoljffghaklpdaaGreatDoorVMem
import Derived.Laws.AppendOwnNone
import Derived.Laws.OwnMore
import Derived.Deep.AppendLies
import Derived.Maps.AppendAt
import Derived.Test.YtoljffghaklpdaaGreatDoorZP6
import Derived.Test.YtoljffghaklpdaaGreatDoorZL5
import Derived.Test.YtoljffghaklpdaaGreatDoorZK0
namespace Go.Proofs.YtoljffghaklpdaaGreatDoor
open Go.RowKit

section
variable {P : Program} {w : World} {o : Oper} {a : Act} {Q : Exit → Act → World → Prop}
end
end Go.Proofs.YtoljffghaklpdaaGreatDoor


/- The document's own gate. -/
namespace Go.Proofs.YtoljffghaklpdaaGreatDoor
open Go.RowKit

theorem gtB_no {b h l r f d x : Int} (hn : ¬ (1 ≤ b ∧ b ≤ 4096 ∧ 0 ≤ l ∧ l ≤ h ∧ h ≤ 1073741824 ∧ 1 ≤ r ∧ r ≤ 1000 ∧ 1 ≤ f ∧ f ≤ 1000 ∧ 0 ≤ d ∧ d ≤ 1000 ∧ r + f + d ≤ x ∧ x ≤ 100000)) : gtB b h l r f d x = false := by
  cases hv : gtB b h l r f d x with
  | false => rfl
  | true =>
    unfold gtB at hv
    simp only [Bool.and_eq_true, okB_iff] at hv
    omega
theorem gtB_yes {b h l r f d x : Int} (hn : 1 ≤ b ∧ b ≤ 4096 ∧ 0 ≤ l ∧ l ≤ h ∧ h ≤ 1073741824 ∧ 1 ≤ r ∧ r ≤ 1000 ∧ 1 ≤ f ∧ f ≤ 1000 ∧ 0 ≤ d ∧ d ≤ 1000 ∧ r + f + d ≤ x ∧ x ≤ 100000) : gtB b h l r f d x = true := by
  unfold gtB
  simp only [Bool.and_eq_true, okB_iff]
  omega

end Go.Proofs.YtoljffghaklpdaaGreatDoor


/- The listener once more: what lies where behind Feed, Close, At and Segments; rows of segments as sources of appends. -/
namespace Go.Proofs.YtoljffghaklpdaaGreatDoor
open Go.RowKit

theorem Feed_closed (g : Nat) (A : Option Addr) (n c : Nat) (xs : List Int) (m : Nat) (w : World) (h : Closed w g m) (hS : Sl .i64 w A n c xs) (code : Int) (hc : (if chk (-32768) 32767 xs = 0 then 8 else chk (-32768) 32767 xs) = code) :
    Calls Tryz.prog 93 #[.pointer (some ⟨g, 0, none⟩), .slice A n c] w fun e w' => e = .returned (.tuple #[.slice none 0 0, .int .i64 code]) ∧ w = w' := by
  unfold Closed at h
  have c7 := h.c7
  rcases chk_cases (-32768) 32767 xs with ⟨_, h2⟩ | ⟨_, _, h2⟩ | ⟨_, _, h2⟩
  all_goals
    rw [h2] at hc
    have hc := Lib.hid hc
    have h2 := Lib.hid h2
    go_enter Tryz.func93, Tryz.ntmps93
    go_wp2_with fail
    refine (isMissing_any _ _ _ _ _ _ _ _ _ h).mono ?_
    rintro e w' ⟨rfl, rfl⟩
    go_wp2_with (go_at_call 142; refine (checkSamples_any _ _ _ _ _ hS).mono ?_; rintro e w' ⟨rfl, rfl⟩; rw [h2.out])
    go_ret2
    exact ⟨by rw [← hc.out]; rfl, rfl⟩

theorem oneCell2' (a b : Int) : ∀ u ∈ sgv [(a, b)], u.oneCell' = true := oneCell_sgv _
/-- what Close returns -/
def RetC (w : World) (g gr : Nat) (G : Gt) (all : List Int) (e : Ending) (w' : World) : Prop :=
  ∃ A c, e = .returned (.tuple #[.slice A (lastS G all).length c, .int .i64 0]) ∧ Src w' A (lastS G all).length c (sgv (lastS G all)) 2 ∧ (lastS G all).length ≤ 1 ∧ Hid (∀ ad, A = some ad → w.heap.size ≤ ad.block) ∧ Closed w' g all.length ∧ Two g gr w w'
theorem Close_any (g gr : Nat) (all : List Int) (w : World) (G : Gt) (hG : G.Ok) (h : Lis w g gr G all) : Calls Tryz.prog 94 #[.pointer (some ⟨g, 0, none⟩)] w (RetC w g gr G all) := by
  cases hs : (endM G all).sp with
  | false =>
    refine (Close_wait g gr all w G h hs).mono ?_
    rintro e w' ⟨rfl, h1, h2⟩
    unfold RetC
    rw [lastS_wait hs]
    exact ⟨none, 0, rfl, Src.nil _ _, Nat.zero_le _, fun ad e => by (cases e), h1, h2⟩
  | true =>
    refine (Close_speech g gr all w G hG h hs).mono ?_
    rintro e w' ⟨gl, rfl, hB, hg, h1, h2⟩
    unfold RetC
    rw [lastS_speech hs]
    refine ⟨some ⟨gl, 0, none⟩, 1, rfl, ⟨rfl, fun e => by (cases e), fun ad e j u hu => ?_, oneCell2' _ _⟩, Nat.le_refl _, fresh_at hg, h1, h2⟩
    injection e with e
    subst e
    rw [add_new, hB.cell j]
    simpa [sgv] using hu

/-- the call returned a new slice with the segments ps beside the code -/
def RetO (w : World) (ps : List (Int × Int)) (code : Int) (e : Ending) (w' : World) : Prop :=
  ∃ v, e = .returned (.tuple #[v, .int .i64 code]) ∧ w'.ownsRow w.heap.size 61 2 v ps.length (sgv ps) ∧ Below w.heap.size w w'
set_option maxHeartbeats 1600000 in
theorem Segments_own (G : Gt) (hG : G.Ok) (A : Option Addr) (n c : Nat) (xs : List Int) (w : World) (hS : Sl .i64 w A n c xs) (hn : n ≤ 200000) (hx : allB (-32768) 32767 xs = true) :
    Calls Tryz.prog 37 #[.slice A n c, gval G] w (RetO w (segs G xs ++ lastS G xs) 0) := by
  have hcap := hS.cap
  have htop := hS.top
  have hLi := Lib.hid (fun w => Listen_any G hG w)
  unfold gval gtV at hLi ⊢
  have hb0 := (Below.refl w.heap.size w).alloc (Nat.le_refl _) (.cells #[.int .i64 G.B, .int .i64 G.H, .int .i64 G.L, .int .i64 G.R, .int .i64 G.F, .int .i64 G.D, .int .i64 G.X] 66)
  have hS0 := hS.alloc (.cells #[.int .i64 G.B, .int .i64 G.H, .int .i64 G.L, .int .i64 G.R, .int .i64 G.F, .int .i64 G.D, .int .i64 G.X] 66)
  have hblt := Lib.hid hS0.blt
  have hx := Lib.hid hx
  go_enter Tryz.func37, Tryz.ntmps37
  go_wp2_with (go_at_call 92; refine (hLi.out _).mono ?_; rintro e w1 ⟨g, gr, rfl, hL1, hb1, hg1, hg2⟩)
  refine (Feed_any g gr _ _ _ _ _ _ G hG hL1 (hS0.below hb1) hn hx.out (by simp; omega) (fun h ad he => by have := hblt.out h ad he; omega)).mono ?_
  rintro e w2 ⟨v, new, rfl, hown, hseg, hL2, hT2⟩
  rw [List.nil_append] at hseg hL2
  have hnew : new = segs G xs := by have := hseg.out; rw [show segs G [] = [] by unfold segs; rw [show ([] : List Int).length / G.B = 0 from Nat.zero_div _]; rfl, List.nil_append] at this; exact this.symm
  subst hnew
  clear hseg
  have hln := segs_len G xs
  rw [hS.len] at hln
  have hw1 := hb0.trans (hb1.mono hb0.size)
  have hw2 := hw1.trans (hT2.below (B := w.heap.size) (by have := hb0.size; omega) (by have := hb0.size; omega) hw1.size)
  obtain ⟨i0, hi, hz0, hz1, hz2⟩ := info_parts info_seg
  have hsz0 := hb0.size
  cases hs : (endM G xs).sp with
  | false =>
    have hla := Lib.hid (lastS_wait hs)
    have hs' := Lib.hid hs
    clear hs
    go_wp2_with fail
    refine (Close_wait g gr xs _ G hL2 hs'.out).mono ?_
    rintro e w3 ⟨rfl, hC, hT3⟩
    have hown3 := own_two hown hT3 (by have := Blk.lt hL1.lb; omega) (by obtain ⟨rs, hR, _⟩ := hL1.ring; exact hR.lt)
    have hw3 := hw2.trans (hT3.below (B := w.heap.size) (by omega) (by omega) hw2.size)
    go_wp2_with (at_builtin; refine wpList_append_own_none rfl (.tmp 35) (.tmp 36) 71 rfl w1.heap.size 61 i0 2 Tryz.underlying71 hi v (segs G xs).length (sgv (segs G xs)) rfl hown3 rfl ?_)
    go_ret2
    exact ⟨v, rfl, by rw [hla.out, List.append_nil]; exact own_mono hown3 hw1.size, hw3⟩
  | true =>
    have hla := Lib.hid (lastS_speech hs)
    have hs' := Lib.hid hs
    clear hs
    go_wp2_with fail
    refine (Close_speech g gr xs _ G hG hL2 hs'.out).mono ?_
    rintro e w3 ⟨gl, rfl, hBl, hgl, hC, hT3⟩
    have hown3 := own_two hown hT3 (by have := Blk.lt hL1.lb; omega) (by obtain ⟨rs, hR, _⟩ := hL1.ring; exact hR.lt)
    have hw3 := hw2.trans (hT3.below (B := w.heap.size) (by omega) (by omega) hw2.size)
    generalize (endM G xs).first * (G.B : Int) = q1 at *
    generalize hq2 : (xs.length : Int) = q2 at *
    have hq2' := Lib.hid hq2
    clear hq2
    have hnews : ∀ j u, ([.int .i64 q1, .int .i64 q2] : List Value)[j]? = some u → w3.cell? ((⟨gl, 0, none⟩ : Addr).add j) = some u := fun j u hu => by
      rw [add_new, hBl.cell j]; simpa using hu
    have hnews := Lib.hid hnews
    go_wp2_with (at_builtin; refine wpList_append_own _ rfl (.tmp 35) (.tmp 36) 71 rfl w1.heap.size 61 i0 (.agg #[.int .i64 0, .int .i64 0]) 2 16 Tryz.underlying71 hi hz0 hz1 hz2 rfl (by decide) v (segs G xs).length (sgv (segs G xs)) rfl hown3 ⟨gl, 0, none⟩ 1 1 [.int .i64 q1, .int .i64 q2] rfl rfl hnews.out ?k2 ?k3 ?k4 ?k5 ?_)
    case k2 => intro u hu; simp at hu; rcases hu with rfl | rfl <;> rfl
    case k3 => unfold maxLen; omega
    case k4 => omega
    case k5 => have := hw3.size; have := hT2.size; have := hT3.size; omega
    intro v5 w5 hown5 hg5 _
    have hlen5 : (segs G xs ++ [(q1, q2)]).length = (segs G xs).length + 1 := by simp
    have hown6 : w5.ownsRow w1.heap.size 61 2 v5 (segs G xs ++ [(q1, q2)]).length (sgv (segs G xs ++ [(q1, q2)])) := by rw [hlen5, sgv_app]; exact hown5
    have hb5 : Below w.heap.size w w5 := hw3.grown hg5 hw3.size (fun k hk => Nat.le_trans hw1.size (hown3.lt k hk).1)
    have hres : segs G xs ++ lastS G xs = segs G xs ++ [(q1, q2)] := by rw [hla.out]
    have hres := Lib.hid hres
    clear hown5 hlen5
    go_wp2
    go_ret2
    exact ⟨v5, rfl, by rw [hres.out]; exact own_mono hown6 hw1.size, hb5⟩
end Go.Proofs.YtoljffghaklpdaaGreatDoor
