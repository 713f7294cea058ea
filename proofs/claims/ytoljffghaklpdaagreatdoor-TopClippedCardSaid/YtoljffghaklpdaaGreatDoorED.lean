/- The document's own check of a recipe. -/
import Derived.Test.YtoljffghaklpdaaGreatDoorEA
import Derived.Test.YtoljffghaklpdaaGreatDoorZE0
import Derived.Test.YtoljffghaklpdaaGreatDoorHA
import Derived.Test.YtoljffghaklpdaaGreatDoorEJ
import Derived.Test.YtoljffghaklpdaaGreatDoorEL
import Derived.Test.YtoljffghaklpdaaGreatDoorJA
import Derived.Test.YtoljffghaklpdaaGreatDoorHV
namespace Go.Proofs.YtoljffghaklpdaaGreatDoor
open Go.RowKit

set_option maxHeartbeats 3200000 in
set_option maxRecDepth 20000 in
theorem RValidR_bad (num den size step kind points cep : Int) (A : Option Addr) (n c : Nat) (es : List Int) (diff ctr : Bool) (w : World) (h : Sl .i64 w A n c es) (lb : Bool) (hlb : ∀ w0 : World, Calls Tryz.prog 57 #[.int .i64 points] w0 fun e w' => e = .returned (.bool lb) ∧ w' = w0)
    (hbad : shpB num den = false ∨ lb = false ∨ ¬ 1 ≤ size ∨ ¬ size ≤ points ∨ ¬ 1 ≤ step ∨ ¬ step ≤ 4096 ∨ ¬ EdP es points ∨ ¬ n ≤ 33) :
    Calls Tryz.prog 15 #[rcV num den size step kind points (.slice A n c) cep diff ctr] w fun e w' => e = .returned (.bool false) ∧ Below w.heap.size w w' := by
  have h1 := h.alloc (.cells #[.int .i64 num, .int .i64 den, .int .i64 size, .int .i64 step, .int .i64 kind, .int .i64 points, .slice A n c, .int .i64 cep, .bool diff, .bool ctr] 33)
  have hb0 := (Below.refl w.heap.size w).alloc (Nat.le_refl _) (.cells #[.int .i64 num, .int .i64 den, .int .i64 size, .int .i64 step, .int .i64 kind, .int .i64 points, .slice A n c, .int .i64 cep, .bool diff, .bool ctr] 33)
  unfold rcV
  rcases Bool.eq_false_or_eq_true (shpB num den) with hS | hS
  case inr =>
    have hS := Lib.hid hS
    clear hbad
    go_enter Tryz.func15, Tryz.ntmps15
    go_wp2_with (first
      | (go_at_call 56; refine (Shape_any _ _ _).mono ?_; rintro e w' ⟨he, rfl⟩; rw [hS.out] at he; subst he)
        | (go_at_call 57; refine (hlb _).mono ?_; rintro e w' ⟨he, rfl⟩))
    go_ret
    first | exact ⟨rfl, hb0⟩ | exact ⟨rfl, bel_drewN hb0 _⟩
  rw [hS] at hbad
  have hS := Lib.hid hS
  rcases Bool.eq_false_or_eq_true lb with hL | hL
  case inr =>
    have hL := Lib.hid hL
    clear hbad
    go_enter Tryz.func15, Tryz.ntmps15
    go_wp2_with (first
      | (go_at_call 56; refine (Shape_any _ _ _).mono ?_; rintro e w' ⟨he, rfl⟩; rw [hS.out] at he; subst he)
      | (go_at_call 57; refine (hlb _).mono ?_; rintro e w' ⟨he, rfl⟩; rw [hL.out] at he; subst he))
    go_ret
    first | exact ⟨rfl, hb0⟩ | exact ⟨rfl, bel_drewN hb0 _⟩
  rw [hL] at hbad
  have hL := Lib.hid hL
  by_cases g0 : 1 ≤ size
  case neg =>
    have g0' : size < 1 := by omega
    have g0d : decide (size < 1) = true := decide_eq_true g0'
    clear hbad
    go_enter Tryz.func15, Tryz.ntmps15
    go_wp2_with (first
      | (go_at_call 56; refine (Shape_any _ _ _).mono ?_; rintro e w' ⟨he, rfl⟩; rw [hS.out] at he; subst he)
      | (go_at_call 57; refine (hlb _).mono ?_; rintro e w' ⟨he, rfl⟩; rw [hL.out] at he; subst he))
    go_ret
    first | exact ⟨rfl, hb0⟩ | exact ⟨rfl, bel_drewN hb0 _⟩
  have g0n : ¬ size < 1 := by omega
  have g0d : decide (size < 1) = false := decide_eq_false g0n
  by_cases g1 : size ≤ points
  case neg =>
    have g1' : points < size := by omega
    have g1d : decide (points < size) = true := decide_eq_true g1'
    clear hbad
    go_enter Tryz.func15, Tryz.ntmps15
    go_wp2_with (first
      | (go_at_call 56; refine (Shape_any _ _ _).mono ?_; rintro e w' ⟨he, rfl⟩; rw [hS.out] at he; subst he)
      | (go_at_call 57; refine (hlb _).mono ?_; rintro e w' ⟨he, rfl⟩; rw [hL.out] at he; subst he))
    go_ret
    first | exact ⟨rfl, hb0⟩ | exact ⟨rfl, bel_drewN hb0 _⟩
  have g1n : ¬ points < size := by omega
  have g1d : decide (points < size) = false := decide_eq_false g1n
  by_cases g2 : 1 ≤ step
  case neg =>
    have g2' : step < 1 := by omega
    have g2d : decide (step < 1) = true := decide_eq_true g2'
    clear hbad
    go_enter Tryz.func15, Tryz.ntmps15
    go_wp2_with (first
      | (go_at_call 56; refine (Shape_any _ _ _).mono ?_; rintro e w' ⟨he, rfl⟩; rw [hS.out] at he; subst he)
      | (go_at_call 57; refine (hlb _).mono ?_; rintro e w' ⟨he, rfl⟩; rw [hL.out] at he; subst he))
    go_ret
    first | exact ⟨rfl, hb0⟩ | exact ⟨rfl, bel_drewN hb0 _⟩
  have g2n : ¬ step < 1 := by omega
  have g2d : decide (step < 1) = false := decide_eq_false g2n
  by_cases g3 : step ≤ 4096
  case neg =>
    have g3' : 4096 < step := by omega
    have g3d : decide (4096 < step) = true := decide_eq_true g3'
    clear hbad
    go_enter Tryz.func15, Tryz.ntmps15
    go_wp2_with (first
      | (go_at_call 56; refine (Shape_any _ _ _).mono ?_; rintro e w' ⟨he, rfl⟩; rw [hS.out] at he; subst he)
      | (go_at_call 57; refine (hlb _).mono ?_; rintro e w' ⟨he, rfl⟩; rw [hL.out] at he; subst he))
    go_ret
    first | exact ⟨rfl, hb0⟩ | exact ⟨rfl, bel_drewN hb0 _⟩
  have g3n : ¬ 4096 < step := by omega
  have g3d : decide (4096 < step) = false := decide_eq_false g3n
  by_cases hE : EdP es points
  case neg =>
    clear hbad
    go_enter Tryz.func15, Tryz.ntmps15
    go_wp2_with (first
      | (go_at_call 56; refine (Shape_any _ _ _).mono ?_; rintro e w' ⟨he, rfl⟩; rw [hS.out] at he; subst he)
      | (go_at_call 57; refine (hlb _).mono ?_; rintro e w' ⟨he, rfl⟩; rw [hL.out] at he; subst he)
      | (go_at_call 58; refine (REdges_any _ _ _ es points _ h1).mono ?_; rintro e w' ⟨b, r, rfl, hbe, rfl⟩; (obtain rfl : b = false := by cases b with | false => rfl | true => exact absurd (hbe.1 rfl) hE)))
    go_ret
    first | exact ⟨rfl, hb0⟩ | exact ⟨rfl, bel_drewN hb0 _⟩
  have h33 : ¬ n ≤ 33 := by rcases hbad with h | h | h | h | h | h | h | h <;> first | (cases h; done) | exact absurd ‹_› h | exact h
  have g9 : (33 : Int) < (n : Int) := by omega
  have g9d : decide ((33 : Int) < (n : Int)) = true := decide_eq_true g9
  clear hbad
  have g9m : 33 < n := by omega
  have g9e : decide (33 < n) = true := decide_eq_true g9m
  clear h33 g9
  have hE := Lib.hid hE
  go_enter Tryz.func15, Tryz.ntmps15
  go_wp2_with (first
    | (go_at_call 56; refine (Shape_any _ _ _).mono ?_; rintro e w' ⟨he, rfl⟩; rw [hS.out] at he; subst he)
    | (go_at_call 57; refine (hlb _).mono ?_; rintro e w' ⟨he, rfl⟩; rw [hL.out] at he; subst he)
    | (go_at_call 58; refine (REdges_any _ _ _ es points _ h1).mono ?_; rintro e w' ⟨b, r, rfl, hbe, rfl⟩; (obtain rfl : b = true := hbe.2 hE.out; clear hbe)))
  go_ret
  first | exact ⟨rfl, hb0⟩ | exact ⟨rfl, bel_drewN hb0 _⟩
end Go.Proofs.YtoljffghaklpdaaGreatDoor


/- Cepstra: the document's, and the law's walk. -/
namespace Go.Proofs.YtoljffghaklpdaaGreatDoor
open Go.RowKit

set_option maxHeartbeats 800000 in
theorem RPadded_any (n : Nat) (w : World) (hn : n ≤ 64) : Calls Tryz.prog 60 #[.int .i64 (n : Int)] w fun e w' => e = .returned (.int .i64 (pd n)) ∧ ∃ k, w' = w.drewN k := by
  have h1 := Lib.hid (pd_next n hn)
  have h2 := Lib.hid (pd_end n hn)
  have h3 := pd_bd hn
  go_enter Tryz.func60, Tryz.ntmps60
  go_wp2
  go_loopw [3] (fun iv wr => ∃ L r : Nat, iv = .int .i64 L ∧ wr = w.drewN r ∧ L ≤ pd n ∧ Hid (isP L) ∧ 1 ≤ L) (fun iv _ => 64 - (intOf iv).toNat)
  case atStart => exact ⟨1, 0, rfl, rfl, h3.2.1, Or.inl rfl, by decide⟩
  case round =>
    obtain ⟨L, r, rfl, rfl, hL, hm, hp⟩ := hrel
    rcases Nat.lt_or_ge L n with hlt | hge
    · have h4 := h1.out L hm.out hL hlt
      have h5 := h4.1
      have h6 := Lib.hid h4.2
      have hd : decide ((L : Int) < (n : Int)) = true := decide_eq_true (by omega)
      have hd2 : decide ((L : Int) < 64) = true := decide_eq_true (by omega)
      clear h4
      go_wp2
      go_roundw
      case rel => exact ⟨2 * L, r, by go_num, rfl, h5, h6, by omega⟩
      case measure => simp [intOf]; omega
    · have h4 := Lib.hid (h2.out L hm.out hL hge)
      have hd : decide ((L : Int) < (n : Int)) = false := decide_eq_false (by omega)
      go_wp2
      go_ret
      exact ⟨ret_int (by first | rfl | rw [h4.out]), r, rfl⟩

set_option maxRecDepth 100000 in
theorem Rextended_any (A : Option Addr) (n c m : Nat) (xs : List Int) (w : World) (h : Sl .i64 w A n c xs) (hn : 0 < n) (hm : n ≤ m) (hm2 : m ≤ 1000000) :
    Calls Tryz.prog 66 #[.slice A n c, .int .i64 (m : Int)] w fun e w' =>
      ∃ g, e = .returned (.slice (some ⟨g, 0, none⟩) m m) ∧ Mk w' g 3 .i64 (xs ++ zs (m - n)) ∧ Below w.heap.size w w' ∧ w.heap.size ≤ g := by
  have hl := Lib.hid h.len
  have hcap := h.cap
  have htop := h.top
  obtain ⟨ad, rfl, _⟩ := h.cell hn
  have hmk := make_int m (by omega) w
  have h1 := h.alloc (.cells (ivs .i64 (zs m)).toArray 3)
  have hM := Mk.new w 3 .i64 (zs m)
  have hb := (Below.refl w.heap.size w).alloc (Nat.le_refl _) (.cells (ivs .i64 (zs m)).toArray 3)
  have hcl := Lib.hid (show (ivs .i64 xs).length = n by rw [ivs_len, hl.out])
  have hc1 := Lib.hid (show (ivs .i64 xs).length = Nat.min n m by rw [hcl.out]; exact (Nat.min_eq_left hm).symm)
  have hc3 := Lib.hid (show 0 + (ivs .i64 xs).length ≤ (ivs .i64 (zs m)).toArray.size by rw [hcl.out]; simp [ivs_len, zs_len]; omega)
  have hnews := Lib.hid h1.news
  have hrow := Lib.hid (show (ivs .i64 xs ++ List.drop (ivs .i64 xs).length (ivs .i64 (zs m))) = ivs .i64 (xs ++ zs (m - n)) by
    rw [hcl.out, ivs_app]
    congr 1
    unfold ivs zs
    rw [← List.map_drop, List.drop_replicate])
  have hR : Mk ((w.alloc (.cells (ivs .i64 (zs m)).toArray 3)).setRow w.heap.size (ivs .i64 (xs ++ zs (m - n))).toArray) w.heap.size 3 .i64 (xs ++ zs (m - n)) := setRow_heap (w.alloc (.cells (ivs .i64 (zs m)).toArray 3)) w.heap.size _ _ 3 (0, 0) hM
  have hb2 : Below w.heap.size w ((w.alloc (.cells (ivs .i64 (zs m)).toArray 3)).setRow w.heap.size (ivs .i64 (xs ++ zs (m - n))).toArray) := below_setRow hb (Nat.le_refl _) _
  go_enter Tryz.func66, Tryz.ntmps66
  go_wp2_with (refine wpList_copy_own rfl (.tmp 8) (.tmp 9) 28 28 rfl 3 Tryz.underlying28 info_int1 w.heap.size 0 m m ad n c rfl rfl (ivs .i64 (zs m)).toArray 3 hM (ivs .i64 xs) hc1.out hnews.out hc3.out (oneCell_ivs _ _) ?_)
  rw [hrow.out]
  generalize (w.alloc (.cells (ivs .i64 (zs m)).toArray 3)).setRow w.heap.size (ivs .i64 (xs ++ zs (m - n))).toArray = w2 at *
  go_ret
  exact ⟨_, rfl, hR, hb2, Nat.le_refl _⟩

theorem cpOk_all {xs : List Int} {count : Int} (h : cpOk xs count = true) : (1 ≤ (xs.length : Int) ∧ (xs.length : Int) ≤ 64) ∧ (1 ≤ count ∧ count ≤ pd xs.length) ∧ allB (-65536) 65536 xs = true := by
  unfold cpOk at h
  simp only [Bool.and_eq_true] at h
  exact ⟨okB_iff.1 h.1, okB_iff.1 h.2.1, h.2.2⟩

set_option maxHeartbeats 800000 in
theorem RCepstrum_any (A : Option Addr) (n c : Nat) (xs : List Int) (m : Nat) (w : World) (h : Sl .i64 w A n c xs) (hT : Tab w) (hk : cpOk xs m = true) :
    Calls Tryz.prog 67 #[.slice A n c, .int .i64 (m : Int)] w fun e w' => ∃ A' c', e = .returned (.slice A' m c') ∧ Sl .i64 w' A' m c' (cpL xs m) ∧ Below w.heap.size w w' := by
  have hl := Lib.hid h.len
  have hcap := h.cap
  have htop := h.top
  obtain ⟨⟨hn1, hn2⟩, ⟨hc1, hc2⟩, hA⟩ := cpOk_all hk
  rw [hl.out] at hn1 hn2 hc2
  have hp := pd_bd (n := n) (by omega)
  have hto := Lib.hid (trOk_pad (xs := xs) (by rw [hl.out]; omega))
  have hto' := Lib.hid (show trOk (xs ++ zs (pd n - n)) = true by rw [← hA, ← hto.out, hl.out])
  have hL := Lib.hid (show cpL xs m = (spL (xs ++ zs (pd n - n))).take m by unfold cpL; rw [hl.out]; rfl)
  have hlen := Lib.hid (show (xs ++ zs (pd n - n)).length = pd n by rw [List.length_append, zs_len, hl.out]; omega)
  clear hA hk
  go_enter Tryz.func67, Tryz.ntmps67
  go_wp2_with fail
  refine (RPadded_any n _ (by omega)).mono ?_
  rintro e w1 ⟨rfl, k1, hw1⟩
  have hb1 : Below w.heap.size w w1 := by rw [hw1]; exact bel_drewN (Below.refl _ _) k1
  clear hw1
  go_wp2_with fail
  refine (Rextended_any _ _ _ (pd n) _ _ (h.below hb1) (by omega) (by omega) (by omega)).mono ?_
  rintro e w2 ⟨g, rfl, hM, hb12, hg⟩
  have hb2 := hb1.trans (hb12.mono hb1.size)
  go_wp2_with fail
  refine (RSpectrum_any _ _ _ _ _ (hM.sl hlen.out (by omega)) (hT.below hb2) hto'.out).mono ?_
  rintro e w3 ⟨g3, rfl, hM3, hb23, hg3⟩
  have hb3 := hb2.trans (hb23.mono hb2.size)
  have hS := hM3.sl3 (n := pd n) (m := m) (by unfold spL; rw [tab_len, hlen.out]) (by omega) (by omega)
  have hSc : Sl .i64 w3 (some ⟨g3, 0, none⟩) m (pd n) ((spL (xs ++ zs (pd n - n))).take m) := (hM3.sl (by unfold spL; rw [tab_len, hlen.out]) (by omega)).take (by omega)
  generalize pd n = P at *
  go_wp2
  go_ret
  exact ⟨_, _, rfl, by rw [hL.out]; exact hSc, hb3⟩
end Go.Proofs.YtoljffghaklpdaaGreatDoor


/- The document's own check of a recipe, whole. -/
namespace Go.Proofs.YtoljffghaklpdaaGreatDoor
open Go.RowKit

theorem RPadded_i (x : Int) (w : World) (h0 : 0 ≤ x) (h1 : x ≤ 64) : Calls Tryz.prog 60 #[.int .i64 x] w fun e w' => e = .returned (.int .i64 (pd x.toNat)) ∧ ∃ k, w' = w.drewN k := by
  obtain ⟨k, rfl⟩ : ∃ k : Nat, x = (k : Int) := ⟨x.toNat, by omega⟩
  exact RPadded_any k w (by omega)

set_option linter.unusedSimpArgs false
set_option maxHeartbeats 8000000 in
set_option maxRecDepth 100000 in
theorem RValidR_ok (num den size step kind points cep : Int) (A : Option Addr) (n c : Nat) (es : List Int) (diff ctr : Bool) (w : World) (h : Sl .i64 w A n c es) (lb : Bool) (hlb : ∀ w0 : World, Calls Tryz.prog 57 #[.int .i64 points] w0 fun e w' => e = .returned (.bool lb) ∧ w' = w0)
    (hS : shpB num den = true) (hL : lb = true) (g0 : 1 ≤ size) (g1 : size ≤ points) (g2 : 1 ≤ step) (g3 : step ≤ 4096) (hE : EdP es points) (h33 : n ≤ 33) (hp64 : points ≤ 64) (P : Prop) (hP : Hid (P ↔ ((1 ≤ kind ∧ kind ≤ 3) ∧ 0 ≤ cep ∧ cep ≤ pd (n - 1)))) :
    Calls Tryz.prog 15 #[rcV num den size step kind points (.slice A n c) cep diff ctr] w (FVP P w) := by
  have hl := h.len
  have hn2 : 2 ≤ n := by have := hE.1; omega
  have h1 := h.alloc (.cells #[.int .i64 num, .int .i64 den, .int .i64 size, .int .i64 step, .int .i64 kind, .int .i64 points, .slice A n c, .int .i64 cep, .bool diff, .bool ctr] 33)
  have hb0 := (Below.refl w.heap.size w).alloc (Nat.le_refl _) (.cells #[.int .i64 num, .int .i64 den, .int .i64 size, .int .i64 step, .int .i64 kind, .int .i64 points, .slice A n c, .int .i64 cep, .bool diff, .bool ctr] 33)
  have hsz : (w.alloc (.cells #[.int .i64 num, .int .i64 den, .int .i64 size, .int .i64 step, .int .i64 kind, .int .i64 points, .slice A n c, .int .i64 cep, .bool diff, .bool ctr] 33)).heap.size = w.heap.size + 1 := by simp
  have g0n : ¬ size < 1 := by omega
  have g0d : decide (size < 1) = false := decide_eq_false g0n
  have g1n : ¬ points < size := by omega
  have g1d : decide (points < size) = false := decide_eq_false g1n
  have g2n : ¬ step < 1 := by omega
  have g2d : decide (step < 1) = false := decide_eq_false g2n
  have g3n : ¬ 4096 < step := by omega
  have g3d : decide (4096 < step) = false := decide_eq_false g3n
  have g9n : ¬ 33 < n := by omega
  have g9d : decide (33 < n) = false := decide_eq_false g9n
  have g9m : ¬ (33 : Int) < (n : Int) := by omega
  have g9e : decide ((33 : Int) < (n : Int)) = false := decide_eq_false g9m
  have hS := Lib.hid hS
  have hL := Lib.hid hL
  have hE := Lib.hid hE
  have hl := Lib.hid hl
  have hcap := h.cap
  have htop := h.top
  have f0 : (w.alloc (.cells #[.int .i64 num, .int .i64 den, .int .i64 size, .int .i64 step, .int .i64 kind, .int .i64 points, .slice A n c, .int .i64 cep, .bool diff, .bool ctr] 33)).cell? ⟨w.heap.size, 0, none⟩ = some (.int .i64 num) := by simp
  have f1 : (w.alloc (.cells #[.int .i64 num, .int .i64 den, .int .i64 size, .int .i64 step, .int .i64 kind, .int .i64 points, .slice A n c, .int .i64 cep, .bool diff, .bool ctr] 33)).cell? ⟨w.heap.size, 1, none⟩ = some (.int .i64 den) := by simp
  have f2 : (w.alloc (.cells #[.int .i64 num, .int .i64 den, .int .i64 size, .int .i64 step, .int .i64 kind, .int .i64 points, .slice A n c, .int .i64 cep, .bool diff, .bool ctr] 33)).cell? ⟨w.heap.size, 2, none⟩ = some (.int .i64 size) := by simp
  have f3 : (w.alloc (.cells #[.int .i64 num, .int .i64 den, .int .i64 size, .int .i64 step, .int .i64 kind, .int .i64 points, .slice A n c, .int .i64 cep, .bool diff, .bool ctr] 33)).cell? ⟨w.heap.size, 3, none⟩ = some (.int .i64 step) := by simp
  have f4 : (w.alloc (.cells #[.int .i64 num, .int .i64 den, .int .i64 size, .int .i64 step, .int .i64 kind, .int .i64 points, .slice A n c, .int .i64 cep, .bool diff, .bool ctr] 33)).cell? ⟨w.heap.size, 4, none⟩ = some (.int .i64 kind) := by simp
  have f5 : (w.alloc (.cells #[.int .i64 num, .int .i64 den, .int .i64 size, .int .i64 step, .int .i64 kind, .int .i64 points, .slice A n c, .int .i64 cep, .bool diff, .bool ctr] 33)).cell? ⟨w.heap.size, 5, none⟩ = some (.int .i64 points) := by simp
  have f6 : (w.alloc (.cells #[.int .i64 num, .int .i64 den, .int .i64 size, .int .i64 step, .int .i64 kind, .int .i64 points, .slice A n c, .int .i64 cep, .bool diff, .bool ctr] 33)).cell? ⟨w.heap.size, 6, none⟩ = some (.slice A n c) := by simp
  have f7 : (w.alloc (.cells #[.int .i64 num, .int .i64 den, .int .i64 size, .int .i64 step, .int .i64 kind, .int .i64 points, .slice A n c, .int .i64 cep, .bool diff, .bool ctr] 33)).cell? ⟨w.heap.size, 7, none⟩ = some (.int .i64 cep) := by simp
  have f8 : (w.alloc (.cells #[.int .i64 num, .int .i64 den, .int .i64 size, .int .i64 step, .int .i64 kind, .int .i64 points, .slice A n c, .int .i64 cep, .bool diff, .bool ctr] 33)).cell? ⟨w.heap.size, 8, none⟩ = some (.bool diff) := by simp
  have f9 : (w.alloc (.cells #[.int .i64 num, .int .i64 den, .int .i64 size, .int .i64 step, .int .i64 kind, .int .i64 points, .slice A n c, .int .i64 cep, .bool diff, .bool ctr] 33)).cell? ⟨w.heap.size, 9, none⟩ = some (.bool ctr) := by simp
  unfold rcV
  go_enter Tryz.func15, Tryz.ntmps15
  go_wp2_with fail
  generalize (w.alloc (.cells #[.int .i64 num, .int .i64 den, .int .i64 size, .int .i64 step, .int .i64 kind, .int .i64 points, .slice A n c, .int .i64 cep, .bool diff, .bool ctr] 33)) = w1 at *
  have hsz := Lib.hid hsz
  go_wp2_with (first
    | (go_at_call 56; refine (Shape_any _ _ _).mono ?_; rintro e w' ⟨he, rfl⟩; rw [hS.out] at he; subst he)
    | (go_at_call 57; refine (hlb _).mono ?_; rintro e w1 ⟨he, rfl⟩; rw [hL.out] at he; subst he)
    | (go_at_call 58; refine (REdges_any _ _ _ es points _ h1).mono ?_; rintro e w' ⟨b, r, rfl, hbe, rfl⟩; (obtain rfl : b = true := hbe.2 hE.out; clear hbe)))
  clear g0n g0d g1n g1d g2n g2d g3n g3d g9n g9d g9m g9e
  have hbr := bel_drewN (Below.refl w1.heap.size w1) r
  refine (RWindow_any kind size _).mono ?_
  rintro e w5 ⟨A5, m5, c5, rfl, hs5, hb5⟩
  have hb15 := hbr.trans (hb5.mono hbr.size)
  have f6 := cell_bel f6 hb15
  have f7 := cell_bel f7 hb15
  clear f0 f1 f2 f3 f4 f5 f8 f9
  have hbz := hb0.trans (hb15.mono (by rw [hsz.out]; omega))
  have hwz : decide (wnC kind size = 0) = decide (1 ≤ kind ∧ kind ≤ 3) := by
    unfold wnC
    rw [okB_mk g0 (by omega)]
    by_cases hk : 1 ≤ kind ∧ kind ≤ 3
    · rw [okB_mk hk.1 hk.2, decide_eq_true hk]; rfl
    · have : okB 1 3 kind = false := by
        cases hh : okB 1 3 kind with
        | false => rfl
        | true => exact absurd (okB_iff.1 hh) hk
      rw [this, decide_eq_false hk]; rfl
  rw [hwz]
  clear hwz
  have hKeep := Lib.hid (fun (wx : World) (hb : Below w5.heap.size w5 wx) => (⟨cell_bel f6 hb, cell_bel f7 hb⟩ : wx.cell? ⟨w.heap.size, 6, none⟩ = some (.slice A n c) ∧ wx.cell? ⟨w.heap.size, 7, none⟩ = some (.int .i64 cep)))
  have hB := bel_drewN (Below.refl w5.heap.size w5) 1
  have hwr : IntKind.i64.wrap ((n : Int) - 1) = (n : Int) - 1 := IntWalk.i64_in _ (by omega)
  by_cases hk : 1 ≤ kind ∧ kind ≤ 3
  case neg =>
    rw [decide_eq_false hk]
    go_wp2_with fail
    refine wp_region_held_drew (S := (fun wx => wx.cell? ⟨w.heap.size, 6, none⟩ = some (.slice A n c) ∧ wx.cell? ⟨w.heap.size, 7, none⟩ = some (.int .i64 cep))) (by kernel_rfl) (hKeep.out _ hB) (fun hHeld => ?_)
    refine wpAnyH_take (i := 0) (v := .bool false) rfl (by kernel_rfl) (by kernel_rfl) (by kernel_rfl) (fun _ _ _ h => h) (Or.inl ⟨by kernel_rfl, by (intro w hSw; (try dsimp only at hSw); go_simp)⟩) hHeld ?_
    simp only [Act.put, List.getElem_toArray, List.getElem_cons_succ, List.getElem_cons_zero, List.setIfInBounds_toArray, List.set_cons_zero, List.set_cons_succ]
    refine wpAnyH_take (i := 1) (v := .bool false) rfl (by kernel_rfl) (by kernel_rfl) (by kernel_rfl) (fun _ _ _ h => h) (Or.inl ⟨by kernel_rfl, by (intro w hSw; (try dsimp only at hSw); go_simp)⟩) hHeld ?_
    simp only [Act.put, List.getElem_toArray, List.getElem_cons_succ, List.getElem_cons_zero, List.setIfInBounds_toArray, List.set_cons_zero, List.set_cons_succ]
    refine wpAnyH_take (i := 2) (v := undef) rfl (by kernel_rfl) (by kernel_rfl) (by kernel_rfl) (fun _ _ _ h => h) (Or.inr ⟨by kernel_rfl, rfl⟩) hHeld ?_
    simp only [Act.put, List.getElem_toArray, List.getElem_cons_succ, List.getElem_cons_zero, List.setIfInBounds_toArray, List.set_cons_zero, List.set_cons_succ]
    refine wpAnyH_take (i := 3) (v := undef) rfl (by kernel_rfl) (by kernel_rfl) (by kernel_rfl) (fun _ _ _ h => h) (Or.inr ⟨by kernel_rfl, rfl⟩) hHeld ?_
    simp only [Act.put, List.getElem_toArray, List.getElem_cons_succ, List.getElem_cons_zero, List.setIfInBounds_toArray, List.set_cons_zero, List.set_cons_succ]
    refine wpAnyH_take (i := 4) (v := undef) rfl (by kernel_rfl) (by kernel_rfl) (by kernel_rfl) (fun _ _ _ h => h) (Or.inr ⟨by kernel_rfl, rfl⟩) hHeld ?_
    simp only [Act.put, List.getElem_toArray, List.getElem_cons_succ, List.getElem_cons_zero, List.setIfInBounds_toArray, List.set_cons_zero, List.set_cons_succ]
    refine wpAnyH_take (i := 5) (v := .bool false) rfl (by kernel_rfl) (by kernel_rfl) (by kernel_rfl) (fun _ _ _ h => h) (Or.inl ⟨by kernel_rfl, by (intro w hSw; (try dsimp only at hSw); go_simp)⟩) hHeld ?_
    simp only [Act.put, List.getElem_toArray, List.getElem_cons_succ, List.getElem_cons_zero, List.setIfInBounds_toArray, List.set_cons_zero, List.set_cons_succ]
    refine wpAnyH_take (i := 6) (v := .bool false) rfl (by kernel_rfl) (by kernel_rfl) (by kernel_rfl) (fun _ _ _ h => h) (Or.inl ⟨by kernel_rfl, by (intro w hSw; (try dsimp only at hSw); go_simp)⟩) hHeld ?_
    simp only [Act.put, List.getElem_toArray, List.getElem_cons_succ, List.getElem_cons_zero, List.setIfInBounds_toArray, List.set_cons_zero, List.set_cons_succ]
    refine wpAnyH_take (i := 7) (v := undef) rfl (by kernel_rfl) (by kernel_rfl) (by kernel_rfl) (fun _ _ _ h => h) (Or.inr ⟨by kernel_rfl, rfl⟩) hHeld ?_
    simp only [Act.put, List.getElem_toArray, List.getElem_cons_succ, List.getElem_cons_zero, List.setIfInBounds_toArray, List.set_cons_zero, List.set_cons_succ]
    refine wpAnyH_take (i := 8) (v := undef) rfl (by kernel_rfl) (by kernel_rfl) (by kernel_rfl) (fun _ _ _ h => h) (Or.inr ⟨by kernel_rfl, rfl⟩) hHeld ?_
    simp only [Act.put, List.getElem_toArray, List.getElem_cons_succ, List.getElem_cons_zero, List.setIfInBounds_toArray, List.set_cons_zero, List.set_cons_succ]
    refine wpAnyH_take (i := 9) (v := undef) rfl (by kernel_rfl) (by kernel_rfl) (by kernel_rfl) (fun _ _ _ h => h) (Or.inr ⟨by kernel_rfl, rfl⟩) hHeld ?_
    simp only [Act.put, List.getElem_toArray, List.getElem_cons_succ, List.getElem_cons_zero, List.setIfInBounds_toArray, List.set_cons_zero, List.set_cons_succ]
    refine wpAnyH_take (i := 10) (v := undef) rfl (by kernel_rfl) (by kernel_rfl) (by kernel_rfl) (fun _ _ _ h => h) (Or.inr ⟨by kernel_rfl, rfl⟩) hHeld ?_
    simp only [Act.put, List.getElem_toArray, List.getElem_cons_succ, List.getElem_cons_zero, List.setIfInBounds_toArray, List.set_cons_zero, List.set_cons_succ]
    refine wpAnyH_take (i := 11) (v := undef) rfl (by kernel_rfl) (by kernel_rfl) (by kernel_rfl) (fun _ _ _ h => h) (Or.inr ⟨by kernel_rfl, rfl⟩) hHeld ?_
    simp only [Act.put, List.getElem_toArray, List.getElem_cons_succ, List.getElem_cons_zero, List.setIfInBounds_toArray, List.set_cons_zero, List.set_cons_succ]
    refine wpAnyH_take (i := 12) (v := undef) rfl (by kernel_rfl) (by kernel_rfl) (by kernel_rfl) (fun _ _ _ h => h) (Or.inr ⟨by kernel_rfl, rfl⟩) hHeld ?_
    simp only [Act.put, List.getElem_toArray, List.getElem_cons_succ, List.getElem_cons_zero, List.setIfInBounds_toArray, List.set_cons_zero, List.set_cons_succ]
    refine wpAnyH_take (i := 13) (v := undef) rfl (by kernel_rfl) (by kernel_rfl) (by kernel_rfl) (fun _ _ _ h => h) (Or.inr ⟨by kernel_rfl, rfl⟩) hHeld ?_
    simp only [Act.put, List.getElem_toArray, List.getElem_cons_succ, List.getElem_cons_zero, List.setIfInBounds_toArray, List.set_cons_zero, List.set_cons_succ]
    refine wpAnyH_take (i := 14) (v := undef) rfl (by kernel_rfl) (by kernel_rfl) (by kernel_rfl) (fun _ _ _ h => h) (Or.inr ⟨by kernel_rfl, rfl⟩) hHeld ?_
    simp only [Act.put, List.getElem_toArray, List.getElem_cons_succ, List.getElem_cons_zero, List.setIfInBounds_toArray, List.set_cons_zero, List.set_cons_succ]
    refine wpAnyH_take (i := 15) (v := .bool false) rfl (by kernel_rfl) (by kernel_rfl) (by kernel_rfl) (fun _ _ _ h => h) (Or.inl ⟨by kernel_rfl, by (intro w hSw; (try dsimp only at hSw); go_simp)⟩) hHeld ?_
    simp only [Act.put, List.getElem_toArray, List.getElem_cons_succ, List.getElem_cons_zero, List.setIfInBounds_toArray, List.set_cons_zero, List.set_cons_succ]
    refine wpAnyH_take (i := 16) (v := .bool false) rfl (by kernel_rfl) (by kernel_rfl) (by kernel_rfl) (fun _ _ _ h => h) (Or.inl ⟨by kernel_rfl, by (intro w hSw; (try dsimp only at hSw); go_simp)⟩) hHeld ?_
    simp only [Act.put, List.getElem_toArray, List.getElem_cons_succ, List.getElem_cons_zero, List.setIfInBounds_toArray, List.set_cons_zero, List.set_cons_succ]
    refine wpAnyH_done (by kernel_rfl) ?_ _
    have hbe := hbz.trans (hB.mono (by have := hbz.size; omega))
    clear hKeep hHeld hwr
    go_wp2
    go_ret
    exact ⟨false, rfl, ⟨fun h => (by cases h), fun h => absurd (hP.out.1 h).1 hk⟩, hbe⟩
  rw [decide_eq_true hk]
  go_wp2_with fail
  refine wp_region_held_drew (S := (fun wx => wx.cell? ⟨w.heap.size, 6, none⟩ = some (.slice A n c) ∧ wx.cell? ⟨w.heap.size, 7, none⟩ = some (.int .i64 cep))) (by kernel_rfl) (hKeep.out _ hB) (fun hHeld => ?_)
  refine wpAnyH_take (i := 0) (v := .bool true) rfl (by kernel_rfl) (by kernel_rfl) (by kernel_rfl) (fun _ _ _ h => h) (Or.inl ⟨by kernel_rfl, by (intro w hSw; (try dsimp only at hSw); go_simp)⟩) hHeld ?_
  simp only [Act.put, List.getElem_toArray, List.getElem_cons_succ, List.getElem_cons_zero, List.setIfInBounds_toArray, List.set_cons_zero, List.set_cons_succ]
  refine wpAnyH_take (i := 1) (v := .bool true) rfl (by kernel_rfl) (by kernel_rfl) (by kernel_rfl) (fun _ _ _ h => h) (Or.inl ⟨by kernel_rfl, by (intro w hSw; (try dsimp only at hSw); go_simp)⟩) hHeld ?_
  simp only [Act.put, List.getElem_toArray, List.getElem_cons_succ, List.getElem_cons_zero, List.setIfInBounds_toArray, List.set_cons_zero, List.set_cons_succ]
  refine wpAnyH_take (i := 2) (v := .pointer (some ⟨w.heap.size, 7, none⟩)) rfl (by kernel_rfl) (by kernel_rfl) (by kernel_rfl) (fun _ _ _ h => h) (Or.inl ⟨by kernel_rfl, by (intro w hSw; (try dsimp only at hSw); go_simp)⟩) hHeld ?_
  simp only [Act.put, List.getElem_toArray, List.getElem_cons_succ, List.getElem_cons_zero, List.setIfInBounds_toArray, List.set_cons_zero, List.set_cons_succ]
  refine wpAnyH_take (i := 3) (v := .int .i64 cep) rfl (by kernel_rfl) (by kernel_rfl) (by kernel_rfl) (fun _ _ _ h => h) (Or.inl ⟨by kernel_rfl, by (intro w hSw; (try dsimp only at hSw); go_simp)⟩) hHeld ?_
  simp only [Act.put, List.getElem_toArray, List.getElem_cons_succ, List.getElem_cons_zero, List.setIfInBounds_toArray, List.set_cons_zero, List.set_cons_succ]
  by_cases hc : 0 ≤ cep
  case neg =>
    have hd : decide (0 ≤ cep) = false := decide_eq_false hc
    refine wpAnyH_take (i := 4) (v := .bool false) rfl (by kernel_rfl) (by kernel_rfl) (by kernel_rfl) (fun _ _ _ h => h) (Or.inl ⟨by kernel_rfl, by (intro w hSw; (try dsimp only at hSw); go_simp)⟩) hHeld ?_
    simp only [Act.put, List.getElem_toArray, List.getElem_cons_succ, List.getElem_cons_zero, List.setIfInBounds_toArray, List.set_cons_zero, List.set_cons_succ]
    refine wpAnyH_take (i := 5) (v := .bool false) rfl (by kernel_rfl) (by kernel_rfl) (by kernel_rfl) (fun _ _ _ h => h) (Or.inl ⟨by kernel_rfl, by (intro w hSw; (try dsimp only at hSw); go_simp)⟩) hHeld ?_
    simp only [Act.put, List.getElem_toArray, List.getElem_cons_succ, List.getElem_cons_zero, List.setIfInBounds_toArray, List.set_cons_zero, List.set_cons_succ]
    refine wpAnyH_take (i := 6) (v := .bool false) rfl (by kernel_rfl) (by kernel_rfl) (by kernel_rfl) (fun _ _ _ h => h) (Or.inl ⟨by kernel_rfl, by (intro w hSw; (try dsimp only at hSw); go_simp)⟩) hHeld ?_
    simp only [Act.put, List.getElem_toArray, List.getElem_cons_succ, List.getElem_cons_zero, List.setIfInBounds_toArray, List.set_cons_zero, List.set_cons_succ]
    refine wpAnyH_take (i := 7) (v := undef) rfl (by kernel_rfl) (by kernel_rfl) (by kernel_rfl) (fun _ _ _ h => h) (Or.inr ⟨by kernel_rfl, rfl⟩) hHeld ?_
    simp only [Act.put, List.getElem_toArray, List.getElem_cons_succ, List.getElem_cons_zero, List.setIfInBounds_toArray, List.set_cons_zero, List.set_cons_succ]
    refine wpAnyH_take (i := 8) (v := undef) rfl (by kernel_rfl) (by kernel_rfl) (by kernel_rfl) (fun _ _ _ h => h) (Or.inr ⟨by kernel_rfl, rfl⟩) hHeld ?_
    simp only [Act.put, List.getElem_toArray, List.getElem_cons_succ, List.getElem_cons_zero, List.setIfInBounds_toArray, List.set_cons_zero, List.set_cons_succ]
    refine wpAnyH_take (i := 9) (v := undef) rfl (by kernel_rfl) (by kernel_rfl) (by kernel_rfl) (fun _ _ _ h => h) (Or.inr ⟨by kernel_rfl, rfl⟩) hHeld ?_
    simp only [Act.put, List.getElem_toArray, List.getElem_cons_succ, List.getElem_cons_zero, List.setIfInBounds_toArray, List.set_cons_zero, List.set_cons_succ]
    refine wpAnyH_take (i := 10) (v := undef) rfl (by kernel_rfl) (by kernel_rfl) (by kernel_rfl) (fun _ _ _ h => h) (Or.inr ⟨by kernel_rfl, rfl⟩) hHeld ?_
    simp only [Act.put, List.getElem_toArray, List.getElem_cons_succ, List.getElem_cons_zero, List.setIfInBounds_toArray, List.set_cons_zero, List.set_cons_succ]
    refine wpAnyH_take (i := 11) (v := undef) rfl (by kernel_rfl) (by kernel_rfl) (by kernel_rfl) (fun _ _ _ h => h) (Or.inr ⟨by kernel_rfl, rfl⟩) hHeld ?_
    simp only [Act.put, List.getElem_toArray, List.getElem_cons_succ, List.getElem_cons_zero, List.setIfInBounds_toArray, List.set_cons_zero, List.set_cons_succ]
    refine wpAnyH_take (i := 12) (v := undef) rfl (by kernel_rfl) (by kernel_rfl) (by kernel_rfl) (fun _ _ _ h => h) (Or.inr ⟨by kernel_rfl, rfl⟩) hHeld ?_
    simp only [Act.put, List.getElem_toArray, List.getElem_cons_succ, List.getElem_cons_zero, List.setIfInBounds_toArray, List.set_cons_zero, List.set_cons_succ]
    refine wpAnyH_take (i := 13) (v := undef) rfl (by kernel_rfl) (by kernel_rfl) (by kernel_rfl) (fun _ _ _ h => h) (Or.inr ⟨by kernel_rfl, rfl⟩) hHeld ?_
    simp only [Act.put, List.getElem_toArray, List.getElem_cons_succ, List.getElem_cons_zero, List.setIfInBounds_toArray, List.set_cons_zero, List.set_cons_succ]
    refine wpAnyH_take (i := 14) (v := undef) rfl (by kernel_rfl) (by kernel_rfl) (by kernel_rfl) (fun _ _ _ h => h) (Or.inr ⟨by kernel_rfl, rfl⟩) hHeld ?_
    simp only [Act.put, List.getElem_toArray, List.getElem_cons_succ, List.getElem_cons_zero, List.setIfInBounds_toArray, List.set_cons_zero, List.set_cons_succ]
    refine wpAnyH_take (i := 15) (v := .bool false) rfl (by kernel_rfl) (by kernel_rfl) (by kernel_rfl) (fun _ _ _ h => h) (Or.inl ⟨by kernel_rfl, by (intro w hSw; (try dsimp only at hSw); go_simp)⟩) hHeld ?_
    simp only [Act.put, List.getElem_toArray, List.getElem_cons_succ, List.getElem_cons_zero, List.setIfInBounds_toArray, List.set_cons_zero, List.set_cons_succ]
    refine wpAnyH_take (i := 16) (v := .bool false) rfl (by kernel_rfl) (by kernel_rfl) (by kernel_rfl) (fun _ _ _ h => h) (Or.inl ⟨by kernel_rfl, by (intro w hSw; (try dsimp only at hSw); go_simp)⟩) hHeld ?_
    simp only [Act.put, List.getElem_toArray, List.getElem_cons_succ, List.getElem_cons_zero, List.setIfInBounds_toArray, List.set_cons_zero, List.set_cons_succ]
    clear hd
    refine wpAnyH_done (by kernel_rfl) ?_ _
    have hbe := hbz.trans (hB.mono (by have := hbz.size; omega))
    clear hKeep hHeld hwr
    go_wp2
    go_ret
    exact ⟨false, rfl, ⟨fun h => (by cases h), fun h => absurd (hP.out.1 h).2.1 (by omega)⟩, hbe⟩
  have hd : decide (0 ≤ cep) = true := decide_eq_true hc
  refine wpAnyH_take (i := 4) (v := .bool true) rfl (by kernel_rfl) (by kernel_rfl) (by kernel_rfl) (fun _ _ _ h => h) (Or.inl ⟨by kernel_rfl, by (intro w hSw; (try dsimp only at hSw); go_simp)⟩) hHeld ?_
  simp only [Act.put, List.getElem_toArray, List.getElem_cons_succ, List.getElem_cons_zero, List.setIfInBounds_toArray, List.set_cons_zero, List.set_cons_succ]
  clear hd
  refine wpAnyH_take (i := 5) (v := .bool true) rfl (by kernel_rfl) (by kernel_rfl) (by kernel_rfl) (fun _ _ _ h => h) (Or.inl ⟨by kernel_rfl, by (intro w hSw; (try dsimp only at hSw); go_simp)⟩) hHeld ?_
  simp only [Act.put, List.getElem_toArray, List.getElem_cons_succ, List.getElem_cons_zero, List.setIfInBounds_toArray, List.set_cons_zero, List.set_cons_succ]
  refine wpAnyH_take (i := 6) (v := .bool true) rfl (by kernel_rfl) (by kernel_rfl) (by kernel_rfl) (fun _ _ _ h => h) (Or.inl ⟨by kernel_rfl, by (intro w hSw; (try dsimp only at hSw); go_simp)⟩) hHeld ?_
  simp only [Act.put, List.getElem_toArray, List.getElem_cons_succ, List.getElem_cons_zero, List.setIfInBounds_toArray, List.set_cons_zero, List.set_cons_succ]
  refine wpAnyH_take (i := 7) (v := .pointer (some ⟨w.heap.size, 7, none⟩)) rfl (by kernel_rfl) (by kernel_rfl) (by kernel_rfl) (fun _ _ _ h => h) (Or.inl ⟨by kernel_rfl, by (intro w hSw; (try dsimp only at hSw); go_simp)⟩) hHeld ?_
  simp only [Act.put, List.getElem_toArray, List.getElem_cons_succ, List.getElem_cons_zero, List.setIfInBounds_toArray, List.set_cons_zero, List.set_cons_succ]
  refine wpAnyH_take (i := 8) (v := .int .i64 cep) rfl (by kernel_rfl) (by kernel_rfl) (by kernel_rfl) (fun _ _ _ h => h) (Or.inl ⟨by kernel_rfl, by (intro w hSw; (try dsimp only at hSw); go_simp)⟩) hHeld ?_
  simp only [Act.put, List.getElem_toArray, List.getElem_cons_succ, List.getElem_cons_zero, List.setIfInBounds_toArray, List.set_cons_zero, List.set_cons_succ]
  refine wpAnyH_take (i := 9) (v := .pointer (some ⟨w.heap.size, 6, none⟩)) rfl (by kernel_rfl) (by kernel_rfl) (by kernel_rfl) (fun _ _ _ h => h) (Or.inl ⟨by kernel_rfl, by (intro w hSw; (try dsimp only at hSw); go_simp)⟩) hHeld ?_
  simp only [Act.put, List.getElem_toArray, List.getElem_cons_succ, List.getElem_cons_zero, List.setIfInBounds_toArray, List.set_cons_zero, List.set_cons_succ]
  refine wpAnyH_take (i := 10) (v := .slice A n c) rfl (by kernel_rfl) (by kernel_rfl) (by kernel_rfl) (fun _ _ _ h => h) (Or.inl ⟨by kernel_rfl, by (intro w hSw; (try dsimp only at hSw); go_simp)⟩) hHeld ?_
  simp only [Act.put, List.getElem_toArray, List.getElem_cons_succ, List.getElem_cons_zero, List.setIfInBounds_toArray, List.set_cons_zero, List.set_cons_succ]
  refine wpAnyH_take (i := 11) (v := .int .i64 n) rfl (by kernel_rfl) (by kernel_rfl) (by kernel_rfl) (fun _ _ _ h => h) (Or.inl ⟨by kernel_rfl, by (intro w hSw; (try dsimp only at hSw); go_simp)⟩) hHeld ?_
  simp only [Act.put, List.getElem_toArray, List.getElem_cons_succ, List.getElem_cons_zero, List.setIfInBounds_toArray, List.set_cons_zero, List.set_cons_succ]
  refine wpAnyH_take (i := 12) (v := .int .i64 ((n : Int) - 1)) rfl (by kernel_rfl) (by kernel_rfl) (by kernel_rfl) (fun _ _ _ h => h) (Or.inl ⟨by kernel_rfl, by (intro w hSw; (try dsimp only at hSw); go_simp)⟩) hHeld ?_
  simp only [Act.put, List.getElem_toArray, List.getElem_cons_succ, List.getElem_cons_zero, List.setIfInBounds_toArray, List.set_cons_zero, List.set_cons_succ]
  clear hwr
  have hwr := trivial
  refine wpAnyH_ready (rs := [13]) (by kernel_rfl) (by simp) ?_
  refine AllReadyH.cons rfl (fun K hK => ?_) AllReadyH.nil
  go_simp
  refine (RPadded_i _ _ (by omega) (by omega)).mono ?_
  rintro e w' ⟨rfl, k, rfl⟩
  have hq : ((n : Int) - 1).toNat = n - 1 := by omega
  rw [hq]
  clear hq
  have hB := bel_drewN (Below.refl w5.heap.size w5) (1 + k)
  go_wp2_with fail
  refine hK.out _ _ ?_ (fun hHeld => ?_)
  · exact hKeep.out _ hB
  clear hK K
  try simp only [Act.put, List.getElem_toArray, List.getElem_cons_succ, List.getElem_cons_zero, List.setIfInBounds_toArray, List.set_cons_zero, List.set_cons_succ]
  by_cases hc2 : cep ≤ (pd (n - 1) : Int)
  case neg =>
    have hd : decide (cep ≤ (pd (n - 1) : Int)) = false := decide_eq_false hc2
    refine wpAnyH_take (i := 14) (v := .bool false) rfl (by kernel_rfl) (by kernel_rfl) (by kernel_rfl) (fun _ _ _ h => h) (Or.inl ⟨by kernel_rfl, by (intro w hSw; (try dsimp only at hSw); go_simp)⟩) hHeld ?_
    simp only [Act.put, List.getElem_toArray, List.getElem_cons_succ, List.getElem_cons_zero, List.setIfInBounds_toArray, List.set_cons_zero, List.set_cons_succ]
    refine wpAnyH_take (i := 15) (v := .bool false) rfl (by kernel_rfl) (by kernel_rfl) (by kernel_rfl) (fun _ _ _ h => h) (Or.inl ⟨by kernel_rfl, by (intro w hSw; (try dsimp only at hSw); go_simp)⟩) hHeld ?_
    simp only [Act.put, List.getElem_toArray, List.getElem_cons_succ, List.getElem_cons_zero, List.setIfInBounds_toArray, List.set_cons_zero, List.set_cons_succ]
    refine wpAnyH_take (i := 16) (v := .bool false) rfl (by kernel_rfl) (by kernel_rfl) (by kernel_rfl) (fun _ _ _ h => h) (Or.inl ⟨by kernel_rfl, by (intro w hSw; (try dsimp only at hSw); go_simp)⟩) hHeld ?_
    simp only [Act.put, List.getElem_toArray, List.getElem_cons_succ, List.getElem_cons_zero, List.setIfInBounds_toArray, List.set_cons_zero, List.set_cons_succ]
    clear hd
    refine wpAnyH_done (by kernel_rfl) ?_ _
    have hbe := hbz.trans (hB.mono (by have := hbz.size; omega))
    clear hKeep hHeld hwr
    go_wp2
    go_ret
    exact ⟨false, rfl, ⟨fun h => (by cases h), fun h => absurd (hP.out.1 h).2.2 (by omega)⟩, hbe⟩
  have hd : decide (cep ≤ (pd (n - 1) : Int)) = true := decide_eq_true hc2
  refine wpAnyH_take (i := 14) (v := .bool true) rfl (by kernel_rfl) (by kernel_rfl) (by kernel_rfl) (fun _ _ _ h => h) (Or.inl ⟨by kernel_rfl, by (intro w hSw; (try dsimp only at hSw); go_simp)⟩) hHeld ?_
  simp only [Act.put, List.getElem_toArray, List.getElem_cons_succ, List.getElem_cons_zero, List.setIfInBounds_toArray, List.set_cons_zero, List.set_cons_succ]
  refine wpAnyH_take (i := 15) (v := .bool true) rfl (by kernel_rfl) (by kernel_rfl) (by kernel_rfl) (fun _ _ _ h => h) (Or.inl ⟨by kernel_rfl, by (intro w hSw; (try dsimp only at hSw); go_simp)⟩) hHeld ?_
  simp only [Act.put, List.getElem_toArray, List.getElem_cons_succ, List.getElem_cons_zero, List.setIfInBounds_toArray, List.set_cons_zero, List.set_cons_succ]
  refine wpAnyH_take (i := 16) (v := .bool true) rfl (by kernel_rfl) (by kernel_rfl) (by kernel_rfl) (fun _ _ _ h => h) (Or.inl ⟨by kernel_rfl, by (intro w hSw; (try dsimp only at hSw); go_simp)⟩) hHeld ?_
  simp only [Act.put, List.getElem_toArray, List.getElem_cons_succ, List.getElem_cons_zero, List.setIfInBounds_toArray, List.set_cons_zero, List.set_cons_succ]
  clear hd
  refine wpAnyH_done (by kernel_rfl) ?_ _
  have hbe := hbz.trans (hB.mono (by have := hbz.size; omega))
  clear hKeep hHeld hwr
  go_wp2
  go_ret
  exact ⟨true, rfl, ⟨fun _ => hP.out.2 ⟨hk, hc, hc2⟩, fun _ => rfl⟩, hbe⟩

theorem shpB_iff {num den : Int} : shpB num den = true ↔ (1 ≤ den ∧ den ≤ 1024) ∧ 0 ≤ num ∧ num ≤ den := by
  unfold shpB
  rw [Bool.and_eq_true, okB_iff, okB_iff]

/-- the document's answer -/
theorem RValidR_any (num den size step kind points cep : Int) (A : Option Addr) (n c : Nat) (es : List Int) (diff ctr : Bool) (w : World) (h : Sl .i64 w A n c es) (lb : Bool) (hlb : ∀ w0 : World, Calls Tryz.prog 57 #[.int .i64 points] w0 fun e w' => e = .returned (.bool lb) ∧ w' = w0) (hlp : lb = true ↔ (0 ≤ points ∧ lenB points.toNat = true)) :
    Calls Tryz.prog 15 #[rcV num den size step kind points (.slice A n c) cep diff ctr] w (FVP (RcP num den size step kind points cep es) w) := by
  have hl := h.len
  by_cases hbad : shpB num den = false ∨ lb = false ∨ ¬ 1 ≤ size ∨ ¬ size ≤ points ∨ ¬ 1 ≤ step ∨ ¬ step ≤ 4096 ∨ ¬ EdP es points ∨ ¬ n ≤ 33
  · refine (RValidR_bad num den size step kind points cep A n c es diff ctr w h lb hlb hbad).mono fun e w' ⟨he, hb⟩ => ⟨false, he, ⟨fun hh => (by cases hh), fun hR => ?_⟩, hb⟩
    exfalso
    have hs : shpB num den = true := shpB_iff.2 ⟨hR.1, hR.2.1⟩
    have hlt := hlp.2 hR.2.2.1
    rcases hbad with hh | hh | hh | hh | hh | hh | hh | hh
    · rw [hs] at hh; cases hh
    · rw [hlt] at hh; cases hh
    · exact hh hR.2.2.2.1.1
    · exact hh hR.2.2.2.1.2
    · exact hh hR.2.2.2.2.1.1
    · exact hh hR.2.2.2.2.1.2
    · exact hh hR.2.2.2.2.2.2.2.1
    · exact hh (hl ▸ hR.2.2.2.2.2.2.1)
  · have hs : shpB num den = true := by cases hh : shpB num den with | true => rfl | false => exact absurd (.inl hh) hbad
    have hlt : lb = true := by cases hh : lb with | true => rfl | false => exact absurd (.inr (.inl hh)) hbad
    have k0 : 1 ≤ size := Decidable.byContradiction fun hh => hbad (.inr (.inr (.inl hh)))
    have k1 : size ≤ points := Decidable.byContradiction fun hh => hbad (.inr (.inr (.inr (.inl hh))))
    have k2 : 1 ≤ step := Decidable.byContradiction fun hh => hbad (.inr (.inr (.inr (.inr (.inl hh)))))
    have k3 : step ≤ 4096 := Decidable.byContradiction fun hh => hbad (.inr (.inr (.inr (.inr (.inr (.inl hh))))))
    have k4 : EdP es points := Classical.byContradiction fun hh => hbad (.inr (.inr (.inr (.inr (.inr (.inr (.inl hh)))))))
    have k5 : n ≤ 33 := Decidable.byContradiction fun hh => hbad (.inr (.inr (.inr (.inr (.inr (.inr (.inr hh)))))))
    have hpl := hlp.1 hlt
    have hp64 := (lenB_le hpl.2).2.1
    refine (RValidR_ok num den size step kind points cep A n c es diff ctr w h lb hlb hs hlt k0 k1 k2 k3 k4 k5 (by omega) _ (Lib.hid Iff.rfl)).mono fun e w' ⟨b, he, hi, hb⟩ => ⟨b, he, ⟨fun hh => ?_, fun hR => ?_⟩, hb⟩
    · have h2 := hi.1 hh
      have h3 := shpB_iff.1 hs
      exact ⟨h3.1, h3.2, hpl, ⟨k0, k1⟩, ⟨k2, k3⟩, h2.1, hl ▸ k5, k4, h2.2.1, by rw [hl]; exact h2.2.2⟩
    · exact hi.2 ⟨hR.2.2.2.2.2.1, hR.2.2.2.2.2.2.2.2.1, by rw [← hl]; exact hR.2.2.2.2.2.2.2.2.2⟩
end Go.Proofs.YtoljffghaklpdaaGreatDoor


/- The document's own bands and cepstra, as rows of the call's own. -/
namespace Go.Proofs.YtoljffghaklpdaaGreatDoor
open Go.RowKit

set_option maxHeartbeats 3200000 in
set_option maxRecDepth 100000 in
theorem RBands_own (A A' : Option Addr) (n c m c' : Nat) (ss es : List Int) (w : World) (h : Sl .i64 w A n c ss) (h' : Sl .i64 w A' m c' es) (hm : m ≤ 1000) (hP : BnP ss es) :
    Calls Tryz.prog 64 #[.slice A n c, .slice A' m c'] w fun e w' => ∃ A2 c2, e = .returned (.slice A2 (m - 1) c2) ∧ w'.ownsRow w.heap.size 3 1 (.slice A2 (m - 1) c2) (m - 1) (ivs .i64 (bnL ss es)) ∧ Below w.heap.size w w' := by
  have hl := Lib.hid h.len
  have hl' := Lib.hid h'.len
  have hcap := h.cap
  have htop := h.top
  have hcap' := h'.cap
  have htop' := h'.top
  have hn := hP.1
  have hss := Lib.hid hP.2.1
  have hE := hP.2.2
  have hm2 := hE.1
  rw [hl.out] at hn hE
  rw [hl'.out] at hm2
  have hE1 := Lib.hid (fun i (hi : i < m) => hE.2.1 i (by rw [hl'.out]; exact hi))
  have hE2 := Lib.hid (fun i (hi : i + 1 < m) => hE.2.2 i (by rw [hl'.out]; exact hi))
  have hpos : 0 < n := by
    have e1 := hE1.out 1 (by omega)
    have e2 := hE2.out 0 (by omega)
    have e3 := hE1.out 0 (by omega)
    simp only [Nat.zero_add] at e2
    omega
  obtain ⟨q, hq⟩ : ∃ q, m - 1 = q := ⟨_, rfl⟩
  have hR := Lib.hid (show bnL ss es = tab q (bnF ss es) by unfold bnL; rw [hl'.out, hq])
  rw [hq]
  clear hP hE
  obtain ⟨ad, x0, rfl, _, _⟩ := h.at_ hpos
  obtain ⟨ad', x1, rfl, _, _⟩ := h'.at_ (show 0 < m by omega)
  obtain ⟨i0, hi, hz0, hz1, hz2⟩ := info_parts info_int
  go_enter Tryz.func64, Tryz.ntmps64
  go_wp2
  go_loopw [5, 6] (fun ov iv wr' => ∃ (b : Nat) (V : Value) (wr : World), wr = wr' ∧ iv = .int .i64 b ∧ V = ov ∧ b ≤ q ∧ wr.ownsRow w.heap.size 3 1 V b (ivs .i64 (tab b (bnF ss es))) ∧ Below w.heap.size w wr) (fun _ iv _ => q - (intOf iv).toNat)
  case atStart => exact ⟨0, _, _, rfl, rfl, rfl, Nat.zero_le _, World.ownsRow_nil _ _ _ _, Below.refl _ _⟩
  case round =>
    obtain ⟨b, V, wr, rfl, rfl, rfl, hbq, hown, hbel⟩ := hrel
    obtain ⟨AV, cV, rfl⟩ := own_slice hown
    obtain ⟨b1, hb1⟩ : ∃ b1, b + 1 = b1 := ⟨_, rfl⟩
    have e1 : IntKind.i64.wrap ((b : Int) + 1) = (b1 : Int) := by rw [IntWalk.i64_in _ (by omega)]; omega
    rcases Nat.lt_or_ge b q with hlt | hge
    · have x1 := hE1.out b (by omega)
      have x2 := hE1.out (b + 1) (by omega)
      have x3 := hE2.out b (by omega)
      obtain ⟨a, ha⟩ : ∃ a : Nat, es.getD b 0 = a := ⟨(es.getD b 0).toNat, by omega⟩
      obtain ⟨d, hd⟩ : ∃ d : Nat, es.getD (b + 1) 0 = d := ⟨(es.getD (b + 1) 0).toNat, by omega⟩
      rw [ha] at x1 x3
      rw [hd] at x2 x3
      have hKeep := Lib.hid (fun (wx : World) (hb : Below w.heap.size w wx) => show wx.cell? (ad'.add b) = some (.int .i64 (a : Int)) ∧ wx.cell? (ad'.add b1) = some (.int .i64 (d : Int)) from ⟨(h'.below hb).cellAt (by omega) ha, (h'.below hb).cellAt (by omega) (by rw [← hb1]; exact hd)⟩)
      have hdn : d ≤ n := by omega
      have had : a < d := by omega
      have i0' : (0 : Int) ≤ (b : Int) := by omega
      have i1 : (b : Int) < (m : Int) := by omega
      have i2 : (0 : Int) ≤ (b1 : Int) := by omega
      have i3 : (b1 : Int) < (m : Int) := by omega
      have i4 : (0 : Int) ≤ (a : Int) := by omega
      have i5 : (a : Int) ≤ (d : Int) := by omega
      have i6 : (d : Int) ≤ (n : Int) := by omega
      have i7 : (d : Int) ≤ (c : Int) := by omega
      have i8 : ¬ c = a := by omega
      have i10 : (b1 : Int) < (m : Int) := by omega
      have hbv := Lib.hid (show bnF ss es b = sm (d - a) fun j => ss.getD (a + j) 0 * ss.getD (a + j) 0 by
        rw [sq_part, show a + (d - a) = d by omega]
        unfold bnF; rw [ha, hd]; rfl)
      have hb1 := Lib.hid hb1
      have ha := Lib.hid ha
      have hd := Lib.hid hd
      clear x1 x2 x3
      have hEn := Lib.hid (fun (wx : World) (hb : Below w.heap.size w wx) => REnergyC (ad.add a) (d - a) (c - a) (fun j => ss.getD (a + j) 0) wx (by omega) (by omega) (by omega) (fun j hj => by
        rw [Addr.add_add]
        exact (h.below hb).cellAt (by omega) rfl) (fun j => in24 hss.out (a + j)))
      have hbd : Below w.heap.size w wr.drew := bel_drewN hbel 1
      have hownd : wr.drew.ownsRow w.heap.size 3 1 (.slice AV b cV) b (ivs .i64 (tab b (bnF ss es))) := hown
      go_wp2
      go_region_held3 (fun wx => wx.cell? (ad'.add b) = some (.int .i64 (a : Int)) ∧ wx.cell? (ad'.add b1) = some (.int .i64 (d : Int))) (first | exact hKeep.out _ hbd | exact hKeep.out _ hb5 | exact hKeep.out _ (hb5.alloc hb5.size _) | exact hKeep.out _ hb6 | exact hKeep.out _ hbel | go_keep)
        (first
          | (go_at_call 132; refine (hEn.out _ hbd).mono ?_; rintro e w5 ⟨rfl, r5, hw5⟩; have hb5 : Below w.heap.size w w5 := (by rw [hw5]; exact bel_drewN hbd r5); have hown5 : w5.ownsRow w.heap.size 3 1 (.slice AV b cV) b (ivs .i64 (tab b (bnF ss es))) := (by rw [hw5]; exact hownd); have hs5 : w.heap.size ≤ w5.heap.size := hb5.size; have hrow := Lib.hid (fun k (hk : (Value.slice AV b cV).ownBlock = some k) => (hown5.lt k hk).1); clear hw5; rw [← hbv.out])
          | (refine step_append_lies _ (by rfl) _ _ _ (by rfl) w.heap.size 3 i0 (.int .i64 0) 1 8 Tryz.underlying28 hi hz0 hz1 hz2 (by rfl) (by decide) (.slice AV b cV) b (ivs .i64 (tab b (bnF ss es))) (by rfl) (hown5.alloc _) ⟨w5.heap.size, 0, none⟩ 1 1 [.int .i64 (bnF ss es b)] (by rfl) (by rfl) (news_one _ _ _) (oneCell1 _) (by omega) (by unfold maxLen; omega) (by omega) (by simp; omega) _ rfl ?_; intro g cap w6 hown6 hgrow hat hlt6; have hb6 : Below w.heap.size w w6 := (hb5.alloc hs5 _).grown hgrow (by simp; omega) hrow.out))
      have hown7 : w6.ownsRow w.heap.size 3 1 (.slice (some ⟨g, 0, none⟩) (b + 1) cap) (b + 1) (ivs .i64 (tab (b + 1) (bnF ss es))) := by rw [tab_succ, ivs_snoc]; exact hown6
      clear e1 hown6 i0' i1 i2 i3 i4 i5 i6 i7 i8 i10
      go_wp2
      go_roundw
      case rel => exact ⟨b + 1, _, _, rfl, by go_num, rfl, hlt, by rw [← hb1.out]; exact hown7, hb6⟩
      case measure => simp [intOf]; omega
    · have hbq' : q = b := by omega
      subst hbq'
      have hno : ¬ (b1 : Int) < (m : Int) := by omega
      obtain ⟨A2, c2, e2, hS2⟩ := Sl.of_own hown
      injection e2 with e3 e4 e5
      subst e3 e5
      go_wp2
      go_ret
      exact ⟨_, _, rfl, by rw [hR.out]; exact hown, hbel⟩

set_option maxHeartbeats 800000 in
theorem RCepstrum_own (A : Option Addr) (n c : Nat) (xs : List Int) (m : Nat) (w : World) (h : Sl .i64 w A n c xs) (hT : Tab w) (hk : cpOk xs m = true) :
    Calls Tryz.prog 67 #[.slice A n c, .int .i64 (m : Int)] w fun e w' => ∃ A' c', e = .returned (.slice A' m c') ∧ w'.ownsRow w.heap.size 3 1 (.slice A' m c') m (ivs .i64 (cpL xs m)) ∧ Below w.heap.size w w' := by
  have hl := Lib.hid h.len
  have hcap := h.cap
  have htop := h.top
  obtain ⟨⟨hn1, hn2⟩, ⟨hc1, hc2⟩, hA⟩ := cpOk_all hk
  rw [hl.out] at hn1 hn2 hc2
  have hp := pd_bd (n := n) (by omega)
  have hto := Lib.hid (trOk_pad (xs := xs) (by rw [hl.out]; omega))
  have hto' := Lib.hid (show trOk (xs ++ zs (pd n - n)) = true by rw [← hA, ← hto.out, hl.out])
  have hL := Lib.hid (show cpL xs m = (spL (xs ++ zs (pd n - n))).take m by unfold cpL; rw [hl.out]; rfl)
  have hlen := Lib.hid (show (xs ++ zs (pd n - n)).length = pd n by rw [List.length_append, zs_len, hl.out]; omega)
  clear hA hk
  go_enter Tryz.func67, Tryz.ntmps67
  go_wp2_with fail
  refine (RPadded_any n _ (by omega)).mono ?_
  rintro e w1 ⟨rfl, k1, hw1⟩
  have hb1 : Below w.heap.size w w1 := by rw [hw1]; exact bel_drewN (Below.refl _ _) k1
  clear hw1
  go_wp2_with fail
  refine (Rextended_any _ _ _ (pd n) _ _ (h.below hb1) (by omega) (by omega) (by omega)).mono ?_
  rintro e w2 ⟨g, rfl, hM, hb12, hg⟩
  have hb2 := hb1.trans (hb12.mono hb1.size)
  go_wp2_with fail
  refine (RSpectrum_any _ _ _ _ _ (hM.sl hlen.out (by omega)) (hT.below hb2) hto'.out).mono ?_
  rintro e w3 ⟨g3, rfl, hM3, hb23, hg3⟩
  have hb3 := hb2.trans (hb23.mono hb2.size)
  have hS := hM3.sl3 (n := pd n) (m := m) (by unfold spL; rw [tab_len, hlen.out]) (by omega) (by omega)
  have hSc : Sl .i64 w3 (some ⟨g3, 0, none⟩) m (pd n) ((spL (xs ++ zs (pd n - n))).take m) := (hM3.sl (by unfold spL; rw [tab_len, hlen.out]) (by omega)).take (by omega)
  have hgw : w.heap.size ≤ g3 := Nat.le_trans hb2.size hg3
  have hlS : (spL (xs ++ zs (pd n - n))).length = pd n := by unfold spL; rw [tab_len, hlen.out]
  have hown : w3.ownsRow w.heap.size 3 1 (.slice (some ⟨g3, 0, none⟩) m (pd n)) m (ivs .i64 ((spL (xs ++ zs (pd n - n))).take m)) :=
    ⟨by rw [ivs_len, List.length_take, hlS]; omega, .inr ⟨g3, pd n, (ivs .i64 (spL (xs ++ zs (pd n - n)))).toArray, rfl, hgw, hM3, by omega, by unfold maxLen; omega, by rw [List.size_toArray, ivs_len, hlS]; omega, by
      rw [Nat.mul_one]
      unfold ivs
      rw [List.map_take]⟩⟩
  clear hlS
  generalize pd n = P at *
  go_wp2
  go_ret
  exact ⟨_, _, rfl, by rw [hL.out]; exact hown, hb3⟩
end Go.Proofs.YtoljffghaklpdaaGreatDoor


/- The document's differences of vectors. -/
namespace Go.Proofs.YtoljffghaklpdaaGreatDoor
open Go.RowKit

set_option maxHeartbeats 6400000 in
set_option maxRecDepth 100000 in
theorem RDifferences_any (A : Option Addr) (n c m : Nat) (vs : List (List Int)) (w : World) (h : Rr w A n c vs) (hn : n ≤ 10000) (hm : m ≤ 64) (hu : VecS m vs) (hmm : 0 < n → (vs.headD []).length = m) :
    Calls Tryz.prog 68 #[.slice A n c] w (RetRr w n (difL vs)) := by
  have hl := Lib.hid h.len
  have hcap := h.cap
  have htop := h.top
  have hcL := Lib.hid (show difL vs = (List.range n).map (difR m vs) by
    unfold difL
    rw [hl.out]
    rcases Nat.eq_zero_or_pos n with e | e
    · subst e; rfl
    · rw [hmm e])
  have hu := Lib.hid hu
  obtain ⟨i0, hi, hz0, hz1, hz2⟩ := info_parts info_sl
  obtain ⟨j0, hj, hj0, hj1, hj2⟩ := info_parts info_int
  clear hmm
  go_enter Tryz.func68, Tryz.ntmps68
  go_wp2
  go_loopw [3, 4] (fun ov iv wr' => ∃ (t : Nat) (V : Value) (news : List Value) (wr : World), wr = wr' ∧ iv = .int .i64 t ∧ V = ov ∧ t ≤ n ∧ OwnRr wr w.heap.size V t news ((List.range t).map (difR m vs)) ∧ Below w.heap.size w wr) (fun _ iv _ => n - (intOf iv).toNat)
  case atStart => exact ⟨0, _, [], _, rfl, rfl, rfl, Nat.zero_le _, OwnRr.nil_ _ _, Below.refl _ _⟩
  case round =>
    obtain ⟨t, V, news, wr, rfl, rfl, rfl, htn, hO, hbel⟩ := hrel
    rcases Nat.lt_or_ge t n with hlt | hge
    · have hr := h.below hbel
      obtain ⟨AV, cV, rfl⟩ := own_slice hO.own
      obtain ⟨ad, B, L, C, x, rfl, hc, hx, hS, hB0, hL0⟩ := hr.at_ hlt
      obtain ⟨p, hp⟩ : ∃ p, min (t + 1) (n - 1) = p := ⟨_, rfl⟩
      obtain ⟨q, hq⟩ : ∃ q, t - 1 = q := ⟨_, rfl⟩
      have hpn : p < n := by omega
      have hqn : q < n := by omega
      obtain ⟨ad2, B2, L2, C2, y, e2, hc2, hy, hS2, _⟩ := hr.at_ hpn
      injection e2 with e2
      subst e2
      obtain ⟨ad3, B3, L3, C3, z, e3, hc3, hz, hS3, _⟩ := hr.at_ hqn
      injection e3 with e3
      subst e3
      have hxv := Lib.hid (hu.out x (List.mem_of_getElem? hx.out))
      have hyv := Lib.hid (hu.out y (List.mem_of_getElem? hy.out))
      have hzv := Lib.hid (hu.out z (List.mem_of_getElem? hz.out))
      have hLm : L = m := by rw [← hS.len]; exact hxv.out.1
      have hLm2 : L2 = m := by rw [← hS2.len]; exact hyv.out.1
      have hLm3 : L3 = m := by rw [← hS3.len]; exact hzv.out.1
      subst hLm
      subst hLm2
      subst hLm3
      have hdif := Lib.hid (show difR L3 vs t = x ++ tab L3 fun c => y.getD c 0 - z.getD c 0 by
        unfold difR
        rw [hl.out, hp, hq, getD_some hx.out, getD_some hy.out, getD_some hz.out])
      have hmin : min ((t : Int) + 1) ((n : Int) - 1) = (p : Int) := by omega
      have hmax : max ((t : Int) - 1) 0 = (q : Int) := by omega
      have hpi0 : (0 : Int) ≤ (p : Int) := by omega
      have hpi1 : (p : Int) < (n : Int) := by omega
      have hqi0 : (0 : Int) ≤ (q : Int) := by omega
      have hqi1 : (q : Int) < (n : Int) := by omega
      have w1e : IntKind.i64.wrap ((t : Int) + 1) = (t : Int) + 1 := IntWalk.i64_in _ (by omega)
      have w2e : IntKind.i64.wrap ((n : Int) - 1) = (n : Int) - 1 := IntWalk.i64_in _ (by omega)
      have w3e : IntKind.i64.wrap ((t : Int) - 1) = (t : Int) - 1 := IntWalk.i64_in _ (by omega)
      have hsx := Lib.hid (Src.of_sl hS hB0)
      clear hp hq
      go_wp2_with (at_builtin; refine wpList_append_any rfl (.const (.slice none 0 0)) (.tmp 18) 28 rfl wr.heap.size 3 j0 (.int .i64 0) 1 8 Tryz.underlying28 hj hj0 hj1 hj2 rfl (by decide) (.slice none 0 0) 0 [] rfl (World.ownsRow_nil _ _ _ _) B L3 C (ivs .i64 x) rfl hsx.out (by unfold maxLen; omega) (by omega) (Nat.le_refl _) ?_; intro V2 w2 h1 h2 h3; obtain ⟨A2, c2, rfl⟩ := own_slice h1)
      have hb2 : Below wr.heap.size wr w2 := (Below.refl wr.heap.size wr).grown h2 (Nat.le_refl _) (fun k e => by cases e)
      have hown2 : w2.ownsRow wr.heap.size 3 1 (.slice A2 L3 c2) L3 (ivs .i64 x) := by simpa using h1
      have hcw := (hb2.cell (World.block_lt_of_cell? _ _ hc)).trans hc
      have hcw2 := (hb2.cell (World.block_lt_of_cell? _ _ hc2)).trans hc2
      have hcw3 := (hb2.cell (World.block_lt_of_cell? _ _ hc3)).trans hc3
      clear h1 h2 h3 hsx
      go_wp2
      go_quiet (fail)
      have hb3 := bel_drewN hb2 nq
      have hown3 : (w2.drewN nq).ownsRow wr.heap.size 3 1 (.slice A2 L3 c2) L3 (ivs .i64 x) := hown2
      generalize w2.drewN nq = w3 at *
      clear hcw hcw2 hcw3 hmin hmax w1e w2e w3e hpi0 hpi1 hqi0 hqi1 hown2 hb2
      go_wp2
      go_loopw [5, 8] (fun ov iv w4' => ∃ (k : Nat) (V3 : Value) (w4 : World), w4 = w4' ∧ iv = .int .i64 k ∧ V3 = ov ∧ k ≤ L3 ∧ w4.ownsRow wr.heap.size 3 1 V3 (L3 + k) (ivs .i64 (x ++ tab k fun c => y.getD c 0 - z.getD c 0)) ∧ Below wr.heap.size wr w4) (fun _ iv _ => L3 - (intOf iv).toNat)
      case atStart => exact ⟨0, _, _, rfl, rfl, rfl, Nat.zero_le _, by simpa [tab] using hown3, hb3⟩
      case round =>
        obtain ⟨k, V3, w4, rfl, rfl, rfl, hkn, hown4, hb4⟩ := hrel
        obtain ⟨A3, c3, rfl⟩ := own_slice hown4
        have hc4 := (hb4.cell (World.block_lt_of_cell? _ _ hc)).trans hc
        rcases Nat.lt_or_ge k L3 with hkl | hkg
        · obtain ⟨ax, y1, rfl, hcy, hy1⟩ := hS2.at_ hkl
          obtain ⟨az, z1, rfl, hcz, hz1'⟩ := hS3.at_ hkl
          have hyb := allB_get hyv.out.2 (by rw [hyv.out.1]; exact hkl) hy1.out
          have hzb := allB_get hzv.out.2 (by rw [hzv.out.1]; exact hkl) hz1'.out
          have e3 : IntKind.i64.wrap (y1 - z1) = y1 - z1 := IntWalk.i64_in _ (by omega)
          have hyv2 := Lib.hid (show y1 - z1 = y.getD k 0 - z.getD k 0 by rw [hy1.out, hz1'.out])
          have k0 : (0 : Int) ≤ (k : Int) := by omega
          have k1 : (k : Int) < (L3 : Int) := by omega
          clear hyb hzb
          go_wp2
          have hKeep := Lib.hid (fun (wx : World) (hb : Below wr.heap.size wr wx) => show wx.cell? (ax.add k) = some (.int .i64 y1) ∧ wx.cell? (az.add k) = some (.int .i64 z1) from ⟨(hb.cell (World.block_lt_of_cell? _ _ hcy)).trans hcy, (hb.cell (World.block_lt_of_cell? _ _ hcz)).trans hcz⟩)
          have hown5 : w4.drew.ownsRow wr.heap.size 3 1 (.slice A3 (L3 + k) c3) (L3 + k) (ivs .i64 (x ++ tab k fun c => y.getD c 0 - z.getD c 0)) := hown4
          have hb5 : Below wr.heap.size wr w4.drew := bel_drewN hb4 1
          have hsz2 : wr.heap.size ≤ w4.drew.heap.size := hb5.size
          have hsz3 : wr.heap.size ≤ w4.heap.size := hb4.size
          have hrow := Lib.hid (fun q (hq : (Value.slice A3 (L3 + k) c3).ownBlock = some q) => (hown5.lt q hq).1)
          clear hc4
          go_region_held3 (fun wx => wx.cell? (ax.add k) = some (.int .i64 y1) ∧ wx.cell? (az.add k) = some (.int .i64 z1)) (first | exact hKeep.out _ hb5 | exact hKeep.out _ (hb5.alloc hsz2 _) | exact hKeep.out _ hb6 | exact hKeep.out _ hb4 | go_keep)
            (first
              | (refine step_append_lies _ (by rfl) _ _ _ (by rfl) wr.heap.size 3 j0 (.int .i64 0) 1 8 Tryz.underlying28 hj hj0 hj1 hj2 (by rfl) (by decide) (.slice A3 (L3 + k) c3) (L3 + k) (ivs .i64 (x ++ tab k fun c => y.getD c 0 - z.getD c 0)) (by rfl) (hown5.alloc _) ⟨w4.heap.size, 0, none⟩ 1 1 [.int .i64 (y1 - z1)] (by rfl) (by rfl) (news_one _ _ _) (oneCell1 _) (by omega) (by unfold maxLen; omega) (by omega) (by simp; omega) _ rfl ?_; intro g cap w5 hown6 hgrow hat hlt5; have hb6 : Below wr.heap.size wr w5 := (hb5.alloc hsz2 _).grown hgrow (by simp; omega) hrow.out))
          have hown7 : w5.ownsRow wr.heap.size 3 1 (.slice (some ⟨g, 0, none⟩) (L3 + (k + 1)) cap) (L3 + (k + 1)) (ivs .i64 (x ++ tab (k + 1) fun c => y.getD c 0 - z.getD c 0)) := by
            rw [tab_succ, ← hyv2.out, ← List.append_assoc, ivs_snoc, ← Nat.add_assoc]; exact hown6
          clear e3 k0 k1 hown6
          go_wp2
          go_roundw
          case rel => exact ⟨k + 1, _, _, rfl, by go_num, rfl, by omega, hown7, hb6⟩
          case measure => simp [intOf]; omega
        · have hkn' : k = L3 := by omega
          subst hkn'
          have hxl : (x ++ tab k fun c => y.getD c 0 - z.getD c 0).length = k + k := by rw [List.length_append, tab_len, hxv.out.1]
          have hO4 := hO.below hb4
          have hs := own_mono hown4 hbel.size
          have hbw := hbel.trans (hb4.mono hbel.size)
          have hsrc := Lib.hid (src_lit w4 28 A3 (k + k) c3)
          have hbz : w.heap.size ≤ (w4.alloc (.cells #[.slice A3 (k + k) c3] 28)).heap.size := by have := hbw.size; simp; omega
          have hrow := Lib.hid (fun q (hq : (Value.slice AV t cV).ownBlock = some q) => (hO4.own.lt q hq).1)
          go_wp2_with (at_builtin; refine wpList_append_any rfl (.tmp 56) (.tmp 58) 34 rfl w.heap.size 28 i0 nilV 1 24 Tryz.underlying34 hi hz0 hz1 hz2 rfl (by decide) (.slice AV t cV) t news rfl (hO4.own.alloc _) (some ⟨w4.heap.size, 0, none⟩) 1 1 [.slice A3 (k + k) c3] rfl hsrc.out (by unfold maxLen; omega) (by omega) hbz ?_)
          intro V2 w5 h1 h2 h3
          have hO5 := OwnRr.push hO4 (x := x ++ tab k fun c => y.getD c 0 - z.getD c 0) (by rw [hxl]; exact hs) (by omega) h1 h2
          have hb7 : Below w.heap.size w w5 := (hbw.alloc hbw.size _).grown h2 hbz hrow.out
          clear h1 h2 h3 hsrc
          go_wp2
          go_roundw
          case rel => exact ⟨t + 1, V2, _, _, rfl, by go_num, rfl, hlt, by rw [List.range_succ, List.map_append]; have e9 := hdif.out; rw [List.map_singleton, e9]; exact hO5, hb7⟩
          case measure => simp [intOf]; omega
    · have htn' : t = n := by omega
      subst htn'
      obtain ⟨A2, c2, rfl, hR⟩ := hO.rr
      go_wp2
      go_ret
      exact ⟨A2, c2, rfl, by rw [hcL.out]; exact hR, hbel⟩
end Go.Proofs.YtoljffghaklpdaaGreatDoor
