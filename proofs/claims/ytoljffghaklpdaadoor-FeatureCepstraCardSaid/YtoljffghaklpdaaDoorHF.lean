/- Cepstra: the document's, and the law's walk. -/
import Derived.Test.YtoljffghaklpdaaDoorHA
namespace Go.Proofs.YtoljffghaklpdaaDoor
open Go.RowKit

set_option maxHeartbeats 800000 in
theorem RPadded_any (n : Nat) (w : World) (hn : n ≤ 64) : Calls Tryd.prog 37 #[.int .i64 (n : Int)] w fun e w' => e = .returned (.int .i64 (pd n)) ∧ ∃ k, w' = w.drewN k := by
  have h1 := Lib.hid (pd_next n hn)
  have h2 := Lib.hid (pd_end n hn)
  have h3 := pd_bd hn
  go_enter Tryd.func37, Tryd.ntmps37
  go_wp2
  go_loopw [3] (fun iv wr => ∃ L r : Nat, iv = .int .i64 L ∧ wr = w.drewN r ∧ L ≤ pd n ∧ Hid (isP L) ∧ 1 ≤ L) (fun iv _ => 64 - (intOf iv).toNat)
  case atStart => exact ⟨1, 0, rfl, rfl, h3.2.1, Or.inl rfl, by decide⟩
  case round =>
    obtain ⟨L, r, rfl, rfl, hL, hm, hp⟩ := hrel
    rcases Nat.lt_or_ge L n with hlt | hge
    · have h4 := h1.out L hm.out hL hlt
      have h5 := h4.1
      have h6 := Lib.hid h4.2
      have hd : decide ((L : Int) < (n : Int)) = true := decide_eq_true (by omega)
      have hd2 : decide ((L : Int) < 64) = true := decide_eq_true (by omega)
      clear h4
      go_wp2
      go_roundw
      case rel => exact ⟨2 * L, r, by go_num, rfl, h5, h6, by omega⟩
      case measure => simp [intOf]; omega
    · have h4 := Lib.hid (h2.out L hm.out hL hge)
      have hd : decide ((L : Int) < (n : Int)) = false := decide_eq_false (by omega)
      go_wp2
      go_ret
      exact ⟨ret_int (by first | rfl | rw [h4.out]), r, rfl⟩

set_option maxRecDepth 100000 in
theorem Rextended_any (A : Option Addr) (n c m : Nat) (xs : List Int) (w : World) (h : Sl .i64 w A n c xs) (hn : 0 < n) (hm : n ≤ m) (hm2 : m ≤ 1000000) :
    Calls Tryd.prog 75 #[.slice A n c, .int .i64 (m : Int)] w fun e w' =>
      ∃ g, e = .returned (.slice (some ⟨g, 0, none⟩) m m) ∧ Mk w' g 3 .i64 (xs ++ zs (m - n)) ∧ Below w.heap.size w w' ∧ w.heap.size ≤ g := by
  have hl := Lib.hid h.len
  have hcap := h.cap
  have htop := h.top
  obtain ⟨ad, rfl, _⟩ := h.cell hn
  have hmk := make_int m (by omega) w
  have h1 := h.alloc (.cells (ivs .i64 (zs m)).toArray 3)
  have hM := Mk.new w 3 .i64 (zs m)
  have hb := (Below.refl w.heap.size w).alloc (Nat.le_refl _) (.cells (ivs .i64 (zs m)).toArray 3)
  have hcl := Lib.hid (show (ivs .i64 xs).length = n by rw [ivs_len, hl.out])
  have hc1 := Lib.hid (show (ivs .i64 xs).length = Nat.min n m by rw [hcl.out]; exact (Nat.min_eq_left hm).symm)
  have hc3 := Lib.hid (show 0 + (ivs .i64 xs).length ≤ (ivs .i64 (zs m)).toArray.size by rw [hcl.out]; simp [ivs_len, zs_len]; omega)
  have hnews := Lib.hid h1.news
  have hrow := Lib.hid (show (ivs .i64 xs ++ List.drop (ivs .i64 xs).length (ivs .i64 (zs m))) = ivs .i64 (xs ++ zs (m - n)) by
    rw [hcl.out, ivs_app]
    congr 1
    unfold ivs zs
    rw [← List.map_drop, List.drop_replicate])
  have hR : Mk ((w.alloc (.cells (ivs .i64 (zs m)).toArray 3)).setRow w.heap.size (ivs .i64 (xs ++ zs (m - n))).toArray) w.heap.size 3 .i64 (xs ++ zs (m - n)) := setRow_heap (w.alloc (.cells (ivs .i64 (zs m)).toArray 3)) w.heap.size _ _ 3 (0, 0) hM
  have hb2 : Below w.heap.size w ((w.alloc (.cells (ivs .i64 (zs m)).toArray 3)).setRow w.heap.size (ivs .i64 (xs ++ zs (m - n))).toArray) := below_setRow hb (Nat.le_refl _) _
  go_enter Tryd.func75, Tryd.ntmps75
  go_wp2_with (refine wpList_copy_own rfl (.tmp 8) (.tmp 9) 30 30 rfl 3 Tryd.underlying30 info_int1 w.heap.size 0 m m ad n c rfl rfl (ivs .i64 (zs m)).toArray 3 hM (ivs .i64 xs) hc1.out hnews.out hc3.out (oneCell_ivs _ _) ?_)
  rw [hrow.out]
  generalize (w.alloc (.cells (ivs .i64 (zs m)).toArray 3)).setRow w.heap.size (ivs .i64 (xs ++ zs (m - n))).toArray = w2 at *
  go_ret
  exact ⟨_, rfl, hR, hb2, Nat.le_refl _⟩

theorem cpOk_all {xs : List Int} {count : Int} (h : cpOk xs count = true) : (1 ≤ (xs.length : Int) ∧ (xs.length : Int) ≤ 64) ∧ (1 ≤ count ∧ count ≤ pd xs.length) ∧ allB (-65536) 65536 xs = true := by
  unfold cpOk at h
  simp only [Bool.and_eq_true] at h
  exact ⟨okB_iff.1 h.1, okB_iff.1 h.2.1, h.2.2⟩

set_option maxHeartbeats 800000 in
theorem RCepstrum_any (A : Option Addr) (n c : Nat) (xs : List Int) (m : Nat) (w : World) (h : Sl .i64 w A n c xs) (hT : Tab w) (hk : cpOk xs m = true) :
    Calls Tryd.prog 38 #[.slice A n c, .int .i64 (m : Int)] w fun e w' => ∃ A' c', e = .returned (.slice A' m c') ∧ Sl .i64 w' A' m c' (cpL xs m) ∧ Below w.heap.size w w' := by
  have hl := Lib.hid h.len
  have hcap := h.cap
  have htop := h.top
  obtain ⟨⟨hn1, hn2⟩, ⟨hc1, hc2⟩, hA⟩ := cpOk_all hk
  rw [hl.out] at hn1 hn2 hc2
  have hp := pd_bd (n := n) (by omega)
  have hto := Lib.hid (trOk_pad (xs := xs) (by rw [hl.out]; omega))
  have hto' := Lib.hid (show trOk (xs ++ zs (pd n - n)) = true by rw [← hA, ← hto.out, hl.out])
  have hL := Lib.hid (show cpL xs m = (spL (xs ++ zs (pd n - n))).take m by unfold cpL; rw [hl.out]; rfl)
  have hlen := Lib.hid (show (xs ++ zs (pd n - n)).length = pd n by rw [List.length_append, zs_len, hl.out]; omega)
  clear hA hk
  go_enter Tryd.func38, Tryd.ntmps38
  go_wp2_with fail
  refine (RPadded_any n _ (by omega)).mono ?_
  rintro e w1 ⟨rfl, k1, hw1⟩
  have hb1 : Below w.heap.size w w1 := by rw [hw1]; exact bel_drewN (Below.refl _ _) k1
  clear hw1
  go_wp2_with fail
  refine (Rextended_any _ _ _ (pd n) _ _ (h.below hb1) (by omega) (by omega) (by omega)).mono ?_
  rintro e w2 ⟨g, rfl, hM, hb12, hg⟩
  have hb2 := hb1.trans (hb12.mono hb1.size)
  go_wp2_with fail
  refine (RSpectrum_any _ _ _ _ _ (hM.sl hlen.out (by omega)) (hT.below hb2) hto'.out).mono ?_
  rintro e w3 ⟨g3, rfl, hM3, hb23, hg3⟩
  have hb3 := hb2.trans (hb23.mono hb2.size)
  have hS := hM3.sl3 (n := pd n) (m := m) (by unfold spL; rw [tab_len, hlen.out]) (by omega) (by omega)
  have hSc : Sl .i64 w3 (some ⟨g3, 0, none⟩) m (pd n) ((spL (xs ++ zs (pd n - n))).take m) := (hM3.sl (by unfold spL; rw [tab_len, hlen.out]) (by omega)).take (by omega)
  generalize pd n = P at *
  go_wp2
  go_ret
  exact ⟨_, _, rfl, by rw [hL.out]; exact hSc, hb3⟩
end Go.Proofs.YtoljffghaklpdaaDoor
