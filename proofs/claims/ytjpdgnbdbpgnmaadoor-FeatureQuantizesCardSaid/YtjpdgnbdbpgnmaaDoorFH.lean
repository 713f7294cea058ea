/- Lists with zeros added, cepstra, the inverse transform, the slack: the program's. -/
import Derived.Test.YtjpdgnbdbpgnmaaDoorFG
namespace Go.Proofs.YtjpdgnbdbpgnmaaDoor
open Go.RowKit

theorem info_int1 : (Tryd.prog.info? 3).map (·.size) = some 1 := by kernel_rfl
theorem Mk.sl3 {k : IntKind} {w : World} {g : Nat} {t : TypeId} {xs : List Int} (h : Mk w g t k xs) {n m : Nat} (hn : xs.length = n) (hm : m ≤ n) (ht : n ≤ 140737488355328) : Sl k w (some ⟨g, 0, none⟩) m m (xs.take m) :=
  ⟨by rw [List.length_take]; omega, Nat.le_refl _, by omega, fun hp => by
    obtain ⟨ad, e, hc⟩ := ((h.sl hn ht).take hm).cell hp
    exact ⟨ad, e, hc⟩⟩

set_option maxRecDepth 100000 in
theorem extend_any (A : Option Addr) (n c m : Nat) (xs : List Int) (w : World) (h : Sl .i64 w A n c xs) (hn : 0 < n) (hm : n ≤ m) (hm2 : m ≤ 1000000) :
    Calls Tryd.prog 74 #[.slice A n c, .int .i64 (m : Int)] w fun e w' =>
      ∃ g, e = .returned (.slice (some ⟨g, 0, none⟩) m m) ∧ Mk w' g 3 .i64 (xs ++ zs (m - n)) ∧ Below w.heap.size w w' ∧ w.heap.size ≤ g := by
  have hl := Lib.hid h.len
  have hcap := h.cap
  have htop := h.top
  obtain ⟨ad, rfl, _⟩ := h.cell hn
  have hmk := make_int m (by omega) w
  have h1 := h.alloc (.cells (ivs .i64 (zs m)).toArray 3)
  have hM := Mk.new w 3 .i64 (zs m)
  have hb := (Below.refl w.heap.size w).alloc (Nat.le_refl _) (.cells (ivs .i64 (zs m)).toArray 3)
  have hcl := Lib.hid (show (ivs .i64 xs).length = n by rw [ivs_len, hl.out])
  have hc1 := Lib.hid (show (ivs .i64 xs).length = Nat.min n m by rw [hcl.out]; exact (Nat.min_eq_left hm).symm)
  have hc3 := Lib.hid (show 0 + (ivs .i64 xs).length ≤ (ivs .i64 (zs m)).toArray.size by rw [hcl.out]; simp [ivs_len, zs_len]; omega)
  have hnews := Lib.hid h1.news
  have hrow := Lib.hid (show (ivs .i64 xs ++ List.drop (ivs .i64 xs).length (ivs .i64 (zs m))) = ivs .i64 (xs ++ zs (m - n)) by
    rw [hcl.out, ivs_app]
    congr 1
    unfold ivs zs
    rw [← List.map_drop, List.drop_replicate])
  have hR : Mk ((w.alloc (.cells (ivs .i64 (zs m)).toArray 3)).setRow w.heap.size (ivs .i64 (xs ++ zs (m - n))).toArray) w.heap.size 3 .i64 (xs ++ zs (m - n)) := setRow_heap (w.alloc (.cells (ivs .i64 (zs m)).toArray 3)) w.heap.size _ _ 3 (0, 0) hM
  have hb2 : Below w.heap.size w ((w.alloc (.cells (ivs .i64 (zs m)).toArray 3)).setRow w.heap.size (ivs .i64 (xs ++ zs (m - n))).toArray) := below_setRow hb (Nat.le_refl _) _
  go_enter Tryd.func74, Tryd.ntmps74
  go_wp2_with (refine wpList_copy_own rfl (.tmp 8) (.tmp 9) 30 30 rfl 3 Tryd.underlying30 info_int1 w.heap.size 0 m m ad n c rfl rfl (ivs .i64 (zs m)).toArray 3 hM (ivs .i64 xs) hc1.out hnews.out hc3.out (oneCell_ivs _ _) ?_)
  rw [hrow.out]
  generalize (w.alloc (.cells (ivs .i64 (zs m)).toArray 3)).setRow w.heap.size (ivs .i64 (xs ++ zs (m - n))).toArray = w2 at *
  go_ret
  exact ⟨_, rfl, hR, hb2, Nat.le_refl _⟩

def cpOk (xs : List Int) (count : Int) : Bool := okB 1 64 xs.length && (okB 1 (pd xs.length) count && allB (-65536) 65536 xs)
def cpL (xs : List Int) (count : Int) : List Int := (spL (xs ++ zs (pd xs.length - xs.length))).take count.toNat
/-- the call returned a list beside the code 0 -/
def RetS (w : World) (n : Nat) (ys : List Int) (e : Ending) (w' : World) : Prop :=
  ∃ A c, e = .returned (.tuple #[.slice A n c, .int .i64 0]) ∧ Sl .i64 w' A n c ys ∧ Below w.heap.size w w'
theorem allB_app {lo hi : Int} (xs ys : List Int) : allB lo hi (xs ++ ys) = (allB lo hi xs && allB lo hi ys) := by unfold allB; simp
theorem allB_zs {lo hi : Int} (h1 : lo ≤ 0) (h2 : 0 ≤ hi) (n : Nat) : allB lo hi (zs n) = true := by
  unfold allB zs
  rw [List.all_eq_true]
  intro x hx
  rw [List.eq_of_mem_replicate hx]
  exact okB_mk h1 h2
theorem trOk_pad {xs : List Int} (h : xs.length ≤ 64) : trOk (xs ++ zs (pd xs.length - xs.length)) = allB (-65536) 65536 xs := by
  unfold trOk
  have := pd_bd h
  rw [List.length_append, zs_len, show xs.length + (pd xs.length - xs.length) = pd xs.length by omega, pd_len _ h, allB_app, allB_zs (by decide) (by decide)]
  simp

set_option maxHeartbeats 800000 in
theorem Cepstrum_any (A : Option Addr) (n c : Nat) (xs : List Int) (count : Int) (w : World) (h : Sl .i64 w A n c xs) (hT : Tab w) :
    Calls Tryd.prog 36 #[.slice A n c, .int .i64 count] w fun e w' => (cpOk xs count = true ∧ RetS w count.toNat (cpL xs count) e w') ∨ (cpOk xs count = false ∧ RetN w 2 e w') := by
  have hl := Lib.hid h.len
  have hcap := h.cap
  have htop := h.top
  cases hn : okB 1 64 (n : Int) with
  | false =>
    have hk := Lib.hid (show cpOk xs count = false by unfold cpOk; rw [hl.out, hn]; rfl)
    have hn := Lib.hid hn
    go_enter Tryd.func36, Tryd.ntmps36
    go_wp2_with fail
    refine (within_any _ _ _ _).mono ?_
    rintro e w' ⟨rfl, rfl⟩
    rw [hn.out]
    go_wp2
    go_ret2
    exact .inr ⟨hk.out, rfl, Below.refl _ _⟩
  | true =>
    obtain ⟨hn1, hn2⟩ := okB_iff.1 hn
    have hp := pd_bd (n := n) (by omega)
    cases hc : okB 1 (pd n) count with
    | false =>
      have hk := Lib.hid (show cpOk xs count = false by unfold cpOk; rw [hl.out, hn, hc]; rfl)
      have hn := Lib.hid hn
      have hc := Lib.hid hc
      go_enter Tryd.func36, Tryd.ntmps36
      go_wp2_with fail
      refine (within_any _ _ _ _).mono ?_
      rintro e w' ⟨rfl, rfl⟩
      rw [hn.out]
      go_wp2_with fail
      refine (lengthFor_any _ _ (by omega)).mono ?_
      rintro e w' ⟨rfl, rfl⟩
      go_wp2_with fail
      refine (within_any _ _ _ _).mono ?_
      rintro e w' ⟨rfl, rfl⟩
      rw [hc.out]
      go_wp2
      go_ret2
      exact .inr ⟨hk.out, rfl, Below.refl _ _⟩
    | true =>
      obtain ⟨hc1, hc2⟩ := okB_iff.1 hc
      obtain ⟨m, rfl⟩ : ∃ m : Nat, count = (m : Int) := ⟨count.toNat, by omega⟩
      have hk := Lib.hid (show cpOk xs m = allB (-65536) 65536 xs by unfold cpOk; rw [hl.out, hn, hc]; rfl)
      have hL := Lib.hid (show cpL xs m = (spL (xs ++ zs (pd n - n))).take m by unfold cpL; rw [hl.out]; rfl)
      have hto := Lib.hid (trOk_pad (xs := xs) (by rw [hl.out]; omega))
      have hto' := Lib.hid (show trOk (xs ++ zs (pd n - n)) = cpOk xs m by rw [hk.out, ← hto.out, hl.out])
      have hn := Lib.hid hn
      have hc := Lib.hid hc
      go_enter Tryd.func36, Tryd.ntmps36
      go_wp2_with fail
      refine (within_any _ _ _ _).mono ?_
      rintro e w' ⟨rfl, rfl⟩
      rw [hn.out]
      go_wp2_with fail
      refine (lengthFor_any _ _ (by omega)).mono ?_
      rintro e w' ⟨rfl, rfl⟩
      go_wp2_with fail
      refine (within_any _ _ _ _).mono ?_
      rintro e w' ⟨rfl, rfl⟩
      rw [hc.out]
      go_wp2_with fail
      refine (lengthFor_any _ _ (by omega)).mono ?_
      rintro e w' ⟨rfl, rfl⟩
      go_wp2_with fail
      refine (extend_any _ _ _ (pd n) _ _ h (by omega) (by omega) (by omega)).mono ?_
      rintro e w2 ⟨g, rfl, hM, hb, hg⟩
      go_wp2_with fail
      have hlen := Lib.hid (show (xs ++ zs (pd n - n)).length = pd n by rw [List.length_append, zs_len, hl.out]; omega)
      refine (Spectrum_any _ _ _ _ _ (hM.sl hlen.out (by omega)) (hT.below hb)).mono ?_
      rintro e w3 (⟨hk3, g3, rfl, hM3, hb3, hg3⟩ | ⟨hk3, rfl, hb3⟩)
      · have hb4 := hb.trans (hb3.mono hb.size)
        rw [hto'.out] at hk3
        have hk3 := Lib.hid hk3
        have hS := hM3.sl3 (n := pd n) (m := m) (by unfold spL; rw [tab_len, hlen.out]) (by omega) (by omega)
        generalize pd n = P at *
        go_wp2
        go_ret2
        exact .inl ⟨hk3.out, _, _, rfl, by rw [hL.out]; exact hS, hb4⟩
      · have hb4 := hb.trans (hb3.mono hb.size)
        rw [hto'.out] at hk3
        have hk3 := Lib.hid hk3
        go_wp2
        go_ret2
        exact .inr ⟨hk3.out, rfl, hb4⟩
end Go.Proofs.YtjpdgnbdbpgnmaaDoor
