/- Spectra, lists with zeros added, cepstra: the program's. -/
import Derived.Test.YtjpdgnbdbpgnmaaDoorFF
import Derived.Laws.CopyOwn
namespace Go.Proofs.YtjpdgnbdbpgnmaaDoor
open Go.RowKit

/-- the first k places changed -/
def upd (n k : Nat) (F G : Nat → Int) : List Int := tab n fun j => if j < k then G j else F j
theorem upd_zero (n : Nat) (F G : Nat → Int) : upd n 0 F G = tab n F := tab_congr fun i _ => by simp
theorem upd_all (n : Nat) (F G : Nat → Int) : upd n n F G = tab n G := tab_congr fun i h => by simp [h]
theorem upd_len (n k : Nat) (F G : Nat → Int) : (upd n k F G).length = n := tab_len _ _
theorem upd_set {n k : Nat} (_h : k < n) (F G : Nat → Int) : (upd n k F G).set k (G k) = upd n (k + 1) F G := by
  apply List.ext_getElem
  · rw [List.length_set, upd_len, upd_len]
  · intro i h1 h2
    rw [List.getElem_set]
    rw [upd_len] at h2
    have a1 := tab_getD (f := fun j => if j < k then G j else F j) h2
    have a2 := tab_getD (f := fun j => if j < k + 1 then G j else F j) h2
    rw [getD_in (by rw [tab_len]; exact h2)] at a1 a2
    unfold upd
    rw [a1]
    refine Eq.trans ?_ a2.symm
    by_cases hk : k = i
    · subst hk; simp
    · rw [if_neg hk]
      by_cases hi : i < k
      · simp [hi, show i < k + 1 by omega]
      · simp [hi, show ¬ i < k + 1 by omega]
theorem upd_at {n k : Nat} (h : k < n) (F G : Nat → Int) : (upd n k F G).getD k 0 = F k := by
  unfold upd
  rw [tab_getD h]; simp

def spL (xs : List Int) : List Int := tab xs.length fun k => rnd (trA xs xs.length k) 16384
theorem trA_bd2 {xs : List Int} {n : Nat} (h : trOk xs = true) (hn : xs.length = n) (k : Nat) : -68719476736 ≤ trA xs n k ∧ trA xs n k ≤ 68719476736 := by
  unfold trOk at h
  simp only [Bool.and_eq_true] at h
  have h2 := lenB_le h.1
  exact trA_bd h.2 hn (by omega) (Nat.le_refl _)

set_option maxHeartbeats 800000 in
theorem Spectrum_any (A : Option Addr) (n c : Nat) (xs : List Int) (w : World) (h : Sl .i64 w A n c xs) (hT : Tab w) :
    Calls Tryd.prog 21 #[.slice A n c] w fun e w' => (trOk xs = true ∧ RetM w n (spL xs) e w') ∨ (trOk xs = false ∧ RetN w 2 e w') := by
  have hl := Lib.hid h.len
  have hn := h.cap
  have hn2 := h.top
  go_enter Tryd.func21, Tryd.ntmps21
  go_wp2_with fail
  refine (Transform_any _ _ _ _ _ h hT).mono ?_
  rintro e w2 (⟨hk, g, rfl, hM, hb, hg⟩ | ⟨hk, rfl, hb⟩)
  · have hbd := Lib.hid (fun k => trA_bd2 hk hl.out k)
    have hn3 : n ≤ 64 := by
      unfold trOk at hk
      simp only [Bool.and_eq_true] at hk
      have := lenB_le hk.1
      rw [hl.out] at this
      omega
    have hk := Lib.hid hk
    have hR := Lib.hid (show spL xs = tab n fun k => rnd (trA xs n k) 16384 by unfold spL; rw [hl.out])
    have e0 : trL xs = upd n 0 (trA xs n) fun k => rnd (trA xs n k) 16384 := by unfold trL; rw [hl.out, upd_zero]
    rw [e0] at hM
    clear e0
    go_wp2
    go_loopw [15] (fun iv wr => ∃ k : Nat, iv = .int .i64 k ∧ k ≤ n ∧ Mk wr g 3 .i64 (upd n k (trA xs n) fun k => rnd (trA xs n k) 16384) ∧ Below w.heap.size w wr) (fun iv _ => n - (intOf iv).toNat)
    case atStart => exact ⟨0, rfl, Nat.zero_le _, hM, hb⟩
    case round =>
      obtain ⟨k, rfl, hkn, hM2, hb2⟩ := hrel
      rcases Nat.lt_or_ge k n with hlt | hge
      · have hc := hM2.cell (i := k) (by rw [upd_len]; exact hlt)
        rw [upd_at hlt] at hc
        have hf := hM2.frozen k
        have hb3 := hbd.out k
        have hM3 := hM2.set_ k (rnd (trA xs n k) 16384)
        rw [upd_set hlt (trA xs n) fun k => rnd (trA xs n k) 16384] at hM3
        have hb4 := hb2.setCell (p := ⟨g, k, none⟩) hg (.int .i64 (rnd (trA xs n k) 16384))
        have hM3 := Lib.hid hM3
        have hq := Lib.hid (rfl : rnd (trA xs n k) 16384 = rnd (trA xs n k) 16384)
        generalize trA xs n k = v at *
        go_wp2_with (go_at_call 64; refine (divide_any _ _ _ (by omega) (by omega) (by decide) (by decide)).mono ?_; rintro e w' ⟨rfl, rfl⟩)
        go_roundw
        case rel => exact ⟨k + 1, by go_num, hlt, hM3.out, hb4⟩
        case measure => simp [intOf]; omega
      · have hkn' : k = n := by omega
        subst hkn'
        rw [upd_all] at hM2
        go_wp2
        go_ret2
        exact .inl ⟨hk.out, _, rfl, by rw [hR.out]; exact hM2, hb2, hg⟩
  · have hk := Lib.hid hk
    go_wp2
    go_loopw [15] (fun iv wr => iv = .int .i64 0 ∧ wr = w2) (fun _ _ => 0)
    case atStart => exact ⟨rfl, rfl⟩
    case round =>
      obtain ⟨rfl, rfl⟩ := hrel
      go_wp2
      go_ret2
      exact .inr ⟨hk.out, rfl, hb⟩

/-- the least length of a transform that is at least n -/
def pd (n : Nat) : Nat := if n ≤ 1 then 1 else if n ≤ 2 then 2 else if n ≤ 4 then 4 else if n ≤ 8 then 8 else if n ≤ 16 then 16 else if n ≤ 32 then 32 else 64
theorem pd_bd {n : Nat} (h : n ≤ 64) : n ≤ pd n ∧ 1 ≤ pd n ∧ pd n ≤ 64 := by
  unfold pd
  repeat' split
  all_goals omega
theorem pd_len : ∀ n, n ≤ 64 → lenB (pd n) = true := by decide +kernel
theorem pd_cases {n : Nat} (h : n ≤ 64) : (pd n = 1 ∧ n ≤ 1) ∨ (pd n = 2 ∧ 1 < n ∧ n ≤ 2) ∨ (pd n = 4 ∧ 2 < n ∧ n ≤ 4) ∨ (pd n = 8 ∧ 4 < n ∧ n ≤ 8) ∨ (pd n = 16 ∧ 8 < n ∧ n ≤ 16) ∨ (pd n = 32 ∧ 16 < n ∧ n ≤ 32) ∨ (pd n = 64 ∧ 32 < n) := by
  unfold pd
  repeat' split
  all_goals omega
def isP (L : Nat) : Prop := L = 1 ∨ L = 2 ∨ L = 4 ∨ L = 8 ∨ L = 16 ∨ L = 32 ∨ L = 64
theorem pd_next (n : Nat) (hn : n ≤ 64) (L : Nat) (hL : isP L) (h1 : L ≤ pd n) (h2 : L < n) : 2 * L ≤ pd n ∧ isP (2 * L) := by
  have := pd_cases hn
  unfold isP at *
  omega
theorem pd_end (n : Nat) (hn : n ≤ 64) (L : Nat) (hL : isP L) (h1 : L ≤ pd n) (h2 : n ≤ L) : L = pd n := by
  have := pd_cases hn
  unfold isP at *
  omega

theorem lengthFor_any (n : Nat) (w : World) (hn : n ≤ 64) : Calls Tryd.prog 73 #[.int .i64 (n : Int)] w fun e w' => e = .returned (.int .i64 (pd n)) ∧ w' = w := by
  have h1 := Lib.hid (pd_next n hn)
  have h2 := Lib.hid (pd_end n hn)
  have h3 := pd_bd hn
  go_enter Tryd.func73, Tryd.ntmps73
  go_wp2
  go_loop [3] (fun iv => ∃ L : Nat, iv = .int .i64 L ∧ L ≤ pd n ∧ Hid (isP L) ∧ 1 ≤ L) (fun iv => 64 - (intOf iv).toNat)
  case atStart => exact ⟨1, rfl, h3.2.1, Or.inl rfl, by decide⟩
  case round =>
    obtain ⟨L, rfl, hL, hm, hp⟩ := hrel
    rcases Nat.lt_or_ge L n with hlt | hge
    · have h4 := h1.out L hm.out hL hlt
      have h5 := h4.1
      have h6 := Lib.hid h4.2
      clear h4
      go_wp2
      go_round
      case rel => exact ⟨2 * L, by go_num, h5, h6, by omega⟩
      case measure => simp [intOf]; omega
    · have h4 := Lib.hid (h2.out L hm.out hL hge)
      have hd : decide ((L : Int) < (n : Int)) = false := decide_eq_false (by omega)
      go_wp2
      go_ret
      exact ⟨ret_int (by first | rfl | rw [h4.out]), rfl⟩
end Go.Proofs.YtjpdgnbdbpgnmaaDoor
