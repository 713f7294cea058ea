/- Training: the program's. -/
import Derived.Test.YtfgiiidfpbpniaaGreatDoorMB
namespace Go.Proofs.YtfgiiidfpbpniaaGreatDoor
open Go.RowKit

def RetT (w : World) (n k : Nat) (vs : List (List Int)) (e : Ending) (w' : World) : Prop := ∃ A c, e = .returned (.tuple #[.slice A n c, .int .i64 (k : Int), .int .i64 0]) ∧ Rr w' A n c vs ∧ Below w.heap.size w w'
def RetTN (w : World) (code : Int) (e : Ending) (w' : World) : Prop := e = .returned (.tuple #[.slice none 0 0, .int .i64 0, .int .i64 code]) ∧ Below w.heap.size w w'

set_option maxHeartbeats 1600000 in
theorem Train_bad (A A' : Option Addr) (N c n c' : Nat) (vs us : List (List Int)) (r : Int) (w : World) (h : Rr w A N c vs) (h' : Rr w A' n c' us) (h0 : codC vs us ≠ 0) :
    Calls Tryz.prog 11 #[.slice A N c, .slice A' n c', .int .i64 r] w (RetTN w (codC vs us)) := by
  have hne : (codC vs us != 0) = true := by simp [h0]
  have hne2 : (codC vs us == 0) = false := by simp [h0]
  go_enter Tryz.func11, Tryz.ntmps11
  go_wp2_with fail
  refine (checkCoding_any _ _ _ _ _ _ _ _ _ h h').mono ?_
  rintro e w1 ⟨rfl, hb1⟩
  generalize codC vs us = q at *
  go_wp2
  go_ret3
  exact ⟨rfl, hb1⟩
set_option maxHeartbeats 1600000 in
theorem Train_long (A A' : Option Addr) (N c n c' : Nat) (vs us : List (List Int)) (r : Int) (w : World) (h : Rr w A N c vs) (h' : Rr w A' n c' us) (h0 : codC vs us = 0) (hr : okB 0 1000 r = false) :
    Calls Tryz.prog 11 #[.slice A N c, .slice A' n c', .int .i64 r] w (RetTN w 2) := by
  have h0 := Lib.hid h0
  have hW := fun w9 => within_any r 0 1000 w9
  rw [hr] at hW
  have hW := Lib.hid hW
  clear hr
  go_enter Tryz.func11, Tryz.ntmps11
  go_wp2_with fail
  refine (checkCoding_any _ _ _ _ _ _ _ _ _ h h').mono ?_
  rintro e w1 ⟨rfl, hb1⟩
  rw [h0.out]
  go_wp2_with fail
  refine (hW.out w1).mono ?_
  rintro e w2 ⟨rfl, rfl⟩
  go_wp2
  go_ret3
  exact ⟨rfl, hb1⟩

set_option maxHeartbeats 6400000 in
set_option maxRecDepth 100000 in
theorem Train_any (A A' : Option Addr) (N c n c' R : Nat) (vs us : List (List Int)) (w : World) (h : Rr w A N c vs) (h' : Rr w A' n c' us) (h0 : codC vs us = 0) (hR : R ≤ 1000) :
    Calls Tryz.prog 11 #[.slice A N c, .slice A' n c', .int .i64 (R : Int)] w fun e w' => ∃ k, Stop (us.headD []).length vs us R k ∧ RetT w n k (itr (us.headD []).length vs us k) e w' := by
  have hl := Lib.hid h.len
  have hl' := Lib.hid h'.len
  obtain ⟨k1, k2, k3, k4, k5, k6, k7⟩ := codC_ok h0
  rw [hl.out] at k1
  rw [hl'.out] at k2 k3
  obtain ⟨m, hm⟩ : ∃ m, (us.headD []).length = m := ⟨_, rfl⟩
  rw [hm] at k4 k5 k6 k7
  rw [hm]
  have hm := Lib.hid hm
  have k6 := Lib.hid k6
  have k7 := Lib.hid k7
  have h0 := Lib.hid h0
  have hIl := Lib.hid (fun k => show (itr m vs us k).length = n by rw [itr_len, hl'.out])
  have hIv := Lib.hid (fun k => itr_vec k6.out k7.out k)
  have hW := fun w9 => within_any (R : Int) 0 1000 w9
  rw [show okB 0 1000 (R : Int) = true by rw [okB_iff]; omega] at hW
  have hW := Lib.hid hW
  have htop := h'.top
  have hcap := h'.cap
  go_enter Tryz.func11, Tryz.ntmps11
  go_wp2_with fail
  refine (checkCoding_any _ _ _ _ _ _ _ _ _ h h').mono ?_
  rintro e w1 ⟨rfl, hb1⟩
  rw [h0.out]
  go_wp2_with fail
  refine (hW.out w1).mono ?_
  rintro e w2 ⟨rfl, hw2⟩
  rw [← hw2]
  clear hw2
  have h1' := h'.below hb1
  go_wp2_with fail
  refine (copyVectors_any A' n c' m us w1 h1' (by omega) k4 k5 (fun u hu => (k7.out u hu).1)).mono ?_
  rintro e w3 ⟨g3, news, rfl, hB3, hR3, hb13, hg3⟩
  have hRr := Rr.of_blk hB3 hR3 hl'.out (by omega)
  have hb3 := hb1.trans (hb13.mono hb1.size)
  go_wp2
  go_loopw [10, 25] (fun tv iv wr' => ∃ (k : Nat) (A1 : Option Addr) (c1 : Nat) (wr : World), wr = wr' ∧ iv = .int .i64 k ∧ tv = .slice A1 n c1 ∧ k ≤ R ∧ Rr wr A1 n c1 (itr m vs us k) ∧ Hid (∀ j, j < k → itr m vs us (j + 1) ≠ itr m vs us j) ∧ Below w.heap.size w wr) (fun _ iv _ => R - (intOf iv).toNat)
  case atStart => exact ⟨0, _, _, _, rfl, rfl, rfl, Nat.zero_le _, hRr, fun j hj => absurd hj (Nat.not_lt_zero j), hb3⟩
  case round =>
    obtain ⟨k, A1, c1, wr, rfl, rfl, rfl, hkR, hRk, hd, hbr⟩ := hrel
    rcases Nat.lt_or_ge k R with hlt | hge
    · have hvr := h.below hbr
      go_wp2_with fail
      refine (improve_any _ _ _ _ _ _ m _ _ _ hvr hRk k1 (by omega) k4 k5 k6.out (hIv.out k) k3).mono ?_
      rintro e w5 ⟨g5, news5, rfl, hB5, hR5, hb5, hg5⟩
      have hRn : Rr w5 (some ⟨g5, 0, none⟩) n n (itr m vs us (k + 1)) := Rr.of_blk hB5 hR5 (hIl.out (k + 1)) (by omega)
      have hRk5 := hRk.below hb5
      have hb6 := hbr.trans (hb5.mono hbr.size)
      go_wp2_with fail
      refine (EqualFunc_any _ _ _ _ _ _ _ _ _ hRn hRk5).mono ?_
      rintro e w7 ⟨b, r7, rfl, hbe, hw7⟩
      have hb57 : Below w5.heap.size w5 w7 := by rw [hw7]; exact bel_drewN (Below.refl _ _) r7
      clear hw7
      have hb7 := hb6.trans (hb57.mono hb6.size)
      have hRn7 := hRn.below hb57
      have hRk7 := hRk5.below hb57
      cases b with
      | true =>
        have he := Lib.hid (hbe.1 rfl)
        clear hbe
        go_wp2
        go_ret3
        exact ⟨k, ⟨hkR, hd.out, fun _ => he.out⟩, A1, c1, rfl, hRk7, hb7⟩
      | false =>
        have hne := Lib.hid (show itr m vs us (k + 1) ≠ itr m vs us k from fun e => by have := hbe.2 e; cases this)
        clear hbe
        have hd2 := Lib.hid (show ∀ j, j < k + 1 → itr m vs us (j + 1) ≠ itr m vs us j from fun j hj => by
          rcases Nat.lt_or_ge j k with h9 | h9
          · exact hd.out j h9
          · rw [show j = k by omega]; exact hne.out)
        go_wp2
        go_roundw
        case rel => exact ⟨k + 1, _, _, _, rfl, by go_num, rfl, hlt, hRn7, hd2.out, hb7⟩
        case measure => simp [intOf]; omega
    · have hkR' : R = k := by omega
      subst hkR'
      go_wp2
      go_ret3
      exact ⟨R, ⟨Nat.le_refl _, hd.out, fun e => absurd e (Nat.lt_irrefl _)⟩, A1, c1, rfl, hRk, hbr⟩
end Go.Proofs.YtfgiiidfpbpniaaGreatDoor
