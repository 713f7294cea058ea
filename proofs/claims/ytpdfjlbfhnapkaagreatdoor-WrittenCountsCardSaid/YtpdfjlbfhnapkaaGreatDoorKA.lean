/- The words of numbers of thousands; WrittenThousands returns true. -/
import Derived.Test.YtpdfjlbfhnapkaaGreatDoorTY
namespace Go.Proofs.YtpdfjlbfhnapkaaGreatDoor
open Go.RowKit
set_option linter.unusedSimpArgs false
set_option linter.unusedVariables false
set_option maxRecDepth 100000

theorem joinW_cons (x : Str) (xs : List Str) (h : xs ≠ []) : joinW (x :: xs) = x ++ 32 :: joinW xs := by
  cases xs with
  | nil => exact absurd rfl h
  | cons y ys =>
    unfold joinW
    rw [Lib.join_cons, Lib.join_cons]
    unfold Lib.joinTail
    simp
theorem joinW_one (x : Str) : joinW [x] = x := Lib.join_one x [32]
theorem joinW_app (a b : List Str) (ha : a ≠ []) (hb : b ≠ []) : joinW (a ++ b) = joinW a ++ 32 :: joinW b := by
  induction a with
  | nil => exact absurd rfl ha
  | cons x xs ih =>
    cases xs with
    | nil => rw [joinW_one]; exact joinW_cons x b hb
    | cons y ys =>
      rw [List.cons_append, joinW_cons x _ (by simp), ih (by simp), joinW_cons x (y :: ys) (by simp)]
      simp
theorem lastW_pre (pre q : List Str) (m : Nat) (hq : q ≠ []) : lastW (pre ++ q) m = pre ++ lastW q m := by
  unfold lastW
  rw [if_neg (by simp [hq]), if_neg hq]
  split
  · rfl
  · simp
theorem cnt_thou (a b : Nat) (ha : 1 ≤ a) (ha2 : a ≤ 999) (hb : b ≤ 999) : cntW (1000 * a + b) = tailW (cnt3 a ++ [[116, 104, 111, 117, 115, 97, 110, 100]]) b := by
  unfold cntW cntG
  have h1 : loopW cnt3 powL [] (1000 * a + b) = (cnt3 a ++ [[116, 104, 111, 117, 115, 97, 110, 100]], b) := by
    have e1 : ¬ 1000000000 ≤ 1000 * a + b := by omega
    have e2 : ¬ 1000000 ≤ 1000 * a + b := by omega
    have e3 : 1000 ≤ 1000 * a + b := by omega
    have e4 : (1000 * a + b) / 1000 = a := by omega
    have e5 : (1000 * a + b) % 1000 = b := by omega
    unfold powL loopW
    rw [if_neg e1]
    unfold loopW
    rw [if_neg e2]
    unfold loopW
    rw [if_pos e3]
    unfold loopW
    rw [e4, e5]
    rfl
  rw [h1]
theorem cnt_sm {b : Nat} (hb : b ≤ 999) : cntW b = cnt3 b := cntG_small cnt3 (by omega)
theorem cnt3_ne (b : Nat) : cnt3 b ≠ [] := by
  unfold cnt3 tailW
  split
  · exact lastW_ne _ _
  · exact lastW_ne _ _
/-- the words of thousands and the rest -/
def thouS (Y Z : Str) (b : Nat) : Str := Y ++ [32, 116, 104, 111, 117, 115, 97, 110, 100] ++ (if 0 < b ∧ b < 100 then [32, 97, 110, 100] else []) ++ (if 0 < b then 32 :: Z else [])
theorem thou_join (a b : Nat) (ha : 1 ≤ a) (ha2 : a ≤ 999) (hb : b ≤ 999) : joinW (cntW (1000 * a + b)) = thouS (joinW (cntW a)) (joinW (cntW b)) b := by
  rw [cnt_thou a b ha ha2 hb, cnt_sm ha2, cnt_sm hb]
  have hp : joinW (cnt3 a ++ [[116, 104, 111, 117, 115, 97, 110, 100]]) = joinW (cnt3 a) ++ [32, 116, 104, 111, 117, 115, 97, 110, 100] := by
    rw [joinW_app _ _ (cnt3_ne a) (by simp), joinW_one]
  unfold thouS
  by_cases h1 : 100 ≤ b
  · have e1 : tailW (cnt3 a ++ [[116, 104, 111, 117, 115, 97, 110, 100]]) b = (cnt3 a ++ [[116, 104, 111, 117, 115, 97, 110, 100]]) ++ cnt3 b := by
      unfold tailW
      rw [if_pos h1, lastW_pre _ _ _ (by simp)]
      show _ = (cnt3 a ++ [[116, 104, 111, 117, 115, 97, 110, 100]]) ++ tailW [] b
      unfold tailW
      rw [if_pos h1]
      rfl
    rw [e1, joinW_app _ _ (by simp) (cnt3_ne b), hp, if_neg (by omega), if_pos (by omega)]
    simp
  · have e1 : tailW (cnt3 a ++ [[116, 104, 111, 117, 115, 97, 110, 100]]) b = lastW (cnt3 a ++ [[116, 104, 111, 117, 115, 97, 110, 100]]) b := if_neg h1
    have e2 : cnt3 b = twoW b := by
      show tailW [] b = _
      unfold tailW
      rw [if_neg h1]
      unfold lastW
      rw [if_pos rfl]
    rw [e1]
    unfold lastW
    rw [if_neg (by simp)]
    by_cases h2 : b = 0
    · rw [if_pos h2, hp, if_neg (by omega), if_neg (by omega)]
      simp only [List.append_nil]
    · rw [if_neg h2, if_pos (by omega), if_pos (by omega), e2, joinW_app _ _ (by simp) (twoW_ne b), joinW_app _ _ (by simp) (by simp), hp, joinW_one]
set_option maxHeartbeats 8000000 in
theorem thousands_law (a b : Int) (w : World) (h1 : -9223372036854775808 ≤ a ∧ a ≤ 9223372036854775807) (h2 : -9223372036854775808 ≤ b ∧ b ≤ 9223372036854775807) (hT : WT w) :
    Calls Tryz.prog 9 #[.int .i64 a, .int .i64 b] w fun e w' => e = .returned (.bool true) ∧ Below w.heap.size w w' := by
  have hkn := Lib.hid (fun (w9 : World) (h9 : WT w9) => known_any w9 h9)
  by_cases hr : (1 ≤ a ∧ a ≤ 999) ∧ 0 ≤ b ∧ b ≤ 999
  · obtain ⟨m, rfl⟩ : ∃ m : Nat, a = (m : Int) := ⟨a.toNat, by omega⟩
    obtain ⟨n, rfl⟩ : ∃ n : Nat, b = (n : Int) := ⟨b.toNat, by omega⟩
    have hj := thou_join m n (by omega) (by omega) (by omega)
    have c1 : crdF (1000 * (m : Int) + (n : Int)) = (thouS (joinW (cntW m)) (joinW (cntW n)) n, 0) := by
      unfold crdF
      rw [if_pos (by omega), if_neg (by omega), show (1000 * (m : Int) + (n : Int)).toNat = 1000 * m + n by omega, hj]
    have c2 : crdF (m : Int) = (joinW (cntW m), 0) := by
      unfold crdF
      rw [if_pos (by omega), if_neg (by omega), Int.toNat_natCast]
    have c3 : crdF (n : Int) = (joinW (cntW n), 0) := by
      unfold crdF
      rw [if_pos (by omega), if_neg (by omega), Int.toNat_natCast]
    have k1 := Lib.hid (fun (w9 : World) (h9 : WT w9) => Cardinal_any (1000 * (m : Int) + (n : Int)) w9 h9)
    have k2 := Lib.hid (fun (w9 : World) (h9 : WT w9) => Cardinal_any (m : Int) w9 h9)
    have k3 := Lib.hid (fun (w9 : World) (h9 : WT w9) => Cardinal_any (n : Int) w9 h9)
    rw [c1] at k1
    rw [c2] at k2
    rw [c3] at k3
    have ly : (joinW (cntW m)).length ≤ 400 * 31 := by
      have h8 := joinW_len (m := 30) (fun x hx => by have := cntW_short (n := m) (by omega) x hx; omega)
      have h9 := cntW_len m
      exact Nat.le_trans h8 (Nat.mul_le_mul_right _ h9)
    have lz : (joinW (cntW n)).length ≤ 400 * 31 := by
      have h8 := joinW_len (m := 30) (fun x hx => by have := cntW_short (n := n) (by omega) x hx; omega)
      have h9 := cntW_len n
      exact Nat.le_trans h8 (Nat.mul_le_mul_right _ h9)
    clear hj c1 c2 c3
    generalize joinW (cntW m) = Y at *
    generalize joinW (cntW n) = Z at *
    have a1 : ¬ (m : Int) < 1 := by omega
    have a1d : decide ((m : Int) < 1) = false := decide_eq_false a1
    have a2 : ¬ (999 : Int) < (m : Int) := by omega
    have a2d : decide ((999 : Int) < (m : Int)) = false := decide_eq_false a2
    have a3 : ¬ (n : Int) < 0 := by omega
    have a3d : decide ((n : Int) < 0) = false := decide_eq_false a3
    have a4 : ¬ (999 : Int) < (n : Int) := by omega
    have a4d : decide ((999 : Int) < (n : Int)) = false := decide_eq_false a4
    have w1 : IntKind.i64.wrap (1000 * (m : Int)) = 1000 * (m : Int) := IntWalk.i64_in _ (by omega)
    have w2 : IntKind.i64.wrap (1000 * (m : Int) + (n : Int)) = 1000 * (m : Int) + (n : Int) := IntWalk.i64_in _ (by omega)
    clear h1 h2 hr
    go_enter Tryz.func9, Tryz.ntmps9
    go_wp2_with fail
    refine (k1.out w hT).mono ?_
    rintro e x1 ⟨rfl, b1⟩
    go_wp2_with fail
    refine (k2.out x1 (hT.below b1)).mono ?_
    rintro e x2 ⟨rfl, hx2⟩
    have b2 := b1.trans (hx2.mono b1.size)
    go_wp2_with fail
    refine (k3.out x2 (hT.below b2)).mono ?_
    rintro e x3 ⟨rfl, hx3⟩
    have b3 := b2.trans (hx3.mono b2.size)
    clear k1 k2 k3 hx2 hx3 b1 b2
    have hb0 : ∀ (u v : Str), (⟨(u ++ v).toArray⟩ : ByteArray) = ⟨u.toArray⟩ ++ ⟨v.toArray⟩ := by
      intro u v
      apply ByteArray.ext
      simp
    have fin : ∀ (w9 : World) (h9 : Below w.heap.size w w9), Calls Tryz.prog 18 #[] w9 fun e w' => e = .returned (.bool true) ∧ Below w.heap.size w w' := by
      intro w9 h9
      refine (hkn.out w9 (hT.below h9)).mono ?_
      rintro e w' ⟨rfl, h8⟩
      exact ⟨rfl, h9.trans (h8.mono h9.size)⟩
    have fin := Lib.hid fin
    clear hkn
    by_cases h0 : n = 0
    · subst h0
      have hS : (⟨(thouS Y Z 0).toArray⟩ : ByteArray) = ⟨Y.toArray⟩ ++ ⟨#[32, 116, 104, 111, 117, 115, 97, 110, 100]⟩ := by
        unfold thouS
        rw [if_neg (by omega), if_neg (by omega), List.append_nil, List.append_nil]
        exact hb0 _ _
      go_wp2_with fail
      refine (fin.out x3 b3).mono ?_
      rintro e x4 ⟨rfl, b4⟩
      go_wp2
      go_ret
      exact ⟨rfl, b4⟩
    · have p1 : (0 : Int) < (n : Int) := by omega
      have p1d : decide ((0 : Int) < (n : Int)) = true := decide_eq_true p1
      by_cases h9 : n < 100
      · have p2 : (n : Int) < 100 := by omega
        have p2d : decide ((n : Int) < 100) = true := decide_eq_true p2
        have hS : (⟨(thouS Y Z n).toArray⟩ : ByteArray) = ⟨Y.toArray⟩ ++ ⟨#[32, 116, 104, 111, 117, 115, 97, 110, 100]⟩ ++ ⟨#[32, 97, 110, 100]⟩ ++ ⟨#[32]⟩ ++ ⟨Z.toArray⟩ := by
          unfold thouS
          rw [if_pos (by omega), if_pos (by omega), hb0, hb0, hb0]
          rw [show (32 :: Z : Str) = [32] ++ Z from rfl, hb0]
          apply ByteArray.ext
          simp
        go_wp2_with fail
        refine (fin.out x3 b3).mono ?_
        rintro e x4 ⟨rfl, b4⟩
        go_wp2
        go_ret
        exact ⟨rfl, b4⟩
      · have p2 : ¬ (n : Int) < 100 := by omega
        have p2d : decide ((n : Int) < 100) = false := decide_eq_false p2
        have hS : (⟨(thouS Y Z n).toArray⟩ : ByteArray) = ⟨Y.toArray⟩ ++ ⟨#[32, 116, 104, 111, 117, 115, 97, 110, 100]⟩ ++ ⟨#[32]⟩ ++ ⟨Z.toArray⟩ := by
          unfold thouS
          rw [if_neg (by omega), if_pos (by omega), List.append_nil, hb0, hb0]
          rw [show (32 :: Z : Str) = [32] ++ Z from rfl, hb0]
          apply ByteArray.ext
          simp
        go_wp2_with fail
        refine (fin.out x3 b3).mono ?_
        rintro e x4 ⟨rfl, b4⟩
        go_wp2
        go_ret
        exact ⟨rfl, b4⟩
  · have fin := Lib.hid (hkn.out w hT)
    clear hkn
    by_cases q1 : a < 1
    · have q1d : decide (a < 1) = true := decide_eq_true q1
      go_enter Tryz.func9, Tryz.ntmps9
      go_wp2_with fail
      refine fin.out.mono ?_
      rintro e x4 ⟨rfl, b4⟩
      go_wp2
      go_ret
      exact ⟨rfl, b4⟩
    · have q1d : decide (a < 1) = false := decide_eq_false q1
      by_cases q2 : 999 < a
      · have q2d : decide (999 < a) = true := decide_eq_true q2
        go_enter Tryz.func9, Tryz.ntmps9
        go_wp2_with fail
        refine fin.out.mono ?_
        rintro e x4 ⟨rfl, b4⟩
        go_wp2
        go_ret
        exact ⟨rfl, b4⟩
      · have q2d : decide (999 < a) = false := decide_eq_false q2
        by_cases q3 : b < 0
        · have q3d : decide (b < 0) = true := decide_eq_true q3
          go_enter Tryz.func9, Tryz.ntmps9
          go_wp2_with fail
          refine fin.out.mono ?_
          rintro e x4 ⟨rfl, b4⟩
          go_wp2
          go_ret
          exact ⟨rfl, b4⟩
        · have q3d : decide (b < 0) = false := decide_eq_false q3
          have q4 : 999 < b := by omega
          have q4d : decide (999 < b) = true := decide_eq_true q4
          go_enter Tryz.func9, Tryz.ntmps9
          go_wp2_with fail
          refine fin.out.mono ?_
          rintro e x4 ⟨rfl, b4⟩
          go_wp2
          go_ret
          exact ⟨rfl, b4⟩
end Go.Proofs.YtpdfjlbfhnapkaaGreatDoor
