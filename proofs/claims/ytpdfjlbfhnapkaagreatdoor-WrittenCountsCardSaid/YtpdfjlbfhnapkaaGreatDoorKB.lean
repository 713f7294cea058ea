/- The document's words of small numbers. -/
import Derived.Test.YtpdfjlbfhnapkaaGreatDoorKA
namespace Go.Proofs.YtpdfjlbfhnapkaaGreatDoor
open Go.RowKit
set_option linter.unusedSimpArgs false
set_option linter.unusedVariables false
set_option maxRecDepth 100000

/-- the call returned a string -/
def RS (x : Str) (w : World) (e : Ending) (w' : World) : Prop := e = .returned (.string ⟨x.toArray⟩) ∧ Below w.heap.size w w'
theorem bstr (u v : Str) : (⟨(u ++ v).toArray⟩ : ByteArray) = ⟨u.toArray⟩ ++ ⟨v.toArray⟩ := by
  apply ByteArray.ext
  simp
theorem rsmall_cells : ∀ n, 0 ≤ n → n < 20 → (#[.string ⟨#[122, 101, 114, 111]⟩, .string ⟨#[111, 110, 101]⟩, .string ⟨#[116, 119, 111]⟩, .string ⟨#[116, 104, 114, 101, 101]⟩, .string ⟨#[102, 111, 117, 114]⟩, .string ⟨#[102, 105, 118, 101]⟩, .string ⟨#[115, 105, 120]⟩, .string ⟨#[115, 101, 118, 101, 110]⟩, .string ⟨#[101, 105, 103, 104, 116]⟩, .string ⟨#[110, 105, 110, 101]⟩, .string ⟨#[116, 101, 110]⟩, .string ⟨#[101, 108, 101, 118, 101, 110]⟩, .string ⟨#[116, 119, 101, 108, 118, 101]⟩, .string ⟨#[116, 104, 105, 114, 116, 101, 101, 110]⟩, .string ⟨#[102, 111, 117, 114, 116, 101, 101, 110]⟩, .string ⟨#[102, 105, 102, 116, 101, 101, 110]⟩, .string ⟨#[115, 105, 120, 116, 101, 101, 110]⟩, .string ⟨#[115, 101, 118, 101, 110, 116, 101, 101, 110]⟩, .string ⟨#[101, 105, 103, 104, 116, 101, 101, 110]⟩, .string ⟨#[110, 105, 110, 101, 116, 101, 101, 110]⟩] : Array Value)[n]? = some (.string ⟨(smallN n).toArray⟩) := by
  intro n h0 h
  have : n = 0 ∨ n = 1 ∨ n = 2 ∨ n = 3 ∨ n = 4 ∨ n = 5 ∨ n = 6 ∨ n = 7 ∨ n = 8 ∨ n = 9 ∨ n = 10 ∨ n = 11 ∨ n = 12 ∨ n = 13 ∨ n = 14 ∨ n = 15 ∨ n = 16 ∨ n = 17 ∨ n = 18 ∨ n = 19 := by omega
  rcases this with rfl | rfl | rfl | rfl | rfl | rfl | rfl | rfl | rfl | rfl | rfl | rfl | rfl | rfl | rfl | rfl | rfl | rfl | rfl | rfl <;> rfl
set_option maxHeartbeats 3200000 in
theorem rsmall_any (n : Nat) (h0 : 0 ≤ n) (hn : n < 20) (w : World) : Calls Tryz.prog 91 #[.int .i64 (n : Int)] w (RS (smallN n) w) := by
  have hA := (Below.refl w.heap.size w).alloc (Nat.le_refl _) (.cells #[.string ⟨#[122, 101, 114, 111]⟩, .string ⟨#[111, 110, 101]⟩, .string ⟨#[116, 119, 111]⟩, .string ⟨#[116, 104, 114, 101, 101]⟩, .string ⟨#[102, 111, 117, 114]⟩, .string ⟨#[102, 105, 118, 101]⟩, .string ⟨#[115, 105, 120]⟩, .string ⟨#[115, 101, 118, 101, 110]⟩, .string ⟨#[101, 105, 103, 104, 116]⟩, .string ⟨#[110, 105, 110, 101]⟩, .string ⟨#[116, 101, 110]⟩, .string ⟨#[101, 108, 101, 118, 101, 110]⟩, .string ⟨#[116, 119, 101, 108, 118, 101]⟩, .string ⟨#[116, 104, 105, 114, 116, 101, 101, 110]⟩, .string ⟨#[102, 111, 117, 114, 116, 101, 101, 110]⟩, .string ⟨#[102, 105, 102, 116, 101, 101, 110]⟩, .string ⟨#[115, 105, 120, 116, 101, 101, 110]⟩, .string ⟨#[115, 101, 118, 101, 110, 116, 101, 101, 110]⟩, .string ⟨#[101, 105, 103, 104, 116, 101, 101, 110]⟩, .string ⟨#[110, 105, 110, 101, 116, 101, 101, 110]⟩] 9)
  have B1 := Blk.new w 9 #[.string ⟨#[122, 101, 114, 111]⟩, .string ⟨#[111, 110, 101]⟩, .string ⟨#[116, 119, 111]⟩, .string ⟨#[116, 104, 114, 101, 101]⟩, .string ⟨#[102, 111, 117, 114]⟩, .string ⟨#[102, 105, 118, 101]⟩, .string ⟨#[115, 105, 120]⟩, .string ⟨#[115, 101, 118, 101, 110]⟩, .string ⟨#[101, 105, 103, 104, 116]⟩, .string ⟨#[110, 105, 110, 101]⟩, .string ⟨#[116, 101, 110]⟩, .string ⟨#[101, 108, 101, 118, 101, 110]⟩, .string ⟨#[116, 119, 101, 108, 118, 101]⟩, .string ⟨#[116, 104, 105, 114, 116, 101, 101, 110]⟩, .string ⟨#[102, 111, 117, 114, 116, 101, 101, 110]⟩, .string ⟨#[102, 105, 102, 116, 101, 101, 110]⟩, .string ⟨#[115, 105, 120, 116, 101, 101, 110]⟩, .string ⟨#[115, 101, 118, 101, 110, 116, 101, 101, 110]⟩, .string ⟨#[101, 105, 103, 104, 116, 101, 101, 110]⟩, .string ⟨#[110, 105, 110, 101, 116, 101, 101, 110]⟩]
  have hc : (w.alloc (.cells #[.string ⟨#[122, 101, 114, 111]⟩, .string ⟨#[111, 110, 101]⟩, .string ⟨#[116, 119, 111]⟩, .string ⟨#[116, 104, 114, 101, 101]⟩, .string ⟨#[102, 111, 117, 114]⟩, .string ⟨#[102, 105, 118, 101]⟩, .string ⟨#[115, 105, 120]⟩, .string ⟨#[115, 101, 118, 101, 110]⟩, .string ⟨#[101, 105, 103, 104, 116]⟩, .string ⟨#[110, 105, 110, 101]⟩, .string ⟨#[116, 101, 110]⟩, .string ⟨#[101, 108, 101, 118, 101, 110]⟩, .string ⟨#[116, 119, 101, 108, 118, 101]⟩, .string ⟨#[116, 104, 105, 114, 116, 101, 101, 110]⟩, .string ⟨#[102, 111, 117, 114, 116, 101, 101, 110]⟩, .string ⟨#[102, 105, 102, 116, 101, 101, 110]⟩, .string ⟨#[115, 105, 120, 116, 101, 101, 110]⟩, .string ⟨#[115, 101, 118, 101, 110, 116, 101, 101, 110]⟩, .string ⟨#[101, 105, 103, 104, 116, 101, 101, 110]⟩, .string ⟨#[110, 105, 110, 101, 116, 101, 101, 110]⟩] 9)).cell? ⟨w.heap.size, n, none⟩ = some (.string ⟨(smallN n).toArray⟩) := (B1.cell n).trans (rsmall_cells n h0 hn)
  have h1 : (0 : Int) ≤ (n : Int) := by omega
  have h2 : (n : Int) < 20 := by omega
  clear B1
  go_enter Tryz.func91, Tryz.ntmps91
  go_wp2
  go_ret
  exact ⟨rfl, hA⟩
theorem rtens_cells : ∀ n, 2 ≤ n → n < 10 → (#[.string ⟨#[]⟩, .string ⟨#[]⟩, .string ⟨#[116, 119, 101, 110, 116, 121]⟩, .string ⟨#[116, 104, 105, 114, 116, 121]⟩, .string ⟨#[102, 111, 114, 116, 121]⟩, .string ⟨#[102, 105, 102, 116, 121]⟩, .string ⟨#[115, 105, 120, 116, 121]⟩, .string ⟨#[115, 101, 118, 101, 110, 116, 121]⟩, .string ⟨#[101, 105, 103, 104, 116, 121]⟩, .string ⟨#[110, 105, 110, 101, 116, 121]⟩] : Array Value)[n]? = some (.string ⟨(tensN n).toArray⟩) := by
  intro n h0 h
  have : n = 2 ∨ n = 3 ∨ n = 4 ∨ n = 5 ∨ n = 6 ∨ n = 7 ∨ n = 8 ∨ n = 9 := by omega
  rcases this with rfl | rfl | rfl | rfl | rfl | rfl | rfl | rfl <;> rfl
set_option maxHeartbeats 3200000 in
theorem rtens_any (n : Nat) (h0 : 2 ≤ n) (hn : n < 10) (w : World) : Calls Tryz.prog 114 #[.int .i64 (n : Int)] w (RS (tensN n) w) := by
  have hA := (Below.refl w.heap.size w).alloc (Nat.le_refl _) (.cells #[.string ⟨#[]⟩, .string ⟨#[]⟩, .string ⟨#[116, 119, 101, 110, 116, 121]⟩, .string ⟨#[116, 104, 105, 114, 116, 121]⟩, .string ⟨#[102, 111, 114, 116, 121]⟩, .string ⟨#[102, 105, 102, 116, 121]⟩, .string ⟨#[115, 105, 120, 116, 121]⟩, .string ⟨#[115, 101, 118, 101, 110, 116, 121]⟩, .string ⟨#[101, 105, 103, 104, 116, 121]⟩, .string ⟨#[110, 105, 110, 101, 116, 121]⟩] 9)
  have B1 := Blk.new w 9 #[.string ⟨#[]⟩, .string ⟨#[]⟩, .string ⟨#[116, 119, 101, 110, 116, 121]⟩, .string ⟨#[116, 104, 105, 114, 116, 121]⟩, .string ⟨#[102, 111, 114, 116, 121]⟩, .string ⟨#[102, 105, 102, 116, 121]⟩, .string ⟨#[115, 105, 120, 116, 121]⟩, .string ⟨#[115, 101, 118, 101, 110, 116, 121]⟩, .string ⟨#[101, 105, 103, 104, 116, 121]⟩, .string ⟨#[110, 105, 110, 101, 116, 121]⟩]
  have hc : (w.alloc (.cells #[.string ⟨#[]⟩, .string ⟨#[]⟩, .string ⟨#[116, 119, 101, 110, 116, 121]⟩, .string ⟨#[116, 104, 105, 114, 116, 121]⟩, .string ⟨#[102, 111, 114, 116, 121]⟩, .string ⟨#[102, 105, 102, 116, 121]⟩, .string ⟨#[115, 105, 120, 116, 121]⟩, .string ⟨#[115, 101, 118, 101, 110, 116, 121]⟩, .string ⟨#[101, 105, 103, 104, 116, 121]⟩, .string ⟨#[110, 105, 110, 101, 116, 121]⟩] 9)).cell? ⟨w.heap.size, n, none⟩ = some (.string ⟨(tensN n).toArray⟩) := (B1.cell n).trans (rtens_cells n h0 hn)
  have h1 : (0 : Int) ≤ (n : Int) := by omega
  have h2 : (n : Int) < 10 := by omega
  clear B1
  go_enter Tryz.func114, Tryz.ntmps114
  go_wp2
  go_ret
  exact ⟨rfl, hA⟩

theorem tensN_len : ∀ d, d < 10 → (tensN d).length ≤ 20 := by decide +kernel
theorem two_len {n : Nat} (h : n < 100) : (joinW (twoW n)).length ≤ 42 := by
  have h1 := joinW_len (cnt_short_two n h)
  have h2 := twoW_len n
  exact Nat.le_trans h1 (Nat.mul_le_mul_right 21 h2)
theorem cnt3_len {n : Nat} (h : n < 1000) : (joinW (cnt3 n)).length ≤ 400 * 21 := by
  have h1 := joinW_len (cnt3_short h)
  have h2 := cntW_len n
  rw [cnt_sm (show n ≤ 999 by omega)] at h2
  exact Nat.le_trans h1 (Nat.mul_le_mul_right 21 h2)
theorem cnt_len {n : Nat} (h : n < 1000000000000) : (joinW (cntW n)).length ≤ 400 * 21 := by
  have h1 := joinW_len (cntW_short h)
  exact Nat.le_trans h1 (Nat.mul_le_mul_right 21 (cntW_len n))
theorem two_join (n : Nat) : joinW (twoW n) = if n < 20 then smallN n else if n % 10 = 0 then tensN (n / 10) else tensN (n / 10) ++ [32] ++ smallN (n % 10) := by
  unfold twoW
  split
  · exact joinW_one _
  · split
    · exact joinW_one _
    · rw [joinW_cons _ _ (by simp), joinW_one]
      simp
theorem cnt3_join (n : Nat) (hn : n < 1000) : joinW (cnt3 n) = if n < 100 then joinW (twoW n) else if n % 100 = 0 then smallN (n / 100) ++ [32, 104, 117, 110, 100, 114, 101, 100] else smallN (n / 100) ++ [32, 104, 117, 110, 100, 114, 101, 100] ++ [32, 97, 110, 100, 32] ++ joinW (twoW (n % 100)) := by
  unfold cnt3 tailW
  by_cases h : 100 ≤ n
  · rw [if_pos h, if_neg (by omega)]
    unfold lastW
    rw [if_neg (by simp)]
    have e1 : joinW ([] ++ [smallN (n / 100), [104, 117, 110, 100, 114, 101, 100]]) = smallN (n / 100) ++ [32, 104, 117, 110, 100, 114, 101, 100] := by
      rw [List.nil_append, joinW_cons _ _ (by simp), joinW_one]
    split
    · exact e1
    · rw [joinW_app _ _ (by simp) (twoW_ne _), joinW_app _ _ (by simp) (by simp), e1, joinW_one]
      simp
  · rw [if_neg h, if_pos (by omega)]
    unfold lastW
    rw [if_pos rfl]
set_option maxHeartbeats 3200000 in
theorem rtwo_any (n : Nat) (hn : n < 100) (w : World) : Calls Tryz.prog 90 #[.int .i64 (n : Int)] w (RS (joinW (twoW n)) w) := by
  rw [two_join]
  by_cases h20 : n < 20
  · rw [if_pos h20]
    have k1 := Lib.hid (rsmall_any n (by omega) (by omega) w)
    have h1 : (n : Int) < 20 := by omega
    have h1d : decide ((n : Int) < 20) = true := decide_eq_true h1
    go_enter Tryz.func90, Tryz.ntmps90
    go_wp2_with fail
    refine k1.out.mono ?_
    rintro e w' ⟨rfl, hb⟩
    go_wp2
    go_ret
    exact ⟨rfl, hb⟩
  · rw [if_neg h20]
    have h1 : ¬ (n : Int) < 20 := by omega
    have h1d : decide ((n : Int) < 20) = false := decide_eq_false h1
    have q1 : (n : Int).tmod 10 = ((n % 10 : Nat) : Int) := by rw [Int.tmod_eq_emod_of_nonneg (by omega)]; omega
    have q2 : (n : Int).tdiv 10 = ((n / 10 : Nat) : Int) := by rw [Int.tdiv_eq_ediv_of_nonneg (by omega)]; omega
    have q3 : IntKind.i64.wrap ((n % 10 : Nat) : Int) = ((n % 10 : Nat) : Int) := IntWalk.i64_in _ (by omega)
    have q4 : IntKind.i64.wrap ((n / 10 : Nat) : Int) = ((n / 10 : Nat) : Int) := IntWalk.i64_in _ (by omega)
    have k2 := Lib.hid (fun w9 => rtens_any (n / 10) (by omega) (by omega) w9)
    by_cases hz : n % 10 = 0
    · rw [if_pos hz]
      rw [hz] at q1 q3
      generalize n / 10 = d at *
      go_enter Tryz.func90, Tryz.ntmps90
      go_wp2_with fail
      refine (k2.out w).mono ?_
      rintro e w' ⟨rfl, hb⟩
      go_wp2
      go_ret
      exact ⟨rfl, hb⟩
    · rw [if_neg hz]
      have k3 := Lib.hid (fun w9 => rsmall_any (n % 10) (by omega) (by omega) w9)
      have hz1 : ¬ ((n % 10 : Nat) : Int) = 0 := by omega
      have lx := tensN_len (n / 10) (by omega)
      have ly := cnt_short_small (n % 10)
      generalize n / 10 = d at *
      generalize n % 10 = r at *
      have hs := bstr (tensN d ++ [32]) (smallN r)
      rw [bstr (tensN d)] at hs
      generalize tensN d = X at *
      generalize smallN r = Y at *
      go_enter Tryz.func90, Tryz.ntmps90
      go_wp2_with fail
      refine (k2.out w).mono ?_
      rintro e w' ⟨rfl, hb⟩
      go_wp2_with fail
      refine (k3.out w').mono ?_
      rintro e w2 ⟨rfl, hb2⟩
      go_wp2
      go_ret
      exact ⟨by rw [hs]; rfl, hb.trans (hb2.mono hb.size)⟩
set_option maxHeartbeats 3200000 in
theorem rthree_any (n : Nat) (hn : n < 1000) (w : World) : Calls Tryz.prog 103 #[.int .i64 (n : Int)] w (RS (joinW (cnt3 n)) w) := by
  rw [cnt3_join n hn]
  by_cases h100 : n < 100
  · rw [if_pos h100]
    have k1 := Lib.hid (rtwo_any n (by omega) w)
    have h1 : (n : Int) < 100 := by omega
    have h1d : decide ((n : Int) < 100) = true := decide_eq_true h1
    go_enter Tryz.func103, Tryz.ntmps103
    go_wp2_with fail
    refine k1.out.mono ?_
    rintro e w' ⟨rfl, hb⟩
    go_wp2
    go_ret
    exact ⟨rfl, hb⟩
  · rw [if_neg h100]
    have h1 : ¬ (n : Int) < 100 := by omega
    have h1d : decide ((n : Int) < 100) = false := decide_eq_false h1
    have q1 : (n : Int).tmod 100 = ((n % 100 : Nat) : Int) := by rw [Int.tmod_eq_emod_of_nonneg (by omega)]; omega
    have q2 : (n : Int).tdiv 100 = ((n / 100 : Nat) : Int) := by rw [Int.tdiv_eq_ediv_of_nonneg (by omega)]; omega
    have q3 : IntKind.i64.wrap ((n % 100 : Nat) : Int) = ((n % 100 : Nat) : Int) := IntWalk.i64_in _ (by omega)
    have q4 : IntKind.i64.wrap ((n / 100 : Nat) : Int) = ((n / 100 : Nat) : Int) := IntWalk.i64_in _ (by omega)
    have k2 := Lib.hid (fun w9 => rsmall_any (n / 100) (by omega) (by omega) w9)
    by_cases hz : n % 100 = 0
    · rw [if_pos hz]
      rw [hz] at q1 q3
      have lx := cnt_short_small (n / 100)
      generalize n / 100 = d at *
      have hs := bstr (smallN d) [32, 104, 117, 110, 100, 114, 101, 100]
      generalize smallN d = X at *
      go_enter Tryz.func103, Tryz.ntmps103
      go_wp2_with fail
      refine (k2.out w).mono ?_
      rintro e w' ⟨rfl, hb⟩
      go_wp2
      go_ret
      exact ⟨by rw [hs]; rfl, hb⟩
    · rw [if_neg hz]
      have k3 := Lib.hid (fun w9 => rtwo_any (n % 100) (by omega) w9)
      have hz1 : ¬ ((n % 100 : Nat) : Int) = 0 := by omega
      have lx := cnt_short_small (n / 100)
      have ly := two_len (show n % 100 < 100 by omega)
      generalize n / 100 = d at *
      generalize n % 100 = r at *
      have hs := bstr (smallN d ++ [32, 104, 117, 110, 100, 114, 101, 100] ++ [32, 97, 110, 100, 32]) (joinW (twoW r))
      rw [bstr (smallN d ++ [32, 104, 117, 110, 100, 114, 101, 100]), bstr (smallN d)] at hs
      generalize smallN d = X at *
      generalize joinW (twoW r) = Y at *
      go_enter Tryz.func103, Tryz.ntmps103
      go_wp2_with fail
      refine (k2.out w).mono ?_
      rintro e w' ⟨rfl, hb⟩
      go_wp2_with fail
      refine (k3.out w').mono ?_
      rintro e w2 ⟨rfl, hb2⟩
      go_wp2
      go_ret
      exact ⟨by rw [hs]; rfl, hb.trans (hb2.mono hb.size)⟩
end Go.Proofs.YtpdfjlbfhnapkaaGreatDoor

/- The document's words of any number. -/
namespace Go.Proofs.YtpdfjlbfhnapkaaGreatDoor
open Go.RowKit
set_option linter.unusedSimpArgs false
set_option linter.unusedVariables false
set_option maxRecDepth 100000

def byN (j : Nat) : Nat := [1000000000, 1000000, 1000, 1].getD j 1
def nmN (j : Nat) : Str := [[32, 98, 105, 108, 108, 105, 111, 110], [32, 109, 105, 108, 108, 105, 111, 110], [32, 116, 104, 111, 117, 115, 97, 110, 100]].getD j []
/-- the words of a group, with a space ahead of each -/
def stL (n j : Nat) : Str := if 0 < n / byN j % 1000 then [32] ++ joinW (cnt3 (n / byN j % 1000)) ++ nmN j else []
def accL (n : Nat) : Nat → Str
  | 0 => []
  | j + 1 => accL n j ++ stL n j
theorem accL_len (n : Nat) : ∀ j, (accL n j).length ≤ j * 10000
  | 0 => Nat.zero_le _
  | j + 1 => by
    have h1 := accL_len n j
    have h2 : (stL n j).length ≤ 10000 := by
      unfold stL
      split
      · have h3 := cnt3_len (show n / byN j % 1000 < 1000 by omega)
        have h4 : (nmN j).length ≤ 20 := by
          unfold nmN
          match j with
          | 0 => decide
          | 1 => decide
          | 2 => decide
          | k + 3 => simp
        simp only [List.length_append, List.length_cons, List.length_nil]
        omega
      · simp
    show (accL n j ++ stL n j).length ≤ _
    rw [List.length_append]
    omega
/-- what the document's words of a number from 1000 on are, with a space ahead -/
def natL (n : Nat) : Str := accL n 3 ++ (if 0 < n % 1000 ∧ n % 1000 < 100 then [32, 97, 110, 100] else []) ++ (if 0 < n % 1000 then [32] ++ joinW (cnt3 (n % 1000)) else [])
def natF (n : Nat) : Str := if n < 1000 then joinW (cnt3 n) else (natL n).drop 1
/-- words with a space ahead of each -/
def spW (p : List Str) : Str := p.flatMap fun x => 32 :: x
theorem spW_app (p q : List Str) : spW (p ++ q) = spW p ++ spW q := by simp [spW]
theorem spW_join {p : List Str} (h : p ≠ []) : spW p = 32 :: joinW p := by
  induction p with
  | nil => exact absurd rfl h
  | cons x xs ih =>
    cases xs with
    | nil => rw [joinW_one]; simp [spW]
    | cons y ys =>
      rw [joinW_cons x _ (by simp), ← ih (by simp)]
      simp [spW]
theorem loopW_step (p : Nat × Str) (ps : List (Nat × Str)) (pre : List Str) (m : Nat) (hp : 0 < p.1) : loopW cnt3 (p :: ps) pre m = loopW cnt3 ps (pre ++ (if 0 < m / p.1 then cnt3 (m / p.1) ++ [p.2] else [])) (m % p.1) := by
  conv => lhs; unfold loopW
  by_cases h : p.1 ≤ m
  · rw [if_pos h, if_pos (Nat.div_pos h hp), List.append_assoc]
  · rw [if_neg h, if_neg (by rw [Nat.div_eq_of_lt (by omega)]; omega), List.append_nil, Nat.mod_eq_of_lt (by omega)]
theorem spW_tail {pre : List Str} {m : Nat} (h : pre ≠ []) (hm : m < 1000) : spW (tailW pre m) = spW pre ++ (if 0 < m ∧ m < 100 then [32, 97, 110, 100] else []) ++ (if 0 < m then [32] ++ joinW (cnt3 m) else []) := by
  by_cases h1 : 100 ≤ m
  · have e1 : tailW pre m = pre ++ cnt3 m := by
      unfold tailW
      rw [if_pos h1, lastW_pre _ _ _ (by simp)]
      show _ = pre ++ tailW [] m
      unfold tailW
      rw [if_pos h1]
      rfl
    rw [e1, spW_app, spW_join (cnt3_ne m), if_neg (by omega), if_pos (by omega)]
    simp
  · have e1 : tailW pre m = lastW pre m := if_neg h1
    have e2 : cnt3 m = twoW m := by
      show tailW [] m = _
      unfold tailW
      rw [if_neg h1]
      unfold lastW
      rw [if_pos rfl]
    rw [e1, e2]
    unfold lastW
    rw [if_neg h]
    by_cases h2 : m = 0
    · rw [if_pos h2, if_neg (by omega), if_neg (by omega)]
      simp
    · rw [if_neg h2, if_pos (by omega), if_pos (by omega), spW_app, spW_app, spW_join (twoW_ne m)]
      simp [spW]
def gW (n j : Nat) : List Str := if 0 < n / byN j % 1000 then cnt3 (n / byN j % 1000) ++ [(powL.getD j (0, [])).2] else []
theorem gW_sp (n j : Nat) (hj : j < 3) : spW (gW n j) = stL n j := by
  unfold gW stL
  split
  · rw [spW_app, spW_join (cnt3_ne _)]
    rcases (show j = 0 ∨ j = 1 ∨ j = 2 by omega) with rfl | rfl | rfl <;> simp [spW, powL, nmN]
  · rfl
theorem cnt_gW {n : Nat} (hn : n < 1000000000000) : cntW n = tailW (gW n 0 ++ gW n 1 ++ gW n 2) (n % 1000) := by
  unfold cntW cntG
  have e9 : loopW cnt3 powL [] n = (gW n 0 ++ gW n 1 ++ gW n 2, n % 1000) := by
    unfold powL
    rw [loopW_step _ _ _ _ (by decide), loopW_step _ _ _ _ (by decide), loopW_step _ _ _ _ (by decide)]
    unfold loopW
    have e1 : n / 1000000000 = n / byN 0 % 1000 := by show _ = n / 1000000000 % 1000; omega
    have e2 : n % 1000000000 / 1000000 = n / byN 1 % 1000 := by show _ = n / 1000000 % 1000; omega
    have e3 : n % 1000000000 % 1000000 / 1000 = n / byN 2 % 1000 := by show _ = n / 1000 % 1000; omega
    have e4 : n % 1000000000 % 1000000 % 1000 = n % 1000 := by omega
    simp only [e1, e2, e3, e4, List.nil_append]
    rfl
  rw [e9]
theorem natL_eq {n : Nat} (h : 1000 ≤ n) (hn : n < 1000000000000) : natL n = 32 :: joinW (cntW n) := by
  have e := cnt_gW hn
  have hne : gW n 0 ++ gW n 1 ++ gW n 2 ≠ [] := by
    intro hx
    rw [List.append_eq_nil_iff, List.append_eq_nil_iff] at hx
    have f : ∀ j, gW n j = [] → n / byN j % 1000 = 0 := by
      intro j hj
      unfold gW at hj
      split at hj
      · simp at hj
      · omega
    have f0 : n / 1000000000 % 1000 = 0 := f 0 hx.1.1
    have f1 : n / 1000000 % 1000 = 0 := f 1 hx.1.2
    have f2 : n / 1000 % 1000 = 0 := f 2 hx.2
    omega
  rw [e, ← spW_join (by rw [← e]; unfold cntW cntG tailW; split <;> exact lastW_ne _ _), spW_tail hne (by omega), spW_app, spW_app, gW_sp n 0 (by decide), gW_sp n 1 (by decide), gW_sp n 2 (by decide)]
  show [] ++ stL n 0 ++ stL n 1 ++ stL n 2 ++ _ ++ _ = _
  rw [List.nil_append]
theorem natF_eq {n : Nat} (hn : n < 1000000000000) : natF n = joinW (cntW n) := by
  unfold natF
  split
  · rw [cnt_sm (by omega)]
  · rw [natL_eq (by omega) hn]
    rfl
theorem tl_bytes (J : Str) : (⟨((32 : UInt8) :: J).toArray⟩ : ByteArray).extract 1 (J.length + 1) = ⟨J.toArray⟩ := by
  apply ByteArray.ext
  rw [ByteArray.data_extract]
  simp
set_option maxHeartbeats 16000000 in
theorem rnat_any (n : Nat) (hn : n < 1000000000000) (w : World) : Calls Tryz.prog 63 #[.int .i64 (n : Int)] w (RS (joinW (cntW n)) w) := by
  by_cases hs : n < 1000
  · rw [cnt_sm (show n ≤ 999 by omega)]
    have k1 := Lib.hid (rthree_any n hs w)
    have h1 : (n : Int) < 1000 := by omega
    have h1d : decide ((n : Int) < 1000) = true := decide_eq_true h1
    go_enter Tryz.func63, Tryz.ntmps63
    go_wp2_with fail
    refine k1.out.mono ?_
    rintro e w' ⟨rfl, hb⟩
    go_wp2
    go_ret
    exact ⟨rfl, hb⟩
  · have h1 : ¬ (n : Int) < 1000 := by omega
    have h1d : decide ((n : Int) < 1000) = false := decide_eq_false h1
    have hA := (Below.refl w.heap.size w).alloc (Nat.le_refl _) (.cells #[.string ⟨#[32, 98, 105, 108, 108, 105, 111, 110]⟩, .string ⟨#[32, 109, 105, 108, 108, 105, 111, 110]⟩, .string ⟨#[32, 116, 104, 111, 117, 115, 97, 110, 100]⟩] 9)
    have B1 := Blk.new w 9 #[.string ⟨#[32, 98, 105, 108, 108, 105, 111, 110]⟩, .string ⟨#[32, 109, 105, 108, 108, 105, 111, 110]⟩, .string ⟨#[32, 116, 104, 111, 117, 115, 97, 110, 100]⟩]
    have hc : ∀ (x : World), Below (w.heap.size + 1) (w.alloc (.cells #[.string ⟨#[32, 98, 105, 108, 108, 105, 111, 110]⟩, .string ⟨#[32, 109, 105, 108, 108, 105, 111, 110]⟩, .string ⟨#[32, 116, 104, 111, 117, 115, 97, 110, 100]⟩] 9)) x → ∀ j, j < 3 → x.cell? ⟨w.heap.size, j, none⟩ = some (.string ⟨(nmN j).toArray⟩) := fun x hx j hj => (hx.cell (p := ⟨w.heap.size, j, none⟩) (Nat.lt_succ_self _)).trans ((B1.cell j).trans (by
      rcases (show j = 0 ∨ j = 1 ∨ j = 2 by omega) with rfl | rfl | rfl <;> rfl))
    have hc := Lib.hid hc
    clear B1
    have hsz : (w.alloc (.cells #[.string ⟨#[32, 98, 105, 108, 108, 105, 111, 110]⟩, .string ⟨#[32, 109, 105, 108, 108, 105, 111, 110]⟩, .string ⟨#[32, 116, 104, 111, 117, 115, 97, 110, 100]⟩] 9)).heap.size = w.heap.size + 1 := World.size_alloc _ _
    have hk := Lib.hid (fun (g : Nat) (hg : g < 1000) (w9 : World) => rthree_any g hg w9)
    have hacc := Lib.hid (fun j => accL_len n j)
    go_enter Tryz.func63, Tryz.ntmps63
    go_upto_region 7 with fail
    generalize w.alloc (.cells #[.string ⟨#[32, 98, 105, 108, 108, 105, 111, 110]⟩, .string ⟨#[32, 109, 105, 108, 108, 105, 111, 110]⟩, .string ⟨#[32, 116, 104, 111, 117, 115, 97, 110, 100]⟩] 9) = w2 at *
    go_loopw [4, 5, 6] (fun bv sv iv wr' => ∃ (j : Nat) (wr : World), wr = wr' ∧ iv = .int .i64 (j : Int) ∧ bv = .int .i64 ((byN j : Nat) : Int) ∧ sv = .string ⟨(accL n j).toArray⟩ ∧ j ≤ 3 ∧ Below (w.heap.size + 1) w2 wr) (fun _ _ iv _ => 3 - (intOf iv).toNat)
    case atStart => exact ⟨0, _, rfl, rfl, rfl, rfl, Nat.zero_le _, Below.refl _ _⟩
    case round =>
      obtain ⟨j, wr, rfl, rfl, rfl, rfl, hj, hbel⟩ := hrel
      rcases Nat.lt_or_ge j 3 with hlt | hge
      · have hd : 0 < byN j ∧ byN j ≤ 1000000000 ∧ byN j / 1000 = byN (j + 1) := by
          rcases (show j = 0 ∨ j = 1 ∨ j = 2 by omega) with rfl | rfl | rfl <;> decide
        have hst := Lib.hid (show accL n (j + 1) = accL n j ++ stL n j from rfl)
        have hla := hacc.out j
        have hNl : (nmN j).length ≤ 20 := by
          rcases (show j = 0 ∨ j = 1 ∨ j = 2 by omega) with rfl | rfl | rfl <;> decide
        have hcj := fun (x : World) (hx : Below (w.heap.size + 1) w2 x) => hc.out x hx j hlt
        have hcj := Lib.hid hcj
        have hun := Lib.hid (show stL n j = if 0 < n / byN j % 1000 then [32] ++ joinW (cnt3 (n / byN j % 1000)) ++ nmN j else [] from rfl)
        obtain ⟨hd1, hd2, hd3⟩ := hd
        obtain ⟨d', hd'⟩ : ∃ d', byN (j + 1) = d' := ⟨_, rfl⟩
        rw [hd'] at hd3
        have hd' := Lib.hid hd'
        generalize byN j = d at *
        generalize nmN j = N at *
        generalize stL n j = T at *
        have q1 : (n : Int).tdiv (d : Int) = ((n / d : Nat) : Int) := (Int.ofNat_tdiv n d).symm
        have q5 : n / d ≤ n := Nat.div_le_self _ _
        generalize n / d = y at *
        have q2 : (y : Int).tmod 1000 = ((y % 1000 : Nat) : Int) := by rw [Int.tmod_eq_emod_of_nonneg (by omega)]; omega
        have q3 : IntKind.i64.wrap (y : Int) = (y : Int) := IntWalk.i64_in _ (by omega)
        have q4 : IntKind.i64.wrap ((y % 1000 : Nat) : Int) = ((y % 1000 : Nat) : Int) := IntWalk.i64_in _ (by omega)
        have q6 : ¬ (d : Int) = 0 := by omega
        have q7 : (d : Int).tdiv 1000 = (d' : Int) := by rw [Int.tdiv_eq_ediv_of_nonneg (by omega)]; omega
        have q8 : IntKind.i64.wrap (d' : Int) = (d' : Int) := IntWalk.i64_in _ (by omega)
        have hg : y % 1000 < 1000 := by omega
        generalize y % 1000 = g at *
        have j0 : (0 : Int) ≤ (j : Int) := by omega
        have j1 : (j : Int) < 3 := by omega
        by_cases hg0 : 0 < g
        · have g0 : (0 : Int) < (g : Int) := by omega
          have g0d : decide ((0 : Int) < (g : Int)) = true := decide_eq_true g0
          have hkg := Lib.hid (hk.out g hg)
          have hX := cnt3_len hg
          have hun := Lib.hid (hun.out.trans (if_pos hg0))
          generalize joinW (cnt3 g) = X at *
          obtain ⟨A', hAA⟩ : ∃ A', accL n (j + 1) = A' := ⟨_, rfl⟩
          rw [hAA] at hst
          have hAA := Lib.hid hAA
          generalize accL n j = A at *
          have hA' := Lib.hid (show (⟨A'.toArray⟩ : ByteArray) = ⟨A.toArray⟩ ++ ⟨#[32]⟩ ++ ⟨X.toArray⟩ ++ ⟨N.toArray⟩ by
            rw [hst.out, hun.out, bstr, bstr, bstr]
            apply ByteArray.ext
            simp)
          clear hst hun
          have lA : A.length ≤ 30000 := by omega
          clear hla
          go_wp2_with fail
          clear hacc hc hk
          have hlw : w.heap.size < wr.heap.size := by have := hbel.size; omega
          have hH0 : (fun wx : World => wx.cell? ⟨w.heap.size, j, none⟩ = some (.string ⟨N.toArray⟩)) wr.drew := hcj.out _ (hbel.trans (bel_drewN (Below.refl _ _) 1))
          refine wp_region_held_drew (S := (fun wx => wx.cell? ⟨w.heap.size, j, none⟩ = some (.string ⟨N.toArray⟩))) (by kernel_rfl) hH0 (fun hHeld => ?_)
          have hbd : Below (w.heap.size + 1) w2 (wr.drewN 1) := hbel.trans (bel_drewN (Below.refl _ _) 1)
          clear hH0
          refine wpAnyH_take (i := 0) (v := .string ⟨A.toArray⟩) rfl (by kernel_rfl) (by kernel_rfl) (by kernel_rfl) (fun _ _ _ h => h) (Or.inl ⟨by kernel_rfl, by (intro w hSw; (try dsimp only at hSw); go_simp)⟩) hHeld ?_
          simp only [Act.put, List.getElem_toArray, List.getElem_cons_succ, List.getElem_cons_zero, List.setIfInBounds_toArray, List.set_cons_zero, List.set_cons_succ]
          refine wpAnyH_take (i := 1) (v := .string (⟨A.toArray⟩ ++ ⟨#[32]⟩)) rfl (by kernel_rfl) (by kernel_rfl) (by kernel_rfl) (fun _ _ _ h => h) (Or.inl ⟨by kernel_rfl, by (intro w hSw; (try dsimp only at hSw); go_simp <;> omega)⟩) hHeld ?_
          simp only [Act.put, List.getElem_toArray, List.getElem_cons_succ, List.getElem_cons_zero, List.setIfInBounds_toArray, List.set_cons_zero, List.set_cons_succ]
          refine wpAnyH_take (i := 2) (v := .int .i64 (g : Int)) rfl (by kernel_rfl) (by kernel_rfl) (by kernel_rfl) (fun _ _ _ h => h) (Or.inl ⟨by kernel_rfl, by (intro w hSw; (try dsimp only at hSw); go_simp)⟩) hHeld ?_
          simp only [Act.put, List.getElem_toArray, List.getElem_cons_succ, List.getElem_cons_zero, List.setIfInBounds_toArray, List.set_cons_zero, List.set_cons_succ]
          refine wpAnyH_take (i := 5) (v := .slice (some ⟨w.heap.size, 0, none⟩) 3 3) rfl (by kernel_rfl) (by kernel_rfl) (by kernel_rfl) (fun _ _ _ h => h) (Or.inl ⟨by kernel_rfl, by (intro w hSw; (try dsimp only at hSw); go_simp)⟩) hHeld ?_
          simp only [Act.put, List.getElem_toArray, List.getElem_cons_succ, List.getElem_cons_zero, List.setIfInBounds_toArray, List.set_cons_zero, List.set_cons_succ]
          refine wpAnyH_take (i := 6) (v := .int .i64 (j : Int)) rfl (by kernel_rfl) (by kernel_rfl) (by kernel_rfl) (fun _ _ _ h => h) (Or.inl ⟨by kernel_rfl, by (intro w hSw; (try dsimp only at hSw); go_simp)⟩) hHeld ?_
          simp only [Act.put, List.getElem_toArray, List.getElem_cons_succ, List.getElem_cons_zero, List.setIfInBounds_toArray, List.set_cons_zero, List.set_cons_succ]
          refine wpAnyH_take (i := 7) (v := .pointer (some ⟨w.heap.size, j, none⟩)) rfl (by kernel_rfl) (by kernel_rfl) (by kernel_rfl) (fun _ _ _ h => h) (Or.inl ⟨by kernel_rfl, by (intro w hSw; (try dsimp only at hSw); go_simp)⟩) hHeld ?_
          simp only [Act.put, List.getElem_toArray, List.getElem_cons_succ, List.getElem_cons_zero, List.setIfInBounds_toArray, List.set_cons_zero, List.set_cons_succ]
          refine wpAnyH_take (i := 8) (v := .string ⟨N.toArray⟩) rfl (by kernel_rfl) (by kernel_rfl) (by kernel_rfl) (fun _ _ _ h => h) (Or.inl ⟨by kernel_rfl, by (intro w hSw; (try dsimp only at hSw); go_simp)⟩) hHeld ?_
          simp only [Act.put, List.getElem_toArray, List.getElem_cons_succ, List.getElem_cons_zero, List.setIfInBounds_toArray, List.set_cons_zero, List.set_cons_succ]
          refine wpAnyH_ready (rs := [3]) (by kernel_rfl) (by simp) ?_
          refine AllReadyH.cons rfl (fun K hK => ?_) AllReadyH.nil
          go_simp
          have h9 : w.heap.size + 1 ≤ wr.heap.size := by have := hbel.size; omega
          refine (hkg.out _).mono ?_
          rintro e x1 ⟨rfl, hx1⟩
          have hb1 := hbd.trans (hx1.mono h9)
          have k0' := hcj.out _ hb1
          go_wp2_with fail
          refine hK.out _ _ k0' (fun hHeld => ?_)
          clear hK K
          try simp only [Act.put, List.getElem_toArray, List.getElem_cons_succ, List.getElem_cons_zero, List.setIfInBounds_toArray, List.set_cons_zero, List.set_cons_succ]
          refine wpAnyH_take (i := 4) (v := .string (⟨A.toArray⟩ ++ ⟨#[32]⟩ ++ ⟨X.toArray⟩)) rfl (by kernel_rfl) (by kernel_rfl) (by kernel_rfl) (fun _ _ _ h => h) (Or.inl ⟨by kernel_rfl, by (intro w hSw; (try dsimp only at hSw); go_simp <;> omega)⟩) hHeld ?_
          simp only [Act.put, List.getElem_toArray, List.getElem_cons_succ, List.getElem_cons_zero, List.setIfInBounds_toArray, List.set_cons_zero, List.set_cons_succ]
          refine wpAnyH_take (i := 9) (v := .string (⟨A.toArray⟩ ++ ⟨#[32]⟩ ++ ⟨X.toArray⟩ ++ ⟨N.toArray⟩)) rfl (by kernel_rfl) (by kernel_rfl) (by kernel_rfl) (fun _ _ _ h => h) (Or.inl ⟨by kernel_rfl, by (intro w hSw; (try dsimp only at hSw); go_simp <;> omega)⟩) hHeld ?_
          simp only [Act.put, List.getElem_toArray, List.getElem_cons_succ, List.getElem_cons_zero, List.setIfInBounds_toArray, List.set_cons_zero, List.set_cons_succ]
          refine wpAnyH_take (i := 10) (v := .string (⟨A.toArray⟩ ++ ⟨#[32]⟩ ++ ⟨X.toArray⟩ ++ ⟨N.toArray⟩)) rfl (by kernel_rfl) (by kernel_rfl) (by kernel_rfl) (fun _ _ _ h => h) (Or.inl ⟨by kernel_rfl, by (intro w hSw; (try dsimp only at hSw); go_simp)⟩) hHeld ?_
          simp only [Act.put, List.getElem_toArray, List.getElem_cons_succ, List.getElem_cons_zero, List.setIfInBounds_toArray, List.set_cons_zero, List.set_cons_succ]
          refine wpAnyH_done (by kernel_rfl) ?_ _
          rw [← hA'.out]
          clear hHeld
          go_wp2
          go_roundw
          case rel => exact ⟨j + 1, _, rfl, by go_num, by rw [hd'.out], by rw [hAA.out], hlt, hb1⟩
          case measure => simp [intOf]; omega
        · have g0 : ¬ (0 : Int) < (g : Int) := by omega
          have g0d : decide ((0 : Int) < (g : Int)) = false := decide_eq_false g0
          have hun := Lib.hid (hun.out.trans (if_neg hg0))
          obtain ⟨A', hAA⟩ : ∃ A', accL n (j + 1) = A' := ⟨_, rfl⟩
          have hAe := Lib.hid (show accL n (j + 1) = accL n j by rw [hst.out, hun.out, List.append_nil])
          clear hst hun hla hcj hAA
          clear hacc hc hk
          go_wp2
          go_roundw
          case rel => exact ⟨j + 1, _, rfl, by go_num, by rw [hd'.out], by rw [hAe.out], hlt, hbel⟩
          case measure => simp [intOf]; omega
      · obtain rfl : j = 3 := by omega
        have hE := Lib.hid (natL_eq (show 1000 ≤ n by omega) hn)
        have hF := Lib.hid (show natL n = accL n 3 ++ (if 0 < n % 1000 ∧ n % 1000 < 100 then [32, 97, 110, 100] else []) ++ (if 0 < n % 1000 then [32] ++ joinW (cnt3 (n % 1000)) else []) from rfl)
        have lF : (natL n).length ≤ 50000 := by
          rw [hE.out]
          have := cnt_len hn
          simp only [List.length_cons]
          omega
        have lA := hacc.out 3
        have q1 : (n : Int).tmod 1000 = ((n % 1000 : Nat) : Int) := by rw [Int.tmod_eq_emod_of_nonneg (by omega)]; omega
        have q2 : IntKind.i64.wrap ((n % 1000 : Nat) : Int) = ((n % 1000 : Nat) : Int) := IntWalk.i64_in _ (by omega)
        have hbw := hA.trans (hbel.mono (by omega))
        have hkg := Lib.hid (hk.out (n % 1000) (by omega))
        have hr : n % 1000 < 1000 := by omega
        have lX := cnt3_len hr
        clear hk hc hacc
        generalize n % 1000 = r at *
        generalize accL n 3 = A at *
        generalize joinW (cnt3 r) = X at *
        have hFE := Lib.hid (hF.out.symm.trans hE.out)
        have lJ : (joinW (cntW n)).length ≤ 50000 := by rw [hE.out] at lF; simp only [List.length_cons] at lF; omega
        clear hF hE lF
        generalize joinW (cntW n) = J at *
        by_cases r0 : r = 0
        · subst r0
          rw [if_neg (by omega), if_neg (by omega), List.append_nil, List.append_nil] at hFE
          obtain rfl := hFE.out
          go_wp2
          go_ret
          exact ⟨by show Ending.returned (.string _) = _; rw [tl_bytes], hbw⟩
        · have r1 : (0 : Int) < (r : Int) := by omega
          have r1d : decide ((0 : Int) < (r : Int)) = true := decide_eq_true r1
          by_cases r2 : r < 100
          · have r3 : (r : Int) < 100 := by omega
            have r3d : decide ((r : Int) < 100) = true := decide_eq_true r3
            rw [if_pos (by omega), if_pos (by omega)] at hFE
            have hB := Lib.hid (show (⟨A.toArray⟩ : ByteArray) ++ ⟨#[32, 97, 110, 100]⟩ ++ ⟨#[32]⟩ ++ ⟨X.toArray⟩ = ⟨(32 :: J).toArray⟩ by
              rw [← hFE.out, bstr, bstr]
              apply ByteArray.ext
              simp)
            go_wp2_with fail
            refine (hkg.out _).mono ?_
            rintro e x1 ⟨rfl, hx1⟩
            have hb1 := hbw.trans (hx1.mono hbw.size)
            go_upto_region 18 with fail
            rw [hB.out]
            go_wp2
            go_ret
            exact ⟨by show Ending.returned (.string _) = _; rw [tl_bytes], hb1⟩
          · have r3 : ¬ (r : Int) < 100 := by omega
            have r3d : decide ((r : Int) < 100) = false := decide_eq_false r3
            rw [if_neg (by omega), if_pos (by omega), List.append_nil] at hFE
            have hB := Lib.hid (show (⟨A.toArray⟩ : ByteArray) ++ ⟨#[32]⟩ ++ ⟨X.toArray⟩ = ⟨(32 :: J).toArray⟩ by
              rw [← hFE.out, bstr]
              apply ByteArray.ext
              simp)
            go_wp2_with fail
            refine (hkg.out _).mono ?_
            rintro e x1 ⟨rfl, hx1⟩
            have hb1 := hbw.trans (hx1.mono hbw.size)
            go_upto_region 18 with fail
            rw [hB.out]
            go_wp2
            go_ret
            exact ⟨by show Ending.returned (.string _) = _; rw [tl_bytes], hb1⟩
end Go.Proofs.YtpdfjlbfhnapkaaGreatDoor
