/- Windows, and frames weighed with them. -/
import Derived.Test.YtoljffghaklpdaaGreatDoorHM
import Derived.Test.YtoljffghaklpdaaGreatDoorJA
import Derived.Test.YtoljffghaklpdaaGreatDoorZP0
import Derived.Laws.EntriesVeiled
namespace Go.Proofs.YtoljffghaklpdaaGreatDoor
open Go.RowKit

def wTri (d e : Int) : Int := rnd (4096 * (e - max d (-d))) e
def wWel (d e : Int) : Int := rnd (4096 * (e * e - d * d)) (e * e)

theorem flat_any (d e : Int) (w : World) : Calls Tryz.prog 204 #[.int .i64 d, .int .i64 e] w fun e' w' => e' = .returned (.int .i64 4096) ∧ w = w' := by
  go_enter Tryz.func204, Tryz.ntmps204
  go_wp2
  go_ret
  exact ⟨rfl, rfl⟩
theorem triangle_any (d e : Int) (w : World) (he : 1 ≤ e) (he2 : e ≤ 5000) (h1 : -e ≤ d) (h2 : d ≤ e) : Calls Tryz.prog 205 #[.int .i64 d, .int .i64 e] w fun e' w' => e' = .returned (.int .i64 (wTri d e)) ∧ w = w' := by
  go_enter Tryz.func205, Tryz.ntmps205
  go_wp2_with (go_at_call 106; refine (divide_any _ _ _ (by omega) (by omega) (by omega) (by omega)).mono ?_; rintro e' w' ⟨rfl, rfl⟩)
  all_goals
    go_ret
    refine ⟨?_, rfl⟩
    first
      | exact ret_int (by unfold wTri; rfl)
      | (refine ret_int (a := rnd (4096 * (e - d)) e) (b := wTri d e) ?_; unfold wTri; rw [show max d (-d) = d by omega])
      | (refine ret_int (a := rnd (4096 * (e + d)) e) (b := wTri d e) ?_; unfold wTri; rw [show e - max d (-d) = e + d by omega])
theorem welch_any (d e : Int) (w : World) (he : 1 ≤ e) (he2 : e ≤ 5000) (h1 : -e ≤ d) (h2 : d ≤ e) : Calls Tryz.prog 206 #[.int .i64 d, .int .i64 e] w fun e' w' => e' = .returned (.int .i64 (wWel d e)) ∧ w = w' := by
  have hd := sq_bd (m := 5000) (x := d) (by omega) (by omega)
  have hd1 := hd.1
  have hd2 := hd.2
  have hee : 1 * 1 ≤ e * e := Int.mul_le_mul he he (by omega) (by omega)
  have hee2 := (sq_bd (m := 5000) (x := e) (by omega) (by omega)).2
  have hde := (sq_bd (m := e) (x := d) h1 h2).2
  clear hd
  go_enter Tryz.func206, Tryz.ntmps206
  go_wp2_with (go_at_call 106; refine (divide_any _ _ _ (by omega) (by omega) (by omega) (by omega)).mono ?_; rintro e' w' ⟨rfl, rfl⟩)
  go_ret
  exact ⟨rfl, rfl⟩

/-- the function of a kind of window -/
def wFn (kind d e : Int) : Int := if kind = 1 then 4096 else if kind = 2 then wTri d e else wWel d e
theorem wFn1 (d e : Int) : wFn 1 d e = 4096 := rfl
theorem wFn2 (d e : Int) : wFn 2 d e = wTri d e := rfl
theorem wFn3 (d e : Int) : wFn 3 d e = wWel d e := rfl
/-- weight i of the window of n elements -/
def wAt (kind : Int) (n : Int) (i : Nat) : Int := wFn kind (2 * (i : Int) - (n - 1)) (n + 1)

set_option maxHeartbeats 800000 in
theorem weights1_any (n : Nat) (w : World) (hn : 1 ≤ n) (hn2 : n ≤ 4096) :
    Calls Tryz.prog 171 #[.agg #[.int .i64 1, .func (.func 204) #[] #[]], .int .i64 (n : Int)] w (RetL .i64 w (tab n (wAt 1 n))) := by
  have hmk := make_int n (by omega)
  go_enter Tryz.func171, Tryz.ntmps171
  go_wp2
  clear hmk
  go_loopw [11] (fun iv wr => ∃ k : Nat, iv = .int .i64 k ∧ k ≤ n ∧ Fill w wr (w.heap.size + 1) 3 n k (wAt 1 n) ∧ Blk wr w.heap.size 185 #[.int .i64 1, .func (.func 204) #[] #[]]) (fun iv _ => n - (intOf iv).toNat)
  case atStart => exact ⟨0, rfl, Nat.zero_le _, Fill.start ((Below.refl _ _).alloc (Nat.le_refl _) _) (by simp), (Blk.new _ _ _).alloc _⟩
  case round =>
    obtain ⟨k, rfl, hkn, hF, hB⟩ := hrel
    rcases Nat.lt_or_ge k n with hlt | hge
    · obtain ⟨y, hcy⟩ := hF.cell hlt
      have hcf := hF.frozen k
      have hc1 := hB.cell 1
      have hv := Lib.hid (show wFn 1 (2 * (k : Int) - ((n : Int) - 1)) ((n : Int) + 1) = wAt 1 n k from rfl)
      go_wp2_with (go_at_call 204; refine (flat_any _ _ _).mono ?_; rintro e' w' ⟨rfl, rfl⟩)
      go_roundw
      case rel => exact ⟨k + 1, by go_num, hlt, hF.next hlt hv.out, hB.far (by simp) _⟩
      case measure => simp [intOf]; omega
    · have hkn' : k = n := by omega
      subst hkn'
      have hD := hF.done (by omega)
      go_wp2
      go_ret
      exact ⟨_, _, _, rfl, hD, hF.bel, fresh_at hF.new⟩

set_option maxHeartbeats 800000 in
theorem weights2_any (n : Nat) (w : World) (hn : 1 ≤ n) (hn2 : n ≤ 4096) :
    Calls Tryz.prog 171 #[.agg #[.int .i64 2, .func (.func 205) #[] #[]], .int .i64 (n : Int)] w (RetL .i64 w (tab n (wAt 2 n))) := by
  have hmk := make_int n (by omega)
  go_enter Tryz.func171, Tryz.ntmps171
  go_wp2
  clear hmk
  go_loopw [11] (fun iv wr => ∃ k : Nat, iv = .int .i64 k ∧ k ≤ n ∧ Fill w wr (w.heap.size + 1) 3 n k (wAt 2 n) ∧ Blk wr w.heap.size 185 #[.int .i64 2, .func (.func 205) #[] #[]]) (fun iv _ => n - (intOf iv).toNat)
  case atStart => exact ⟨0, rfl, Nat.zero_le _, Fill.start ((Below.refl _ _).alloc (Nat.le_refl _) _) (by simp), (Blk.new _ _ _).alloc _⟩
  case round =>
    obtain ⟨k, rfl, hkn, hF, hB⟩ := hrel
    rcases Nat.lt_or_ge k n with hlt | hge
    · obtain ⟨y, hcy⟩ := hF.cell hlt
      have hcf := hF.frozen k
      have hc1 := hB.cell 1
      have hv := Lib.hid (show wFn 2 (2 * (k : Int) - ((n : Int) - 1)) ((n : Int) + 1) = wAt 2 n k from rfl)
      go_wp2_with (go_at_call 205; refine (triangle_any _ _ _ (by omega) (by omega) (by omega) (by omega)).mono ?_; rintro e' w' ⟨rfl, rfl⟩)
      go_roundw
      case rel => exact ⟨k + 1, by go_num, hlt, hF.next hlt hv.out, hB.far (by simp) _⟩
      case measure => simp [intOf]; omega
    · have hkn' : k = n := by omega
      subst hkn'
      have hD := hF.done (by omega)
      go_wp2
      go_ret
      exact ⟨_, _, _, rfl, hD, hF.bel, fresh_at hF.new⟩

set_option maxHeartbeats 800000 in
theorem weights3_any (n : Nat) (w : World) (hn : 1 ≤ n) (hn2 : n ≤ 4096) :
    Calls Tryz.prog 171 #[.agg #[.int .i64 3, .func (.func 206) #[] #[]], .int .i64 (n : Int)] w (RetL .i64 w (tab n (wAt 3 n))) := by
  have hmk := make_int n (by omega)
  go_enter Tryz.func171, Tryz.ntmps171
  go_wp2
  clear hmk
  go_loopw [11] (fun iv wr => ∃ k : Nat, iv = .int .i64 k ∧ k ≤ n ∧ Fill w wr (w.heap.size + 1) 3 n k (wAt 3 n) ∧ Blk wr w.heap.size 185 #[.int .i64 3, .func (.func 206) #[] #[]]) (fun iv _ => n - (intOf iv).toNat)
  case atStart => exact ⟨0, rfl, Nat.zero_le _, Fill.start ((Below.refl _ _).alloc (Nat.le_refl _) _) (by simp), (Blk.new _ _ _).alloc _⟩
  case round =>
    obtain ⟨k, rfl, hkn, hF, hB⟩ := hrel
    rcases Nat.lt_or_ge k n with hlt | hge
    · obtain ⟨y, hcy⟩ := hF.cell hlt
      have hcf := hF.frozen k
      have hc1 := hB.cell 1
      have hv := Lib.hid (show wFn 3 (2 * (k : Int) - ((n : Int) - 1)) ((n : Int) + 1) = wAt 3 n k from rfl)
      go_wp2_with (go_at_call 206; refine (welch_any _ _ _ (by omega) (by omega) (by omega) (by omega)).mono ?_; rintro e' w' ⟨rfl, rfl⟩)
      go_roundw
      case rel => exact ⟨k + 1, by go_num, hlt, hF.next hlt hv.out, hB.far (by simp) _⟩
      case measure => simp [intOf]; omega
    · have hkn' : k = n := by omega
      subst hkn'
      have hD := hF.done (by omega)
      go_wp2
      go_ret
      exact ⟨_, _, _, rfl, hD, hF.bel, fresh_at hF.new⟩

end Go.Proofs.YtoljffghaklpdaaGreatDoor


/- Windows by their kinds, and frames weighed with them. -/
namespace Go.Proofs.YtoljffghaklpdaaGreatDoor
open Go.RowKit

/-- the kinds of windows and their functions, as they lie in memory -/
def shC : Array Value := #[.int .i64 1, .func (.func 204) #[] #[], .int .i64 2, .func (.func 205) #[] #[], .int .i64 3, .func (.func 206) #[] #[]]
theorem shapes_any (w : World) : Calls Tryz.prog 170 #[] w fun e w' => e = .returned (.slice (some ⟨w.heap.size, 0, none⟩) 3 3) ∧ w.alloc (.cells shC 185) = w' := by
  go_enter Tryz.func170, Tryz.ntmps170
  go_wp2
  go_ret
  exact ⟨rfl, rfl⟩

/-- what Window returns -/
def wnC (kind size : Int) : Int := if okB 1 4096 size && okB 1 3 kind then 0 else 2
def wnL (kind size : Int) : List Int := if okB 1 4096 size && okB 1 3 kind then tab size.toNat (wAt kind size) else []

set_option maxHeartbeats 1600000 in
theorem Window_any (kind size : Int) (w : World) :
    Calls Tryz.prog 128 #[.int .i64 kind, .int .i64 size] w (RetL2 .i64 w (wnL kind size) (wnC kind size)) := by
  cases hs : okB 1 4096 size with
  | false =>
    have hL := Lib.hid (show wnL kind size = [] by unfold wnL; rw [hs]; rfl)
    have hC := Lib.hid (show wnC kind size = 2 by unfold wnC; rw [hs]; rfl)
    go_enter Tryz.func128, Tryz.ntmps128
    go_wp2_with (go_at_call 51; refine (within_any _ _ _ _).mono ?_; rintro e w' ⟨rfl, rfl⟩)
    go_ret2
    exact ⟨none, 0, 0, by rw [hC.out]; rfl, by rw [hL.out]; exact Sl.nil _ _, Below.refl _ _⟩
  | true =>
    have hs' := Lib.hid hs
    obtain ⟨n, rfl⟩ : ∃ n : Nat, size = (n : Int) := ⟨size.toNat, by have := okB_iff.1 hs; omega⟩
    have hb := okB_iff.1 hs
    have hn1 : 1 ≤ n := by omega
    have hn2 : n ≤ 4096 := by omega
    clear hb
    go_enter Tryz.func128, Tryz.ntmps128
    go_wp2_with (first | (go_at_call 51; refine (within_any _ _ _ _).mono ?_; rintro e w' ⟨rfl, rfl⟩) | (go_at_call 170; refine (shapes_any _).mono ?_; rintro e w' ⟨rfl, rfl⟩))
    clear hs
    go_loopw [13] (fun iv wr => ∃ k : Nat, iv = .int .i64 k ∧ k ≤ 3 ∧ Blk wr w.heap.size 185 shC ∧ Below w.heap.size w wr ∧ Hid (∀ j : Nat, 1 ≤ j → j ≤ k → kind ≠ (j : Int))) (fun iv _ => 3 - (intOf iv).toNat)
    case atStart => exact ⟨0, rfl, by omega, Blk.new _ _ _, (Below.refl _ _).alloc (Nat.le_refl _) _, fun j h1 h2 => by omega⟩
    case round =>
      obtain ⟨k, rfl, hk3, hB, hb, hne⟩ := hrel
      rcases (show k = 0 ∨ k = 1 ∨ k = 2 ∨ k = 3 by omega) with rfl | rfl | rfl | rfl
      · have c0 := hB.cell 0
        have c1 := hB.cell 1
        rw [show shC[0]? = some (.int .i64 1) from rfl] at c0
        rw [show shC[1]? = some (.func (.func 204) #[] #[]) from rfl] at c1
        have hsz := hb.size
        by_cases hk : kind = 1
        · subst hk
          have hL := Lib.hid (show wnL 1 n = tab n (wAt 1 n) by unfold wnL; rw [hs'.out]; rfl)
          have hC := Lib.hid (show wnC 1 n = 0 by unfold wnC; rw [hs'.out]; rfl)
          go_wp2_with (go_at_call 171; refine (weights1_any _ _ hn1 hn2).mono ?_; rintro e w' ⟨A2, m2, c2, rfl, h2, hb2, _⟩)
          go_ret2
          exact ⟨A2, m2, c2, by rw [hC.out]; rfl, by rw [hL.out]; exact h2, (hb.alloc hsz _).trans (hb2.mono (by simp; omega))⟩
        · have hk' : ((1 : Int) == kind) = false := by simp; omega
          have hne' := Lib.hid (show ∀ j : Nat, 1 ≤ j → j ≤ 0 + 1 → kind ≠ (j : Int) from fun j h1 h2 => by
            rcases (show j ≤ 0 ∨ j = 1 by omega) with h | h
            · exact hne.out j h1 h
            · rw [h]; exact hk)
          clear hk
          go_wp2
          go_roundw
          case rel => exact ⟨1, rfl, by omega, hB.alloc _, hb.alloc hsz _, hne'.out⟩
          case measure => simp [intOf]
      · have c0 := hB.cell 2
        have c1 := hB.cell 3
        rw [show shC[2]? = some (.int .i64 2) from rfl] at c0
        rw [show shC[3]? = some (.func (.func 205) #[] #[]) from rfl] at c1
        have hsz := hb.size
        by_cases hk : kind = 2
        · subst hk
          have hL := Lib.hid (show wnL 2 n = tab n (wAt 2 n) by unfold wnL; rw [hs'.out]; rfl)
          have hC := Lib.hid (show wnC 2 n = 0 by unfold wnC; rw [hs'.out]; rfl)
          go_wp2_with (go_at_call 171; refine (weights2_any _ _ hn1 hn2).mono ?_; rintro e w' ⟨A2, m2, c2, rfl, h2, hb2, _⟩)
          go_ret2
          exact ⟨A2, m2, c2, by rw [hC.out]; rfl, by rw [hL.out]; exact h2, (hb.alloc hsz _).trans (hb2.mono (by simp; omega))⟩
        · have hk' : ((2 : Int) == kind) = false := by simp; omega
          have hne' := Lib.hid (show ∀ j : Nat, 1 ≤ j → j ≤ 1 + 1 → kind ≠ (j : Int) from fun j h1 h2 => by
            rcases (show j ≤ 1 ∨ j = 2 by omega) with h | h
            · exact hne.out j h1 h
            · rw [h]; exact hk)
          clear hk
          go_wp2
          go_roundw
          case rel => exact ⟨2, rfl, by omega, hB.alloc _, hb.alloc hsz _, hne'.out⟩
          case measure => simp [intOf]
      · have c0 := hB.cell 4
        have c1 := hB.cell 5
        rw [show shC[4]? = some (.int .i64 3) from rfl] at c0
        rw [show shC[5]? = some (.func (.func 206) #[] #[]) from rfl] at c1
        have hsz := hb.size
        by_cases hk : kind = 3
        · subst hk
          have hL := Lib.hid (show wnL 3 n = tab n (wAt 3 n) by unfold wnL; rw [hs'.out]; rfl)
          have hC := Lib.hid (show wnC 3 n = 0 by unfold wnC; rw [hs'.out]; rfl)
          go_wp2_with (go_at_call 171; refine (weights3_any _ _ hn1 hn2).mono ?_; rintro e w' ⟨A2, m2, c2, rfl, h2, hb2, _⟩)
          go_ret2
          exact ⟨A2, m2, c2, by rw [hC.out]; rfl, by rw [hL.out]; exact h2, (hb.alloc hsz _).trans (hb2.mono (by simp; omega))⟩
        · have hk' : ((3 : Int) == kind) = false := by simp; omega
          have hne' := Lib.hid (show ∀ j : Nat, 1 ≤ j → j ≤ 2 + 1 → kind ≠ (j : Int) from fun j h1 h2 => by
            rcases (show j ≤ 2 ∨ j = 3 by omega) with h | h
            · exact hne.out j h1 h
            · rw [h]; exact hk)
          clear hk
          go_wp2
          go_roundw
          case rel => exact ⟨3, rfl, by omega, hB.alloc _, hb.alloc hsz _, hne'.out⟩
          case measure => simp [intOf]
      · have hf := Lib.hid (show okB 1 3 kind = false by
          cases h : okB 1 3 kind with
          | false => rfl
          | true =>
            have h2 := okB_iff.1 h
            exact absurd (show kind = ((kind.toNat : Nat) : Int) by omega) (hne.out kind.toNat (by omega) (by omega)))
        have hL := Lib.hid (show wnL kind n = [] by unfold wnL; rw [hf.out, Bool.and_false]; rfl)
        have hC := Lib.hid (show wnC kind n = 2 by unfold wnC; rw [hf.out, Bool.and_false]; rfl)
        go_wp2
        go_ret2
        exact ⟨none, 0, 0, by rw [hC.out]; rfl, by rw [hL.out]; exact Sl.nil _ _, hb⟩

theorem wn_cases (kind size : Int) : (wnC kind size = 2 ∧ wnL kind size = []) ∨ (1 ≤ size ∧ size ≤ 4096 ∧ 1 ≤ kind ∧ kind ≤ 3 ∧ wnC kind size = 0 ∧ wnL kind size = tab size.toNat (wAt kind size)) := by
  unfold wnC wnL
  cases h : okB 1 4096 size && okB 1 3 kind with
  | false => exact .inl ⟨rfl, rfl⟩
  | true =>
    rw [Bool.and_eq_true, okB_iff, okB_iff] at h
    exact .inr ⟨h.1.1, h.1.2, h.2.1, h.2.2, rfl, rfl⟩

/-- weights are from 0 to 4096 -/
theorem wAt_bd {kind : Int} {n i : Nat} (hk1 : 1 ≤ kind) (hk2 : kind ≤ 3) (hi : i < n) : 0 ≤ wAt kind n i ∧ wAt kind n i ≤ 4096 := by
  unfold wAt
  generalize hd : 2 * (i : Int) - ((n : Int) - 1) = d
  generalize he : (n : Int) + 1 = e
  have h1 : -e ≤ d := by omega
  have h2 : d ≤ e := by omega
  have he1 : 1 ≤ e := by omega
  have key : ∀ a b : Int, 0 ≤ a → 1 ≤ b → a ≤ b → 0 ≤ rnd (4096 * a) b ∧ rnd (4096 * a) b ≤ 4096 := fun a b ha hb hab => by
    have h3 := rnd_bd (a := 4096 * a) (b := b) (by omega) hb
    refine ⟨h3.1, ?_⟩
    rw [rnd_pos (by omega)]
    have : (2 * (4096 * a) + b) / (2 * b) < 4096 + 1 := Int.ediv_lt_of_lt_mul (by omega) (by omega)
    omega
  rcases (show kind = 1 ∨ kind = 2 ∨ kind = 3 by omega) with rfl | rfl | rfl
  · rw [wFn1]; omega
  · rw [wFn2]; unfold wTri; exact key _ _ (by omega) he1 (by omega)
  · rw [wFn3]; unfold wWel
    have hs := sq_bd h1 h2
    have hee : 1 * 1 ≤ e * e := Int.mul_le_mul he1 he1 (by omega) (by omega)
    exact key _ _ (by omega) (by omega) (by omega)

/-- what Weigh returns -/
def wgC (xs : List Int) (kind : Int) : Int := if chkV_w xs = 0 then wnC kind xs.length else chkV_w xs
def wgAt (xs : List Int) (kind : Int) (i : Nat) : Int := rnd (xs.getD i 0 * wAt kind xs.length i) 4096
def wgL (xs : List Int) (kind : Int) : List Int := if wgC xs kind = 0 then tab xs.length (wgAt xs kind) else []

set_option maxHeartbeats 1600000 in
theorem Weigh_any (A : Option Addr) (n c : Nat) (xs : List Int) (kind : Int) (w : World) (h : Sl .i64 w A n c xs) :
    Calls Tryz.prog 168 #[.slice A n c, .int .i64 kind] w (RetL2 .i64 w (wgL xs kind) (wgC xs kind)) := by
  have hl := Lib.hid h.len
  have hcap := h.cap
  have htop := h.top
  rcases chk_cases (-2147483647) 2147483647 xs with ⟨_, hk⟩ | ⟨hn, hall, hk⟩ | ⟨_, _, hk⟩
  · have hC := Lib.hid (show wgC xs kind = 5 by unfold wgC chkV_w; rw [hk]; rfl)
    have hL := Lib.hid (show wgL xs kind = [] by unfold wgL; rw [hC.out]; rfl)
    go_enter Tryz.func168, Tryz.ntmps168
    go_wp2_with (go_at_call 177; refine (checkValues_any _ _ _ _ _ h).mono ?_; rintro e w' ⟨rfl, rfl⟩)
    go_ret2
    exact ⟨none, 0, 0, by rw [hC.out]; rfl, by rw [hL.out]; exact Sl.nil _ _, Below.refl _ _⟩
  · rw [hl.out] at hn
    have hall := Lib.hid hall
    rcases wn_cases kind n with ⟨hw, hwl⟩ | ⟨hn1, hn2, hk1, hk2, hw, hwl⟩
    · have hC := Lib.hid (show wgC xs kind = 2 by unfold wgC chkV_w; rw [hk, hl.out, hw]; rfl)
      have hL := Lib.hid (show wgL xs kind = [] by unfold wgL; rw [hC.out]; rfl)
      clear hwl
      go_enter Tryz.func168, Tryz.ntmps168
      go_wp2_with (first | (go_at_call 177; refine (checkValues_any _ _ _ _ _ h).mono ?_; rintro e w' ⟨rfl, rfl⟩) | (go_at_call 128; refine (Window_any _ _ _).mono ?_; rintro e w' ⟨A2, m2, c2, rfl, h2, hb2⟩))
      go_ret2
      exact ⟨none, 0, 0, by rw [hC.out]; rfl, by rw [hL.out]; exact Sl.nil _ _, hb2⟩
    · have hC := Lib.hid (show wgC xs kind = 0 by unfold wgC chkV_w; rw [hk, hl.out, hw]; rfl)
      have hL := Lib.hid (show wgL xs kind = tab n (wgAt xs kind) by unfold wgL; rw [hC.out, hl.out]; rfl)
      have hwl := Lib.hid hwl
      have hmk := make_int n (by omega)
      go_enter Tryz.func168, Tryz.ntmps168
      go_wp2_with (first | (go_at_call 177; refine (checkValues_any _ _ _ _ _ h).mono ?_; rintro e w' ⟨rfl, rfl⟩) | (go_at_call 128; refine (Window_any _ _ _).mono ?_; rintro e w2 ⟨A2, m2, c2, rfl, h2, hb2⟩))
      have hl2 := h2.len
      rw [hwl.out, tab_len, Int.toNat_natCast] at hl2
      subst hl2
      have hcap2 := h2.cap
      have htop2 := h2.top
      clear hmk hk hw
      go_loopw [32] (fun iv wr => ∃ k : Nat, iv = .int .i64 k ∧ k ≤ n ∧ Fill w2 wr w2.heap.size 3 n k (wgAt xs kind)) (fun iv _ => n - (intOf iv).toNat)
      case atStart => exact ⟨0, rfl, Nat.zero_le _, Fill.start (Below.refl _ _) rfl⟩
      case round =>
        obtain ⟨k, rfl, hkn, hF⟩ := hrel
        rcases Nat.lt_or_ge k n with hlt | hge
        · have hr := (h.below hb2).below hF.bel
          have hr2 := h2.below hF.bel
          obtain ⟨ad, x, rfl, hcx, hx⟩ := hr.at_ hlt
          obtain ⟨ad2, x2, rfl, hcx2, hx2⟩ := hr2.at_ hlt
          obtain ⟨y, hcy⟩ := hF.cell hlt
          have hcf := hF.frozen k
          have ex2 := hx2.out
          rw [hwl.out, Int.toNat_natCast, tab_getD hlt] at ex2
          have hwb := wAt_bd (kind := kind) hk1 hk2 hlt
          rw [ex2] at hwb
          have hv := Lib.hid (show rnd (x * x2) 4096 = wgAt xs kind k by unfold wgAt; rw [hx.out, hl.out, ex2])
          have hxb := allB_get hall.out (by rw [hl.out]; exact hlt) hx.out
          have hm := mul_bd (a := x2) (b := x) (m := 4096) (q := 2147483647) hwb.1 hwb.2 hxb.1 hxb.2 (by omega)
          rw [Int.mul_comm x2 x] at hm
          have hm1 := hm.1
          have hm2 := hm.2
          clear hxb hm hwb ex2
          go_wp2_with (go_at_call 106; refine (divide_any _ _ _ (by omega) (by omega) (by omega) (by omega)).mono ?_; rintro e w' ⟨rfl, rfl⟩)
          go_roundw
          case rel => exact ⟨k + 1, by go_num, hlt, hF.next hlt hv.out⟩
          case measure => simp [intOf]; omega
        · have hkn' : k = n := by omega
          subst hkn'
          have hD := hF.done (by omega)
          go_wp2
          go_ret2
          exact ⟨_, _, _, by rw [hC.out]; rfl, by rw [hL.out]; exact hD, hb2.trans (hF.bel.mono hb2.size)⟩
  · have hC := Lib.hid (show wgC xs kind = 2 by unfold wgC chkV_w; rw [hk]; rfl)
    have hL := Lib.hid (show wgL xs kind = [] by unfold wgL; rw [hC.out]; rfl)
    go_enter Tryz.func168, Tryz.ntmps168
    go_wp2_with (go_at_call 177; refine (checkValues_any _ _ _ _ _ h).mono ?_; rintro e w' ⟨rfl, rfl⟩)
    go_ret2
    exact ⟨none, 0, 0, by rw [hC.out]; rfl, by rw [hL.out]; exact Sl.nil _ _, Below.refl _ _⟩
end Go.Proofs.YtoljffghaklpdaaGreatDoor
