/- Smoothed samples. -/
import Derived.Test.YtobobbhifajhmaaV4
namespace Go.Proofs.Ytobobbhifajhmaa
open Go.RowKit

/-- element i; behind the last one, the last one -/
def lastAt (xs : List Int) (i : Nat) : Int := xs.getD (min i (xs.length - 1)) 0
/-- the sum of k elements from i on -/
def wsum (xs : List Int) (i : Nat) : Nat → Int
  | 0 => 0
  | k + 1 => wsum xs i k + lastAt xs (i + k)
theorem wsum_slide (xs : List Int) (i k : Nat) : wsum xs (i + 1) k = wsum xs i k + (lastAt xs (i + k) - lastAt xs i) := by
  induction k with
  | zero => show (0 : Int) = 0 + (lastAt xs (i + 0) - lastAt xs i); rw [Nat.add_zero]; omega
  | succ k ih =>
    show wsum xs (i + 1) k + lastAt xs (i + 1 + k) = wsum xs i k + lastAt xs (i + k) + (lastAt xs (i + (k + 1)) - lastAt xs i)
    rw [ih, show i + 1 + k = i + (k + 1) by omega]; omega
theorem lastAt_bd {xs : List Int} {m : Int} (h : ∀ x ∈ xs, -m ≤ x ∧ x ≤ m) (hn : 0 < xs.length) (i : Nat) : -m ≤ lastAt xs i ∧ lastAt xs i ≤ m := by
  unfold lastAt
  have hi : min i (xs.length - 1) < xs.length := by omega
  rw [getD_in hi]
  exact h _ (List.getElem_mem hi)
theorem wsum_bd {xs : List Int} {m : Int} (h : ∀ x ∈ xs, -m ≤ x ∧ x ≤ m) (hn : 0 < xs.length) (i k : Nat) : -(m * (k : Int)) ≤ wsum xs i k ∧ wsum xs i k ≤ m * (k : Int) := by
  induction k with
  | zero => show _ ≤ (0 : Int) ∧ (0 : Int) ≤ _; simp
  | succ k ih =>
    have := lastAt_bd h hn (i + k)
    show _ ≤ wsum xs i k + _ ∧ wsum xs i k + _ ≤ _
    rw [Int.natCast_succ, Int.mul_add]
    omega
/-- the mean of wd elements from i on -/
def smAt (xs : List Int) (wd i : Nat) : Int := rnd (wsum xs i wd) wd

set_option maxHeartbeats 400000 in
theorem smooth1_any (i : Nat) (g : Nat) (A : Option Addr) (n c : Nat) (xs : List Int) (w : World) (h : Sl .i64 w A n c xs) (hB : Blk w g 22 #[.slice A n c]) (hn : 1 ≤ n) (hi : i ≤ 1000000000) :
    Calls Try.prog 103 #[.int .i64 (i : Int), .pointer (some ⟨g, 0, none⟩)] w fun e w' => e = .returned (.int .i64 (lastAt xs i)) ∧ w = w' := by
  have hc0 := hB.cell 0
  have hl := Lib.hid h.len
  have hcap := h.cap
  have htop := h.top
  rcases Nat.lt_or_ge i n with hlt | hge
  · obtain ⟨ad, x, rfl, hcx, hx⟩ := h.at_ hlt
    have hv := Lib.hid (show lastAt xs i = x by unfold lastAt; rw [hl.out, show min i (n - 1) = i by omega]; exact hx.out)
    go_enter Try.func103, Try.ntmps103
    go_wp2
    go_ret
    exact ⟨ret_int hv.out.symm, rfl⟩
  · obtain ⟨m, rfl⟩ : ∃ m, n = m + 1 := ⟨n - 1, by omega⟩
    obtain ⟨ad, x, rfl, hcx, hx⟩ := h.at_ (j := m) (by omega)
    have hv := Lib.hid (show lastAt xs i = x by unfold lastAt; rw [hl.out, show min i (m + 1 - 1) = m by omega]; exact hx.out)
    go_enter Try.func103, Try.ntmps103
    go_wp2
    go_ret
    exact ⟨ret_int hv.out.symm, rfl⟩
theorem smooth1_at (iv : Int) (i : Nat) (hiv : iv = (i : Int)) (g : Nat) (A : Option Addr) (n c : Nat) (xs : List Int) (w : World) (h : Sl .i64 w A n c xs) (hB : Blk w g 22 #[.slice A n c]) (hn : 1 ≤ n) (hi : i ≤ 1000000000) :
    Calls Try.prog 103 #[.int .i64 iv, .pointer (some ⟨g, 0, none⟩)] w fun e w' => e = .returned (.int .i64 (lastAt xs i)) ∧ w = w' := by
  subst hiv
  exact smooth1_any i g A n c xs w h hB hn hi

theorem make_int1 (n : Nat) (hn : n ≤ 1000000) (w : World) :
    (Instr.makeSlice 22 (.int .i64 ((n : Int) + 1)) (.int .i64 ((n : Int) + 1))).run Try.prog w = .ok (.slice (some ⟨w.heap.size, 0, none⟩) (n + 1) (n + 1)) (w.alloc (.cells (ivs .i64 (zs (n + 1))).toArray 3)) := by
  have := make_int (n + 1) (by omega) w
  rw [Int.natCast_succ] at this
  exact this

set_option maxHeartbeats 1600000 in
theorem smooth_any (A : Option Addr) (n c wd : Nat) (xs : List Int) (w : World) (h : Sl .i64 w A n c xs) (hn1 : 1 ≤ n) (hn : n ≤ 200000) (hx : ∀ x ∈ xs, -32768 ≤ x ∧ x ≤ 32768) (hw1 : 1 ≤ wd) (hw2 : wd ≤ 16) :
    Calls Try.prog 93 #[.slice A n c, .int .i64 (wd : Int)] w (RetL .i64 w (tab (n + 1) (smAt xs wd))) := by
  have hl := Lib.hid h.len
  have hcap := h.cap
  have htop := h.top
  have hx := Lib.hid hx
  have hmk := make_int1 n (by omega)
  have hne : ((n : Int) == 0) = false := by rw [beq_eq_false_iff_ne]; omega
  have hS := h.alloc (.cells #[.slice A n c] 22)
  have hB := Blk.new w 22 #[.slice A n c]
  have hb := (Below.refl w.heap.size w).alloc (Nat.le_refl _) (.cells #[.slice A n c] 22)
  go_enter Try.func93, Try.ntmps93
  go_wp2
  go_loop [6, 15] (fun sv iv => ∃ k : Nat, iv = .int .i64 k ∧ k ≤ wd ∧ sv = .int .i64 (wsum xs 0 k)) (fun _ iv => wd - (intOf iv).toNat)
  case atStart => exact ⟨0, rfl, Nat.zero_le _, rfl⟩
  case round =>
    obtain ⟨k, rfl, hkw, rfl⟩ := hrel
    rcases Nat.lt_or_ge k wd with hlt | hge
    · have hbd := wsum_bd hx.out (by rw [hl.out]; omega) 0 k
      have hbd2 := lastAt_bd hx.out (by rw [hl.out]; omega) (i := k)
      have h1 : -1000000 ≤ wsum xs 0 k := by omega
      have h2 : wsum xs 0 k ≤ 1000000 := by omega
      have h3 := hbd2.1
      have h4 := hbd2.2
      clear hbd hbd2
      go_wp2_with (go_at_call 103; refine (smooth1_any _ _ _ _ _ _ _ hS hB hn1 (by omega)).mono ?_; rintro e w' ⟨rfl, rfl⟩)
      go_round
      case rel => exact ⟨k + 1, by go_num, hlt, by rw [show wsum xs 0 (k + 1) = wsum xs 0 k + lastAt xs (0 + k) from rfl, Nat.zero_add]⟩
      case measure => simp [intOf]; omega
    · have hkn : k = wd := by omega
      subst hkn
      go_wp2
      clear hmk hne
      go_loopw [6, 30] (fun sv iv wr => ∃ j : Nat, iv = .int .i64 j ∧ j ≤ n + 1 ∧ sv = .int .i64 (wsum xs j k) ∧ Fill w wr (w.heap.size + 1) 3 (n + 1) j (smAt xs k) ∧ Blk wr w.heap.size 22 #[.slice A n c]) (fun _ iv _ => (n + 1) - (intOf iv).toNat)
      case atStart => exact ⟨0, rfl, Nat.zero_le _, rfl, Fill.start hb (by simp), hB.alloc _⟩
      case round =>
        obtain ⟨j, rfl, hjn, rfl, hF, hB2⟩ := hrel
        rcases Nat.lt_or_ge j (n + 1) with hlt | hge2
        · obtain ⟨y, hcy⟩ := hF.cell hlt
          have hcf := hF.frozen j
          have hS2 := (h.below hF.bel).farn (g := w.heap.size + 1) (h.ne_new (by omega)) j (.int .i64 (smAt xs k j))
          have hB3 := hB2.far (p := ⟨w.heap.size + 1, j, none⟩) (by simp) (.int .i64 (smAt xs k j))
          have hv := Lib.hid (show rnd (wsum xs j k) k = smAt xs k j from rfl)
          have hsl := Lib.hid (wsum_slide xs j k)
          have hbd := wsum_bd hx.out (by rw [hl.out]; omega) j k
          have hbd2 := lastAt_bd hx.out (by rw [hl.out]; omega) (i := j)
          have hbd3 := lastAt_bd hx.out (by rw [hl.out]; omega) (i := j + k)
          have h1 : -1000000 ≤ wsum xs j k := by omega
          have h2 : wsum xs j k ≤ 1000000 := by omega
          have h3 := hbd2.1
          have h4 := hbd2.2
          have h5 := hbd3.1
          have h6 := hbd3.2
          clear hbd hbd2 hbd3
          go_wp2_with fail
          refine (divide_any _ _ _ (by omega) (by omega) (by omega) (by omega)).mono ?_
          rintro e w' ⟨rfl, rfl⟩
          rw [show rnd (wsum xs j k) k = smAt xs k j from rfl]
          go_wp2_with fail
          refine (smooth1_at _ (j + k) (by omega) _ _ _ _ _ _ hS2 hB3 hn1 (by omega)).mono ?_
          rintro e w' ⟨rfl, rfl⟩
          go_wp2_with fail
          refine (smooth1_at _ j rfl _ _ _ _ _ _ hS2 hB3 hn1 (by omega)).mono ?_
          rintro e w' ⟨rfl, rfl⟩
          go_wp2
          go_roundw
          case rel => exact ⟨j + 1, by go_num, hlt, by rw [hsl.out], hF.next hlt rfl, hB3⟩
          case measure => simp [intOf]; omega
        · have hjn' : j = n + 1 := by omega
          subst hjn'
          have hD := hF.done (by omega)
          go_wp2
          go_ret
          exact ⟨_, _, _, rfl, hD, hF.bel, fresh_at hF.new⟩
end Go.Proofs.Ytobobbhifajhmaa
