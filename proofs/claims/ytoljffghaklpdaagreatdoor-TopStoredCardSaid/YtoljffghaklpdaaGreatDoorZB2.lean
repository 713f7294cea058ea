/- The bytes of a recording: Pack. -/
import Derived.Test.YtoljffghaklpdaaGreatDoorHM
import Derived.Test.YtoljffghaklpdaaGreatDoorJA
import Derived.Test.YtoljffghaklpdaaGreatDoorZC0
import Derived.Test.YtoljffghaklpdaaGreatDoorZP6
import Derived.Lib.SmallJoins
import Derived.Laws.BytesArg
import Derived.Deep.RegionHeld3
namespace Go.Proofs.YtoljffghaklpdaaGreatDoor
open Go.RowKit

theorem own_blk_w {w : World} {g n : Nat} {t : TypeId} {k : IntKind} {xs : List Int} (hB : Blk w g t (ivs k xs).toArray) (hn : xs.length = n) (hm : n ≤ 9223372036854775807) : w.ownsRow g t 1 (.slice (some ⟨g, 0, none⟩) n n) n (ivs k xs) := by
  refine ⟨by rw [ivs_len, hn, Nat.mul_one], .inr ⟨g, n, (ivs k xs).toArray, rfl, Nat.le_refl _, hB, Nat.le_refl _, by simpa [maxLen] using hm, by simp [ivs, hn], ?_⟩⟩
  rw [Nat.mul_one, List.take_of_length_le (by rw [ivs_len, hn]; exact Nat.le_refl _)]

/-- the bytes of samples -/
def smp (xs : List Int) : List Int := xs.flatMap fun x => le x 2
theorem smp_snoc (xs : List Int) (x : Int) : smp (xs ++ [x]) = smp xs ++ le x 2 := by unfold smp; simp
theorem smp_len (xs : List Int) : (smp xs).length = xs.length * 2 := by
  induction xs with
  | nil => rfl
  | cons x xs ih =>
    have e : smp (x :: xs) = le x 2 ++ smp xs := by simp [smp]
    rw [e, List.length_append, ih, le_len, List.length_cons]; omega
/-- all bytes but the sum -/
def hdB (rate : Int) (xs : List Int) : List Int := [69, 65, 82, 49] ++ le rate 4 ++ le xs.length 4 ++ smp xs
theorem hdB_len (rate : Int) (xs : List Int) : (hdB rate xs).length = 12 + xs.length * 2 := by
  unfold hdB
  rw [List.length_append, List.length_append, List.length_append, le_len, le_len, smp_len]; rfl
def pkB (rate : Int) (xs : List Int) : List Int := hdB rate xs ++ le (ck (hdB rate xs)) 4
theorem pkB_len (rate : Int) (xs : List Int) : (pkB rate xs).length = 16 + xs.length * 2 := by
  unfold pkB
  rw [List.length_append, hdB_len, le_len]; omega
theorem le_by (x : Int) (k : Nat) : byB (le x k) := by
  intro b hb
  simp only [le, tab, List.mem_map] at hb
  obtain ⟨i, _, rfl⟩ := hb
  exact byt_bd x i
theorem byB_app {xs ys : List Int} (h : byB xs) (k : byB ys) : byB (xs ++ ys) := fun b hb => (List.mem_append.1 hb).elim (h b) (k b)
theorem smp_by (xs : List Int) : byB (smp xs) := by
  intro b hb
  simp only [smp, List.mem_flatMap] at hb
  obtain ⟨x, _, hb⟩ := hb
  exact le_by x 2 b hb
theorem hdB_by (rate : Int) (xs : List Int) : byB (hdB rate xs) := by
  unfold hdB
  refine byB_app (byB_app (byB_app ?_ (le_by _ _)) (le_by _ _)) (smp_by _)
  intro b hb
  simp at hb
  omega

theorem Blk.under {w w' : World} {g B : Nat} {t : TypeId} {cs : Array Value} (h : Blk w g t cs) (hb : Below B w w') (hlt : g < B) : Blk w' g t cs := (hb.block g hlt).trans h
theorem write_at (x : Int) (size : Nat) (sz : Int) (hsz : sz = (size : Int)) (gb B B0 m : Nat) (V : Value) (bs : List Int) (w : World) (hx1 : -9223372036854775808 ≤ x) (hx2 : x ≤ 9223372036854775807) (hs0 : 0 < size) (hs : size ≤ 1000) (hm : m ≤ 1000000)
    (hB : Blk w gb 67 #[V]) (hown : OwnL w B 5 V m (ivs .u8 bs)) (h0 : B0 ≤ B) (h1 : B0 ≤ gb) (h2 : B ≤ w.heap.size) :
    Calls Tryz.prog 88 #[.int .i64 x, .int .i64 sz, .pointer (some ⟨gb, 0, none⟩)] w fun e w' => ∃ V', e = .returned (.tuple #[]) ∧ Blk w' gb 67 #[V'] ∧ w'.ownsRow B 5 1 V' (m + size) (ivs .u8 (bs ++ le x size)) ∧ Below B0 w w' := by
  subst hsz
  exact write_any x size gb B B0 m V bs w hx1 hx2 hs0 hs hm hB hown h0 h1 h2

theorem Pack_bad (rate : Int) (A : Option Addr) (n c : Nat) (xs : List Int) (w : World) (h : Sl .i64 w A n c xs) (k : Int) (hk : chkR rate xs = k) (h0 : (k == 0) = false) :
    Calls Tryz.prog 35 #[.agg #[.int .i64 rate, .slice A n c]] w fun e w' => e = .returned (.tuple #[.slice none 0 0, .int .i64 k]) ∧ Below w.heap.size w w' := by
  have hk := Lib.hid hk
  have hb1 := (Below.refl w.heap.size w).alloc (Nat.le_refl _) (.cells #[.int .i64 rate, .slice A n c] 30)
  have h1 := h.below hb1
  go_enter Tryz.func35, Tryz.ntmps35
  go_wp2_with fail
  refine (checkRecording_any _ _ _ _ _ _ h1).mono ?_
  rintro e w2 ⟨rfl, hb2⟩
  rw [hk.out]
  have hb12 := hb1.trans (hb2.mono hb1.size)
  go_wp2
  go_ret2
  exact ⟨rfl, hb12⟩

set_option maxHeartbeats 3200000 in
set_option maxRecDepth 100000 in
theorem Pack_ok (rate : Int) (A : Option Addr) (n c : Nat) (xs : List Int) (w : World) (h : Sl .i64 w A n c xs) (hk : chkR rate xs = 0) :
    Calls Tryz.prog 35 #[.agg #[.int .i64 rate, .slice A n c]] w fun e w' => ∃ V, e = .returned (.tuple #[V, .int .i64 0]) ∧ w'.ownsRow w.heap.size 5 1 V (16 + n * 2) (ivs .u8 (pkB rate xs)) ∧ Below w.heap.size w w' := by
  have hl := Lib.hid h.len
  have hcap := h.cap
  have htop := h.top
  have hr : chkR rate xs = 0 ∧ xs.length ≤ 200000 ∧ allB (-32768) 32767 xs = true ∧ 1 ≤ rate ∧ rate ≤ 192000 := by
    rcases chkR_cases rate xs with h | h | h
    · exact h
    · rw [hk] at h; cases h
    · rw [hk] at h; cases h
  obtain ⟨_, hn, hall, hr1, hr2⟩ := hr
  rw [hl.out] at hn
  have hk := Lib.hid hk
  have hall := Lib.hid hall
  have hB1 := Blk.new w 30 #[.int .i64 rate, .slice A n c]
  have hb1 := (Below.refl w.heap.size w).alloc (Nat.le_refl _) (.cells #[.int .i64 rate, .slice A n c] 30)
  have h1 := h.below hb1
  go_enter Tryz.func35, Tryz.ntmps35
  go_wp2_with fail
  generalize w.alloc (.cells #[.int .i64 rate, .slice A n c] 30) = w1 at *
  refine (checkRecording_any _ _ _ _ _ _ h1).mono ?_
  rintro e w2 ⟨rfl, hb2⟩
  rw [hk.out]
  have hb12 := hb1.trans (hb2.mono hb1.size)
  have hB2 := hB1.below hb2
  have hlt2 := hB2.lt
  have hsz2 := hb12.size
  have hcv := Go.Lib.run_convert_bytes_const (P := Tryz.prog) w2 67 5 #[.int .u8 69, .int .u8 65, .int .u8 82, .int .u8 49] 4 4 Tryz.underlying67 Tryz.underlying5
  have h2 := h1.below hb2
  generalize hwa : w2.alloc (.cells #[.int .u8 69, .int .u8 65, .int .u8 82, .int .u8 49] 5 (4, 5)) = wa at *
  have hba : Below w2.heap.size w2 wa := by rw [← hwa]; exact (Below.refl _ _).alloc (Nat.le_refl _) _
  have hsza : wa.heap.size = w2.heap.size + 1 := by rw [← hwa]; simp
  have hqa : wa.heap[w2.heap.size]? = some (.cells #[.int .u8 69, .int .u8 65, .int .u8 82, .int .u8 49] 5 (4, 5)) := by rw [← hwa]; exact heap_alloc_new w2 _
  have hOa : OwnL wa w2.heap.size 5 (.slice (some ⟨w2.heap.size, 0, none⟩) 4 4) 4 (ivs .u8 [69, 65, 82, 49]) := .inr ⟨w2.heap.size, _, _, rfl, Nat.le_refl _, hqa, rfl, rfl⟩
  clear hwa hqa
  have hO1 := hOa.alloc (.cells #[.slice (some ⟨w2.heap.size, 0, none⟩) 4 4] 67)
  have hG1 := Blk.new wa 67 #[.slice (some ⟨w2.heap.size, 0, none⟩) 4 4]
  have hb3 := hba.alloc hba.size (.cells #[.slice (some ⟨w2.heap.size, 0, none⟩) 4 4] 67)
  have hB3 := hB2.below hb3
  have h3 := h2.below hb3
  have r0 : (wa.alloc (.cells #[.slice (some ⟨w2.heap.size, 0, none⟩) 4 4] 67)).cell? ⟨w.heap.size, 0, none⟩ = some (.int .i64 rate) := hB3.cell 0
  have hsz3 := hb3.size
  rw [hsza] at hG1
  go_wp2_with fail
  clear r0
  refine (write_at rate 4 4 rfl _ w2.heap.size w2.heap.size 4 _ [69, 65, 82, 49] _ (by omega) (by omega) (by omega) (by omega) (by omega) hG1 hO1 (Nat.le_refl _) (by omega) hsz3).mono ?_
  rintro e w4 ⟨V4, rfl, hG4, hO4, hb4⟩
  have hb34 := hb3.trans hb4
  have hB4 := hB2.under hb34 hlt2
  have h4 := h.below (hb12.trans (hb34.mono hsz2))
  have r1 : w4.cell? ⟨w.heap.size, 1, none⟩ = some (.slice A n c) := hB4.cell 1
  have hsz4 := hb34.size
  clear hG1 hO1 hOa hba hb3 hB3 h3 hsz3 hcv
  go_wp2_with fail
  clear r1
  refine (write_at (n : Int) 4 4 rfl _ w2.heap.size w2.heap.size _ _ _ _ (by omega) (by omega) (by omega) (by omega) (by omega) hG4 (.inl hO4) (Nat.le_refl _) (by omega) hsz4).mono ?_
  rintro e w5 ⟨V5, rfl, hG5, hO5, hb5⟩
  have hb35 := hb34.trans hb5
  have hB5 := hB2.under hb35 hlt2
  have r1 : w5.cell? ⟨w.heap.size, 1, none⟩ = some (.slice A n c) := hB5.cell 1
  clear hG4 hO4 hb4 hB4 h4 hsz4
  obtain ⟨hd, hhd⟩ : ∃ hd, [69, 65, 82, 49] ++ le rate 4 ++ le (n : Int) 4 = hd := ⟨_, rfl⟩
  rw [hhd] at hO5
  have hO5' : w5.ownsRow w2.heap.size 5 1 V5 (12 + 2 * 0) (ivs .u8 (hd ++ smp (xs.take 0))) := by rw [show smp (xs.take 0) = [] from rfl, List.append_nil]; exact hO5
  have hhd' := Lib.hid hhd
  clear hhd hO5
  go_wp2
  go_loopw [29] (fun iv wr => ∃ (k : Nat) (V : Value), k ≤ n ∧ iv = .int .i64 k ∧ Blk wr (w2.heap.size + 1) 67 #[V] ∧ wr.ownsRow w2.heap.size 5 1 V (12 + 2 * k) (ivs .u8 (hd ++ smp (xs.take k))) ∧ Below w2.heap.size w2 wr) (fun iv _ => n - (intOf iv).toNat)
  case atStart => exact ⟨0, V5, Nat.zero_le _, rfl, hG5, hO5', hb35⟩
  case round =>
    obtain ⟨k, V, hk, rfl, hG, hO, hb⟩ := hrel
    have hbel := hb12.trans (hb.mono hsz2)
    have hr := h.below hbel
    have hszr := hb.size
    rcases Nat.lt_or_ge k n with hlt | hge
    · obtain ⟨ad, x, rfl, hcx, hx⟩ := hr.at_ hlt
      have hxb := allB_get hall.out (by rw [hl.out]; exact hlt) hx.out
      have hx1 := hxb.1
      have hx2 := hxb.2
      have hnx := Lib.hid (show hd ++ smp (xs.take (k + 1)) = (hd ++ smp (xs.take k)) ++ le x 2 by rw [take_snocD (by rw [hl.out]; exact hlt) hx.out, smp_snoc, List.append_assoc])
      clear hxb
      go_wp2_with fail
      refine (write_at x 2 2 rfl _ w2.heap.size w2.heap.size _ _ _ _ (by omega) (by omega) (by omega) (by omega) (by omega) hG (.inl hO) (Nat.le_refl _) (by omega) hszr).mono ?_
      rintro e w6 ⟨V6, rfl, hG6, hO6, hb6⟩
      have hO7 : w6.ownsRow w2.heap.size 5 1 V6 (12 + 2 * (k + 1)) (ivs .u8 (hd ++ smp (xs.take (k + 1)))) := by rw [hnx.out]; exact hO6
      have hb7 := hb.trans hb6
      clear hO6 hb6 hG hO hb
      go_wp2
      go_roundw
      case rel => exact ⟨k + 1, V6, by omega, by go_num, hG6, hO7, hb7⟩
      case measure => simp [intOf]; omega
    · have hkn : k = n := by omega
      subst hkn
      have hfull := Lib.hid (show hd ++ smp (xs.take k) = hdB rate xs by rw [List.take_of_length_le (by rw [hl.out]; exact Nat.le_refl _), ← hhd'.out]; unfold hdB; rw [hl.out])
      rw [hfull.out] at hO
      obtain ⟨Ab, cb, rfl, hSb⟩ := Sl.of_own hO
      have hcb := hG.cell 0
      go_wp2_with fail
      refine (sumOf_any _ _ _ _ _ hSb (hdB_by rate xs)).mono ?_
      rintro e w6 ⟨rfl, rfl⟩
      have hck := ck_bd (hdB rate xs)
      have hck1 := hck.1
      have hck2 := hck.2
      have hpk := Lib.hid (show hdB rate xs ++ le (ck (hdB rate xs)) 4 = pkB rate xs from rfl)
      clear hck
      generalize ck (hdB rate xs) = ckv at *
      go_wp2_with fail
      clear hcb
      refine (write_at ckv 4 4 rfl _ w2.heap.size w2.heap.size _ _ _ _ (by omega) (by omega) (by omega) (by omega) (by omega) hG (.inl hO) (Nat.le_refl _) (by omega) hszr).mono ?_
      rintro e w7 ⟨V7, rfl, hG7, hO7, hb7⟩
      rw [hpk.out, show 12 + 2 * k + 4 = 16 + k * 2 by omega] at hO7
      have hbz := hbel.trans (hb7.mono hsz2)
      have hc7 := hG7.cell 0
      go_wp2
      go_ret2
      exact ⟨V7, rfl, own_mono hO7 hsz2, hbz⟩
end Go.Proofs.YtoljffghaklpdaaGreatDoor


/- The document's own bytes of a recording. -/
namespace Go.Proofs.YtoljffghaklpdaaGreatDoor
open Go.RowKit

theorem Valid_any (rate : Int) (A : Option Addr) (n c : Nat) (xs : List Int) (w : World) (h : Sl .i64 w A n c xs) :
    Calls Tryz.prog 49 #[.agg #[.int .i64 rate, .slice A n c]] w fun e w' => e = .returned (.bool (chkR rate xs == 0)) ∧ Below w.heap.size w w' := by
  have hb1 := (Below.refl w.heap.size w).alloc (Nat.le_refl _) (.cells #[.int .i64 rate, .slice A n c] 30)
  have h1 := h.below hb1
  go_enter Tryz.func49, Tryz.ntmps49
  go_wp2_with fail
  refine (checkRecording_any _ _ _ _ _ _ h1).mono ?_
  rintro e w2 ⟨rfl, hb2⟩
  go_wp2
  go_ret
  exact ⟨rfl, hb1.trans (hb2.mono hb1.size)⟩

/-- the sample as a number that is not negative -/
def pos (x : Int) : Int := if x < 0 then x + 65536 else x
theorem le_pos (x : Int) : le (pos x) 2 = le x 2 := by
  unfold pos
  split
  · exact le_neg x
  · rfl

end Go.Proofs.YtoljffghaklpdaaGreatDoor


/- Bytes: numbers read back. -/
namespace Go.Proofs.YtoljffghaklpdaaGreatDoor
open Go.RowKit

/-- the number of the first k bytes -/
def rd (bs : List Int) : Nat → Int
  | 0 => 0
  | k + 1 => rd bs k + bs.getD k 0 * 256 ^ k
theorem rd_bd {bs : List Int} (hb : byB bs) : ∀ k, k ≤ bs.length → 0 ≤ rd bs k ∧ rd bs k < 256 ^ k
  | 0, _ => ⟨Int.le_refl _, by show (0 : Int) < 1; decide⟩
  | k + 1, h => by
    have ih := rd_bd hb k (by omega)
    have hx := byB_get hb (j := k) (by omega) rfl
    have hp := pow256 k
    show 0 ≤ rd bs k + bs.getD k 0 * 256 ^ k ∧ rd bs k + bs.getD k 0 * 256 ^ k < 256 ^ (k + 1)
    generalize bs.getD k 0 = x at *
    have h1 : 0 ≤ x * 256 ^ k := Int.mul_nonneg hx.1 (by omega)
    have h2 : x * 256 ^ k ≤ 255 * 256 ^ k := Int.mul_le_mul_of_nonneg_right hx.2 (by omega)
    rw [Int.pow_succ]
    omega
/-- the bytes of a number read back -/
theorem byt_rd {bs : List Int} (hb : byB bs) {k i : Nat} (hk : k ≤ bs.length) (hi : i < k) : byt (rd bs k) i = bs.getD i 0 := by
  induction k with
  | zero => omega
  | succ k ih =>
    have hx := byB_get hb (j := k) (by omega) rfl
    have hr := rd_bd hb k (by omega)
    rcases Nat.lt_or_ge i k with h | h
    · rw [← ih (by omega) h]
      unfold byt
      show (rd bs k + bs.getD k 0 * 256 ^ k) / 256 ^ i % 256 = _
      obtain ⟨d, rfl⟩ : ∃ d, k = i + 1 + d := ⟨k - (i + 1), by omega⟩
      have hp := pow256 i
      rw [show (256 : Int) ^ (i + 1 + d) = 256 ^ i * (256 * 256 ^ d) by rw [Int.pow_add, Int.pow_add, Int.mul_assoc]; rfl, ← Int.mul_assoc, Int.mul_comm (bs.getD (i + 1 + d) 0), Int.mul_assoc, Int.add_mul_ediv_left _ _ (by omega)]
      rw [← Int.mul_assoc, Int.mul_comm _ 256, Int.mul_assoc, Int.add_mul_emod_self_left]
    · have : i = k := by omega
      subst this
      unfold byt
      show (rd bs i + bs.getD i 0 * 256 ^ i) / 256 ^ i % 256 = _
      have hp := pow256 i
      rw [Int.add_mul_ediv_right _ _ (by omega), Int.ediv_eq_zero_of_lt hr.1 hr.2, Int.zero_add]
      exact Int.emod_eq_of_lt hx.1 (by omega)
theorem le_rd {bs : List Int} (hb : byB bs) {k : Nat} (hk : k ≤ bs.length) : le (rd bs k) k = bs.take k := by
  apply List.ext_getElem
  · rw [le_len, List.length_take]; omega
  · intro i h1 h2
    rw [le_len] at h1
    have h3 := tab_getD (f := byt (rd bs k)) h1
    rw [getD_in (by rw [tab_len]; exact h1), byt_rd hb hk h1, getD_in (by omega)] at h3
    rw [List.getElem_take]
    exact h3
/-- a number of k bytes is read back from them -/
theorem rd_le {x : Int} {k : Nat} (h0 : 0 ≤ x) (h1 : x < 256 ^ k) {rest : List Int} : rd (le x k ++ rest) k = x := by
  have key : ∀ j, j ≤ k → rd (le x k ++ rest) j = x % 256 ^ j := by
    intro j
    induction j with
    | zero => intro _; show (0 : Int) = x % 1; omega
    | succ j ih =>
      intro hj
      show rd (le x k ++ rest) j + (le x k ++ rest).getD j 0 * 256 ^ j = _
      rw [ih (by omega)]
      have hg : (le x k ++ rest).getD j 0 = byt x j := by
        rw [← tab_getD (f := byt x) (show j < k by omega)]
        simp [List.getD_eq_getElem?_getD, List.getElem?_append, le, tab_len, show j < k by omega]
      rw [hg]
      unfold byt
      have hp := pow256 j
      rw [Int.pow_succ]
      have e1 := Int.mul_ediv_add_emod x (256 ^ j * 256)
      have e2 := Int.mul_ediv_add_emod x (256 ^ j)
      have e3 := Int.mul_ediv_add_emod (x / 256 ^ j) 256
      have e4 : x / 256 ^ j / 256 = x / (256 ^ j * 256) := by rw [← Int.pow_succ]; exact shift256 x j
      rw [e4] at e3
      generalize x / (256 ^ j * 256) = q at *
      generalize x / 256 ^ j = y at *
      generalize y % 256 = z at *
      rw [← e3] at e2
      have e5 : 256 ^ j * (256 * q + z) = 256 ^ j * 256 * q + z * 256 ^ j := by rw [Int.mul_add, ← Int.mul_assoc, Int.mul_comm _ z]
      rw [e5] at e2
      omega
  rw [key k (Nat.le_refl _)]
  exact Int.emod_eq_of_lt h0 h1
end Go.Proofs.YtoljffghaklpdaaGreatDoor


/- Bytes: numbers read back: the walks. -/
namespace Go.Proofs.YtoljffghaklpdaaGreatDoor
open Go.RowKit

theorem bits_or_i64_nat (a b : Nat) (ha : a < 9223372036854775808) (hb : b < 9223372036854775808) : bits .or .i64 (a : Int) (b : Int) = ((a ||| b : Nat) : Int) := by
  have hx : a ||| b < 2 ^ 63 := Nat.or_lt_two_pow (by omega) (by omega)
  have h1 : (BitVec.ofInt 64 (a : Int)).toNat = a := by
    rw [BitVec.ofInt_natCast, BitVec.toNat_ofNat]; exact Nat.mod_eq_of_lt (by omega)
  have h2 : (BitVec.ofInt 64 (b : Int)).toNat = b := by
    rw [BitVec.ofInt_natCast, BitVec.toNat_ofNat]; exact Nat.mod_eq_of_lt (by omega)
  show IntKind.i64.wrap ((BitVec.ofInt 64 (a : Int) ||| BitVec.ofInt 64 (b : Int)).toNat : Int) = _
  rw [BitVec.toNat_or, h1, h2, IntKind.wrap_i64]
  omega
theorem pow28 (k : Nat) : (2 : Nat) ^ (8 * k) = 256 ^ k := by rw [Nat.pow_mul]
theorem pow_le6 {k : Nat} (h : k ≤ 6) : 256 ^ k ≤ 281474976710656 := by
  have : (256 : Nat) ^ k ≤ 256 ^ 6 := Nat.pow_le_pow_right (by decide) h
  exact this
theorem or_step (s x : Int) (k : Nat) (hk : k ≤ 6) (h0 : 0 ≤ s) (h1 : s < 256 ^ k) (h2 : 0 ≤ x) (h3 : x ≤ 255) : bits .or .i64 s (wrap64 (x * 2 ^ (8 * k))) = s + x * 256 ^ k := by
  obtain ⟨a, rfl⟩ := Int.eq_ofNat_of_zero_le h0
  obtain ⟨b, rfl⟩ := Int.eq_ofNat_of_zero_le h2
  have hp := pow_le6 hk
  have e1 : ((256 : Int) ^ k) = ((256 ^ k : Nat) : Int) := by rw [Int.natCast_pow]; rfl
  have e2 : ((2 : Int) ^ (8 * k)) = ((256 ^ k : Nat) : Int) := by rw [← pow28, Int.natCast_pow]; rfl
  rw [e1] at h1 ⊢
  rw [e2, ← Int.natCast_mul, ← Int.natCast_add]
  have ha : a < 256 ^ k := by omega
  have hb : b * 256 ^ k ≤ 255 * 281474976710656 := Nat.mul_le_mul (by omega) hp
  have hw : wrap64 ((b * 256 ^ k : Nat) : Int) = ((b * 256 ^ k : Nat) : Int) := by unfold wrap64; omega
  rw [hw, bits_or_i64_nat _ _ (by omega) (by omega)]
  congr 1
  rw [← pow28] at ha ⊢
  have := Nat.shiftLeft_add_eq_or_of_lt ha b
  rw [Nat.shiftLeft_eq] at this
  rw [Nat.or_comm, ← this, Nat.add_comm]

set_option maxHeartbeats 1600000 in
set_option maxRecDepth 100000 in
theorem read_any (A : Option Addr) (n c : Nat) (bs : List Int) (size : Nat) (w : World) (h : Sl .u8 w A n c bs) (hb : byB bs) (hs : size ≤ n) (hs7 : size ≤ 7) :
    Calls Tryz.prog 91 #[.slice A n c, .int .i64 (size : Int)] w fun e w' => e = .returned (.int .i64 (rd bs size)) ∧ w = w' := by
  have hl := Lib.hid h.len
  have hcap := h.cap
  have htop := h.top
  have hb := Lib.hid hb
  have i0 : (size : Int) ≤ (c : Int) := by omega
  go_enter Tryz.func91, Tryz.ntmps91
  go_wp2
  go_loop [5, 12] (fun sv iv => ∃ k : Nat, k ≤ size ∧ iv = .int .i64 k ∧ sv = .int .i64 (rd bs k)) (fun _ iv => size - (intOf iv).toNat)
  case atStart => exact ⟨0, Nat.zero_le _, rfl, rfl⟩
  case round =>
    obtain ⟨k, hk, rfl, rfl⟩ := hrel
    rcases Nat.lt_or_ge k size with hlt | hge
    · obtain ⟨ad, x, rfl, hc, hx⟩ := h.at_ (show k < n by omega)
      have hxb := byB_get hb.out (by rw [hl.out]; omega) hx.out
      have hrb := rd_bd hb.out k (by rw [hl.out]; omega)
      have hnx := Lib.hid (show rd bs (k + 1) = rd bs k + x * 256 ^ k by rw [← hx.out]; rfl)
      have h1 := hxb.1
      have h2 := hxb.2
      have hrb' := Lib.hid hrb
      clear hxb hrb
      generalize rd bs k = s at *
      go_wp2
      go_round
      case rel => exact ⟨k + 1, by omega, by go_num, by rw [hnx.out, or_step _ _ _ (by omega) hrb'.out.1 hrb'.out.2 h1 h2]⟩
      case measure => simp [intOf]; omega
    · have hkn : k = size := by omega
      subst hkn
      go_wp2
      go_ret
      exact ⟨rfl, rfl⟩

/-- the number of bytes, from the first one on -/
def rdf : List Int → Int
  | [] => 0
  | x :: xs => 256 * rdf xs + x
theorem rdf_snoc (xs : List Int) (x : Int) : rdf (xs ++ [x]) = rdf xs + x * 256 ^ xs.length := by
  induction xs with
  | nil => show 256 * 0 + x = 0 + x * 1; omega
  | cons y xs ih =>
    show 256 * rdf (xs ++ [x]) + y = 256 * rdf xs + y + x * 256 ^ (xs.length + 1)
    rw [ih, Int.pow_succ, Int.mul_add, ← Int.mul_assoc x, Int.mul_comm 256 (x * 256 ^ xs.length)]
    omega
theorem rd_rdf {bs : List Int} : ∀ {k : Nat}, k ≤ bs.length → rd bs k = rdf (bs.take k)
  | 0, _ => by rw [List.take_zero]; rfl
  | k + 1, h => by
    rw [take_snocD (x := bs.getD k 0) (by omega) rfl, rdf_snoc, ← rd_rdf (k := k) (by omega), List.length_take, show min k bs.length = k by omega]
    rfl
theorem rdf_bd {bs : List Int} (hb : byB bs) : 0 ≤ rdf bs ∧ rdf bs < 256 ^ bs.length := by
  have h := rd_bd hb bs.length (Nat.le_refl _)
  rw [rd_rdf (Nat.le_refl _), List.take_length] at h
  exact h

end Go.Proofs.YtoljffghaklpdaaGreatDoor


/- The bytes of a recording: the law's walk. -/
namespace Go.Proofs.YtoljffghaklpdaaGreatDoor
open Go.RowKit

theorem conv_own {w : World} {B g n c : Nat} {bs : List Int} (h : w.ownsRow B 5 1 (.slice (some ⟨g, 0, none⟩) n c) n (ivs .u8 bs)) : (convert 67 9 (.slice (some ⟨g, 0, none⟩) n c)).run Tryz.prog w = .ok (.string (strOfNums bs)) w :=
  run_convert_bytes_arg (P := Tryz.prog) w 67 5 Tryz.underlying67 Tryz.underlying5 g 0 n c bs (by have := h.1; rw [ivs_len] at this; omega) (fun i hi => by
    have hl := h.1
    rw [ivs_len] at hl
    have := h.cells (g := g) rfl i (.int .u8 (bs.getD i 0)) (by
      rw [getD_in (show i < bs.length by omega)]
      simp [ivs, show i < bs.length by omega])
    rw [add_new] at this
    rw [Nat.zero_add]; exact this) 9 Tryz.underlying9

theorem RValid_all (rate : Int) (A : Option Addr) (n c : Nat) (xs : List Int) (w : World) (h : Sl .i64 w A n c xs) :
    Calls Tryz.prog 16 #[.agg #[.int .i64 rate, .slice A n c]] w fun e w' => e = .returned (.bool (chkR rate xs == 0)) ∧ Below w.heap.size w w' := by
  have hcap := h.cap
  have htop := h.top
  rcases Nat.lt_or_ge 200000 n with hn | hn
  · have hr : chkR rate xs = 5 := by unfold chkR chk; rw [if_pos (show 200000 < xs.length by rw [h.len]; exact hn)]; rfl
    have hv := Lib.hid (show (chkR rate xs == 0) = false by rw [hr]; rfl)
    clear hr
    have hb := (Below.refl w.heap.size w).alloc (Nat.le_refl _) (.cells #[.int .i64 rate, .slice A n c] 30)
    have d0 : decide ((n : Int) ≤ 200000) = false := decide_eq_false (by omega)
    by_cases h2 : 1 ≤ rate
    · by_cases h3 : rate ≤ 192000
      · go_enter Tryz.func16, Tryz.ntmps16
        go_wp2
        go_ret
        exact ⟨ret_bool hv.out.symm, hb⟩
      · have hd : decide (rate ≤ 192000) = false := decide_eq_false h3
        go_enter Tryz.func16, Tryz.ntmps16
        go_wp2
        go_ret
        exact ⟨ret_bool hv.out.symm, hb⟩
    · have hd : decide (1 ≤ rate) = false := decide_eq_false h2
      have hd2 : ¬ 0 < rate := by omega
      have hd3 : decide (0 < rate) = false := decide_eq_false hd2
      go_enter Tryz.func16, Tryz.ntmps16
      go_wp2
      go_ret
      exact ⟨ret_bool hv.out.symm, hb⟩
  · refine (RValid_any rate A n c xs w h hn).mono ?_
    rintro e w' ⟨rfl, hb⟩
    refine ⟨ret_bool ?_, hb⟩
    unfold chkR chk
    rw [if_neg (show ¬ 200000 < xs.length by rw [h.len]; omega)]
    cases allB (-32768) 32767 xs <;> cases okB 1 192000 rate <;> rfl

abbrev YesB (w : World) (e : Ending) (w' : World) : Prop := e = .returned (.bool true) ∧ Below w.heap.size w w'
/-- a conversion that is carried out where it stands -/
abbrev cvF (a b : TypeId) (x : Operand) : Op := Op.convert a b x
theorem bne_same (b : Bool) : (b != b) = false := by cases b <;> rfl

end Go.Proofs.YtoljffghaklpdaaGreatDoor
