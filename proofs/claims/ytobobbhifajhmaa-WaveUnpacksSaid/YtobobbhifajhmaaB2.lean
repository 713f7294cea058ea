/- The bytes of a recording: Pack. -/
import Derived.Test.YtobobbhifajhmaaB1
import Derived.Test.YtobobbhifajhmaaV7
namespace Go.Proofs.Ytobobbhifajhmaa
open Go.RowKit

theorem own_blk {w : World} {g n : Nat} {t : TypeId} {k : IntKind} {xs : List Int} (hB : Blk w g t (ivs k xs).toArray) (hn : xs.length = n) (hm : n ≤ 9223372036854775807) : w.ownsRow g t 1 (.slice (some ⟨g, 0, none⟩) n n) n (ivs k xs) := by
  refine ⟨by rw [ivs_len, hn, Nat.mul_one], .inr ⟨g, n, (ivs k xs).toArray, rfl, Nat.le_refl _, hB, Nat.le_refl _, by simpa [maxLen] using hm, by simp [ivs, hn], ?_⟩⟩
  rw [Nat.mul_one, List.take_of_length_le (by rw [ivs_len, hn]; exact Nat.le_refl _)]

/-- the bytes of samples -/
def smp (xs : List Int) : List Int := xs.flatMap fun x => le x 2
theorem smp_snoc (xs : List Int) (x : Int) : smp (xs ++ [x]) = smp xs ++ le x 2 := by unfold smp; simp
theorem smp_len (xs : List Int) : (smp xs).length = xs.length * 2 := by
  induction xs with
  | nil => rfl
  | cons x xs ih =>
    have e : smp (x :: xs) = le x 2 ++ smp xs := by simp [smp]
    rw [e, List.length_append, ih, le_len, List.length_cons]; omega
/-- all bytes but the sum -/
def hdB (rate : Int) (xs : List Int) : List Int := [69, 65, 82, 49] ++ le rate 4 ++ le xs.length 4 ++ smp xs
theorem hdB_len (rate : Int) (xs : List Int) : (hdB rate xs).length = 12 + xs.length * 2 := by
  unfold hdB
  rw [List.length_append, List.length_append, List.length_append, le_len, le_len, smp_len]; rfl
def pkB (rate : Int) (xs : List Int) : List Int := hdB rate xs ++ le (ck (hdB rate xs)) 4
theorem pkB_len (rate : Int) (xs : List Int) : (pkB rate xs).length = 16 + xs.length * 2 := by
  unfold pkB
  rw [List.length_append, hdB_len, le_len]; omega
theorem le_by (x : Int) (k : Nat) : byB (le x k) := by
  intro b hb
  simp only [le, tab, List.mem_map] at hb
  obtain ⟨i, _, rfl⟩ := hb
  exact byt_bd x i
theorem byB_app {xs ys : List Int} (h : byB xs) (k : byB ys) : byB (xs ++ ys) := fun b hb => (List.mem_append.1 hb).elim (h b) (k b)
theorem smp_by (xs : List Int) : byB (smp xs) := by
  intro b hb
  simp only [smp, List.mem_flatMap] at hb
  obtain ⟨x, _, hb⟩ := hb
  exact le_by x 2 b hb
theorem hdB_by (rate : Int) (xs : List Int) : byB (hdB rate xs) := by
  unfold hdB
  refine byB_app (byB_app (byB_app ?_ (le_by _ _)) (le_by _ _)) (smp_by _)
  intro b hb
  simp at hb
  omega

theorem Blk.under {w w' : World} {g B : Nat} {t : TypeId} {cs : Array Value} (h : Blk w g t cs) (hb : Below B w w') (hlt : g < B) : Blk w' g t cs := (hb.block g hlt).trans h
theorem write_at (x : Int) (size : Nat) (sz : Int) (hsz : sz = (size : Int)) (gb B B0 m : Nat) (V : Value) (bs : List Int) (w : World) (hx1 : -9223372036854775808 ≤ x) (hx2 : x ≤ 9223372036854775807) (hs0 : 0 < size) (hs : size ≤ 1000) (hm : m ≤ 1000000)
    (hB : Blk w gb 27 #[V]) (hown : OwnL w B 5 V m (ivs .u8 bs)) (h0 : B0 ≤ B) (h1 : B0 ≤ gb) (h2 : B ≤ w.heap.size) :
    Calls Try.prog 63 #[.int .i64 x, .int .i64 sz, .pointer (some ⟨gb, 0, none⟩)] w fun e w' => ∃ V', e = .returned (.tuple #[]) ∧ Blk w' gb 27 #[V'] ∧ w'.ownsRow B 5 1 V' (m + size) (ivs .u8 (bs ++ le x size)) ∧ Below B0 w w' := by
  subst hsz
  exact write_any x size gb B B0 m V bs w hx1 hx2 hs0 hs hm hB hown h0 h1 h2

theorem Pack_bad (rate : Int) (A : Option Addr) (n c : Nat) (xs : List Int) (w : World) (h : Sl .i64 w A n c xs) (k : Int) (hk : chkR rate xs = k) (h0 : (k == 0) = false) :
    Calls Try.prog 23 #[.agg #[.int .i64 rate, .slice A n c]] w fun e w' => e = .returned (.tuple #[.slice none 0 0, .int .i64 k]) ∧ Below w.heap.size w w' := by
  have hk := Lib.hid hk
  have hb1 := (Below.refl w.heap.size w).alloc (Nat.le_refl _) (.cells #[.int .i64 rate, .slice A n c] 24)
  have h1 := h.below hb1
  go_enter Try.func23, Try.ntmps23
  go_wp2_with fail
  refine (checkRecording_any _ _ _ _ _ _ h1).mono ?_
  rintro e w2 ⟨rfl, hb2⟩
  rw [hk.out]
  have hb12 := hb1.trans (hb2.mono hb1.size)
  go_wp2
  go_ret2
  exact ⟨rfl, hb12⟩

set_option maxHeartbeats 3200000 in
set_option maxRecDepth 100000 in
theorem Pack_ok (rate : Int) (A : Option Addr) (n c : Nat) (xs : List Int) (w : World) (h : Sl .i64 w A n c xs) (hk : chkR rate xs = 0) :
    Calls Try.prog 23 #[.agg #[.int .i64 rate, .slice A n c]] w fun e w' => ∃ V, e = .returned (.tuple #[V, .int .i64 0]) ∧ w'.ownsRow w.heap.size 5 1 V (16 + n * 2) (ivs .u8 (pkB rate xs)) ∧ Below w.heap.size w w' := by
  have hl := Lib.hid h.len
  have hcap := h.cap
  have htop := h.top
  have hr : chkR rate xs = 0 ∧ xs.length ≤ 200000 ∧ allB (-32768) 32767 xs = true ∧ 1 ≤ rate ∧ rate ≤ 192000 := by
    rcases chkR_cases rate xs with h | h | h
    · exact h
    · rw [hk] at h; cases h
    · rw [hk] at h; cases h
  obtain ⟨_, hn, hall, hr1, hr2⟩ := hr
  rw [hl.out] at hn
  have hk := Lib.hid hk
  have hall := Lib.hid hall
  have hB1 := Blk.new w 24 #[.int .i64 rate, .slice A n c]
  have hb1 := (Below.refl w.heap.size w).alloc (Nat.le_refl _) (.cells #[.int .i64 rate, .slice A n c] 24)
  have h1 := h.below hb1
  go_enter Try.func23, Try.ntmps23
  go_wp2_with fail
  generalize w.alloc (.cells #[.int .i64 rate, .slice A n c] 24) = w1 at *
  refine (checkRecording_any _ _ _ _ _ _ h1).mono ?_
  rintro e w2 ⟨rfl, hb2⟩
  rw [hk.out]
  have hb12 := hb1.trans (hb2.mono hb1.size)
  have hB2 := hB1.below hb2
  have hlt2 := hB2.lt
  have hsz2 := hb12.size
  have hcv := Go.Lib.run_convert_bytes_const (P := Try.prog) w2 27 5 #[.int .u8 69, .int .u8 65, .int .u8 82, .int .u8 49] 4 4 Try.underlying27 Try.underlying5
  have h2 := h1.below hb2
  generalize hwa : w2.alloc (.cells #[.int .u8 69, .int .u8 65, .int .u8 82, .int .u8 49] 5 (4, 5)) = wa at *
  have hba : Below w2.heap.size w2 wa := by rw [← hwa]; exact (Below.refl _ _).alloc (Nat.le_refl _) _
  have hsza : wa.heap.size = w2.heap.size + 1 := by rw [← hwa]; simp
  have hqa : wa.heap[w2.heap.size]? = some (.cells #[.int .u8 69, .int .u8 65, .int .u8 82, .int .u8 49] 5 (4, 5)) := by rw [← hwa]; exact heap_alloc_new w2 _
  have hOa : OwnL wa w2.heap.size 5 (.slice (some ⟨w2.heap.size, 0, none⟩) 4 4) 4 (ivs .u8 [69, 65, 82, 49]) := .inr ⟨w2.heap.size, _, _, rfl, Nat.le_refl _, hqa, rfl, rfl⟩
  clear hwa hqa
  have hO1 := hOa.alloc (.cells #[.slice (some ⟨w2.heap.size, 0, none⟩) 4 4] 27)
  have hG1 := Blk.new wa 27 #[.slice (some ⟨w2.heap.size, 0, none⟩) 4 4]
  have hb3 := hba.alloc hba.size (.cells #[.slice (some ⟨w2.heap.size, 0, none⟩) 4 4] 27)
  have hB3 := hB2.below hb3
  have h3 := h2.below hb3
  have r0 : (wa.alloc (.cells #[.slice (some ⟨w2.heap.size, 0, none⟩) 4 4] 27)).cell? ⟨w.heap.size, 0, none⟩ = some (.int .i64 rate) := hB3.cell 0
  have hsz3 := hb3.size
  rw [hsza] at hG1
  go_wp2_with fail
  clear r0
  refine (write_at rate 4 4 rfl _ w2.heap.size w2.heap.size 4 _ [69, 65, 82, 49] _ (by omega) (by omega) (by omega) (by omega) (by omega) hG1 hO1 (Nat.le_refl _) (by omega) hsz3).mono ?_
  rintro e w4 ⟨V4, rfl, hG4, hO4, hb4⟩
  have hb34 := hb3.trans hb4
  have hB4 := hB2.under hb34 hlt2
  have h4 := h.below (hb12.trans (hb34.mono hsz2))
  have r1 : w4.cell? ⟨w.heap.size, 1, none⟩ = some (.slice A n c) := hB4.cell 1
  have hsz4 := hb34.size
  clear hG1 hO1 hOa hba hb3 hB3 h3 hsz3 hcv
  go_wp2_with fail
  clear r1
  refine (write_at (n : Int) 4 4 rfl _ w2.heap.size w2.heap.size _ _ _ _ (by omega) (by omega) (by omega) (by omega) (by omega) hG4 (.inl hO4) (Nat.le_refl _) (by omega) hsz4).mono ?_
  rintro e w5 ⟨V5, rfl, hG5, hO5, hb5⟩
  have hb35 := hb34.trans hb5
  have hB5 := hB2.under hb35 hlt2
  have r1 : w5.cell? ⟨w.heap.size, 1, none⟩ = some (.slice A n c) := hB5.cell 1
  clear hG4 hO4 hb4 hB4 h4 hsz4
  obtain ⟨hd, hhd⟩ : ∃ hd, [69, 65, 82, 49] ++ le rate 4 ++ le (n : Int) 4 = hd := ⟨_, rfl⟩
  rw [hhd] at hO5
  have hO5' : w5.ownsRow w2.heap.size 5 1 V5 (12 + 2 * 0) (ivs .u8 (hd ++ smp (xs.take 0))) := by rw [show smp (xs.take 0) = [] from rfl, List.append_nil]; exact hO5
  have hhd' := Lib.hid hhd
  clear hhd hO5
  go_wp2
  go_loopw [29] (fun iv wr => ∃ (k : Nat) (V : Value), k ≤ n ∧ iv = .int .i64 k ∧ Blk wr (w2.heap.size + 1) 27 #[V] ∧ wr.ownsRow w2.heap.size 5 1 V (12 + 2 * k) (ivs .u8 (hd ++ smp (xs.take k))) ∧ Below w2.heap.size w2 wr) (fun iv _ => n - (intOf iv).toNat)
  case atStart => exact ⟨0, V5, Nat.zero_le _, rfl, hG5, hO5', hb35⟩
  case round =>
    obtain ⟨k, V, hk, rfl, hG, hO, hb⟩ := hrel
    have hbel := hb12.trans (hb.mono hsz2)
    have hr := h.below hbel
    have hszr := hb.size
    rcases Nat.lt_or_ge k n with hlt | hge
    · obtain ⟨ad, x, rfl, hcx, hx⟩ := hr.at_ hlt
      have hxb := allB_get hall.out (by rw [hl.out]; exact hlt) hx.out
      have hx1 := hxb.1
      have hx2 := hxb.2
      have hnx := Lib.hid (show hd ++ smp (xs.take (k + 1)) = (hd ++ smp (xs.take k)) ++ le x 2 by rw [take_snocD (by rw [hl.out]; exact hlt) hx.out, smp_snoc, List.append_assoc])
      clear hxb
      go_wp2_with fail
      refine (write_at x 2 2 rfl _ w2.heap.size w2.heap.size _ _ _ _ (by omega) (by omega) (by omega) (by omega) (by omega) hG (.inl hO) (Nat.le_refl _) (by omega) hszr).mono ?_
      rintro e w6 ⟨V6, rfl, hG6, hO6, hb6⟩
      have hO7 : w6.ownsRow w2.heap.size 5 1 V6 (12 + 2 * (k + 1)) (ivs .u8 (hd ++ smp (xs.take (k + 1)))) := by rw [hnx.out]; exact hO6
      have hb7 := hb.trans hb6
      clear hO6 hb6 hG hO hb
      go_wp2
      go_roundw
      case rel => exact ⟨k + 1, V6, by omega, by go_num, hG6, hO7, hb7⟩
      case measure => simp [intOf]; omega
    · have hkn : k = n := by omega
      subst hkn
      have hfull := Lib.hid (show hd ++ smp (xs.take k) = hdB rate xs by rw [List.take_of_length_le (by rw [hl.out]; exact Nat.le_refl _), ← hhd'.out]; unfold hdB; rw [hl.out])
      rw [hfull.out] at hO
      obtain ⟨Ab, cb, rfl, hSb⟩ := Sl.of_own hO
      have hcb := hG.cell 0
      go_wp2_with fail
      refine (sumOf_any _ _ _ _ _ hSb (hdB_by rate xs)).mono ?_
      rintro e w6 ⟨rfl, rfl⟩
      have hck := ck_bd (hdB rate xs)
      have hck1 := hck.1
      have hck2 := hck.2
      have hpk := Lib.hid (show hdB rate xs ++ le (ck (hdB rate xs)) 4 = pkB rate xs from rfl)
      clear hck
      generalize ck (hdB rate xs) = ckv at *
      go_wp2_with fail
      clear hcb
      refine (write_at ckv 4 4 rfl _ w2.heap.size w2.heap.size _ _ _ _ (by omega) (by omega) (by omega) (by omega) (by omega) hG (.inl hO) (Nat.le_refl _) (by omega) hszr).mono ?_
      rintro e w7 ⟨V7, rfl, hG7, hO7, hb7⟩
      rw [hpk.out, show 12 + 2 * k + 4 = 16 + k * 2 by omega] at hO7
      have hbz := hbel.trans (hb7.mono hsz2)
      have hc7 := hG7.cell 0
      go_wp2
      go_ret2
      exact ⟨V7, rfl, own_mono hO7 hsz2, hbz⟩
end Go.Proofs.Ytobobbhifajhmaa
