/- Numerals: strconv.FormatUint at base 10; the package variables that it and strings.Cut read. -/
import Derived.Test.YtbgihlfblmilmaaGreatDoorPD
import Derived.Test.YtbgihlfblmilmaaGreatDoorShelf
import Derived.Lib.ItoaMem
import Derived.Lib.AppendIntMem
import Derived.Lib.ItoaLen
import Derived.Shelf.Strconv.Itoa1
import Derived.Test.YtbgihlfblmilmaaGreatDoorNum
import Derived.Lib.ItoaNum
namespace Go.Proofs.YtbgihlfblmilmaaGreatDoor.Fr
open Go.RowKit Num Go.Sort

/-- the package variables of the library that are read: the powers of ten, and the greatest length that bytealg looks for -/
structure Gl (w : World) : Prop where
  p10 : ∀ i : Nat, i < 20 → w.cell? ⟨2, i, none⟩ = some (.int .u64 ((10 ^ i : Nat) : Int))
  ml : ∃ m, w.cell? ⟨3, 0, none⟩ = some (.int .i64 m)
theorem Gl.below {w w' : World} (h : Gl w) (hb : Below w.heap.size w w') : Gl w' :=
  ⟨fun i hi => (hb.cell (World.block_lt_of_cell? _ _ (h.p10 i hi))).trans (h.p10 i hi), by
    obtain ⟨m, hm⟩ := h.ml
    exact ⟨m, (hb.cell (World.block_lt_of_cell? _ _ hm)).trans hm⟩⟩
theorem Gl.alloc {w : World} (h : Gl w) (o : Obj) : Gl (w.alloc o) := h.below ((Below.refl _ _).alloc (Nat.le_refl _) o)

set_option maxHeartbeats 2000000 in
set_option maxRecDepth 100000 in
theorem log10Pow2_any (x : Nat) (h : x ≤ 64) (w : World) :
    Calls Tryz.prog 180 #[.int .i64 x] w fun e w' => e = .returned (.int .i64 (Lib.l10 x)) ∧ w = w' := by
  go_enter Tryz.func180, Tryz.ntmps180
  go_wp2
  go_ret
  refine ⟨?_, rfl⟩
  (congr 2) <;> (unfold Lib.l10; omega)
theorem bool2_any (b : Bool) (w : World) :
    Calls Tryz.prog 181 #[.bool b] w fun e w' => e = .returned (.int .i64 (if b then 1 else 0)) ∧ w = w' := by
  cases b <;> (
    go_enter Tryz.func181, Tryz.ntmps181
    go_wp2
    go_ret
    exact ⟨rfl, rfl⟩)

set_option maxHeartbeats 2000000 in
set_option maxRecDepth 100000 in
theorem small_any (i : Nat) (h : i < 100) (w : World) :
    Calls Tryz.prog 172 #[.int .i64 i] w fun e w' => e = .returned (.string ⟨(Lib.decDigits i).toArray⟩) ∧ w = w' := by
  go_enter Tryz.func172, Tryz.ntmps172
  go_name_bytes_deep 45 SM hSM
  have eSM : SM = Lib.smalls := by rw [← hSM]; decide +kernel
  subst eSM
  clear hSM
  go_name_bytes_deep 30 DG hDG
  have eDG : DG = Lib.digits36 := by rw [← hDG]; decide +kernel
  subst eDG
  clear hDG
  by_cases h10 : i < 10
  · have hsl : ∀ w, (Instr.slice 9 (.string Lib.digits36) (some (.int .i64 (i : Int))) (some (.int .i64 ((i : Int) + 1))) none).run Tryz.prog w = .ok (.string (Lib.digits36.extract i (i + 1))) w := fun w => by
      rw [run_slice_string w 9 Lib.digits36 .i64 .i64 _ _ Tryz.underlying9 (by omega) (by omega) (by rw [Lib.digits36_size]; omega), show ((i : Int)).toNat = i by omega, show ((i : Int) + 1).toNat = i + 1 by omega]
    go_wp2
    go_ret
    refine ⟨?_, rfl⟩
    show Ending.returned (Value.string (Lib.digits36.extract i (i + 1))) = _
    rw [AnyPlain.small_ba (Lib.digits36.extract i (i + 1)) (Lib.decDigits i) (by rw [Lib.extract_data]; exact Lib.digits36_piece h10)]
  · have hsl : ∀ w, (Instr.slice 9 (.string Lib.smalls) (some (.int .i64 ((i : Int) * 2))) (some (.int .i64 ((i : Int) * 2 + 2))) none).run Tryz.prog w = .ok (.string (Lib.smalls.extract (i * 2) (i * 2 + 2))) w := fun w => by
      rw [run_slice_string w 9 Lib.smalls .i64 .i64 _ _ Tryz.underlying9 (by omega) (by omega) (by rw [Lib.smalls_size]; omega), show ((i : Int) * 2).toNat = i * 2 by omega, show ((i : Int) * 2 + 2).toNat = i * 2 + 2 by omega]
    go_wp2
    go_ret
    refine ⟨?_, rfl⟩
    show Ending.returned (Value.string (Lib.smalls.extract (i * 2) (i * 2 + 2))) = _
    rw [AnyPlain.small_ba (Lib.smalls.extract (i * 2) (i * 2 + 2)) (Lib.decDigits i) (by rw [Lib.extract_data]; exact Lib.smalls_piece h10 h)]

set_option maxHeartbeats 2000000 in
set_option maxRecDepth 100000 in
theorem numDigits_any (u : Nat) (h1 : 1 ≤ u) (h2 : u < 18446744073709551616) (w : World) (hG : Gl w) :
    Calls Tryz.prog 173 #[.int .u64 u] w fun e w' => e = .returned (.int .i64 (Lib.nDigits u)) ∧ w = w' := by
  obtain ⟨hnd, h19⟩ := Lib.numDigits_eq u h1 h2
  have hL : Lib.bitLen u ≤ 64 := Lib.bitLen_le u 64 (Nat.le_refl _) h2
  have hcell := hG.p10 (Lib.l10 (Lib.bitLen u)) (by omega)
  have hto : ((u : Int)).toNat = u := by omega
  have hlen : ∀ w, Calls Tryz.prog 125 #[.int .u64 (u : Int)] w fun e w' => e = .returned (.int .i64 ((Lib.bitLen u : Nat) : Int)) ∧ w = w' := fun w =>
    (Tryz.bits_Len64 (u : Int) w (by omega) (by omega)).mono fun e w' ⟨he, hw⟩ => ⟨by rw [he, hto], hw.symm⟩
  have hlen := Lib.hid hlen
  have hl10 := Lib.hid (fun w => log10Pow2_any (Lib.bitLen u) hL w)
  generalize hq : Lib.l10 (Lib.bitLen u) = q at hnd h19 hcell hl10
  generalize Lib.bitLen u = bb at hlen hl10 hL hnd hq
  have Hq := Lib.hid hq
  generalize hT : 10 ^ q = T at hnd hcell
  have h20 : q < 20 := by omega
  have Hnd := Lib.hid hnd
  clear hnd hG hq
  go_enter Tryz.func173, Tryz.ntmps173
  go_wp2_with (first
    | (go_at_call 125; refine (hlen.out _).mono ?_; rintro e w' ⟨rfl, rfl⟩)
    | (go_at_call 180; refine (hl10.out _).mono ?_; rintro e w' ⟨rfl, rfl⟩)
    | (go_at_call 181; refine (bool2_any _ _).mono ?_; rintro e w' ⟨rfl, rfl⟩))
  all_goals go_ret
  all_goals (
    refine ⟨?_, rfl⟩
    have hnd := Hnd.out
    congr 2
    split at hnd <;> simp_all <;> omega)
end Go.Proofs.YtbgihlfblmilmaaGreatDoor.Fr

/- Numerals: strconv.FormatUint at base 10. -/
namespace Go.Proofs.YtbgihlfblmilmaaGreatDoor.Fr
open Go.RowKit Num Go.Sort

set_option maxHeartbeats 6400000 in
set_option maxRecDepth 100000 in
theorem formatUintIn_any (u : Nat) (hu64 : u < 18446744073709551616) (w : World) (hG : Gl w) :
    Calls Tryz.prog 156 #[.int .u64 u, .int .i64 10] w fun e w' => e = .returned (.string ⟨(Lib.decDigits u).toArray⟩) ∧ Below w.heap.size w w' := by
  by_cases hs : u < 100
  · have hd : decide ((u : Int) < 100) = true := decide_eq_true (by omega)
    have hw : IntKind.i64.wrap (u : Int) = (u : Int) := IntWalk.i64_in _ (by omega)
    go_enter Tryz.func156, Tryz.ntmps156
    go_wp2_with (go_at_call 172; refine (small_any u hs _).mono ?_; rintro e w' ⟨rfl, rfl⟩)
    go_ret
    exact ⟨rfl, Below.refl _ _⟩
  · have hu1 : 1 ≤ u := by omega
    have hd : decide ((u : Int) < 100) = false := decide_eq_false (by omega)
    have hnd20 : Lib.nDigits u ≤ 20 := Lib.nDigits_le20 u hu64
    have hal : Tryz.prog.arrayLen 157 = 24 := by kernel_rfl
    have hsl1 : ∀ W, (Instr.sliceAt 157 (.pointer (some ⟨w.heap.size, 0, none⟩)) none (some (.int .i64 (Lib.nDigits u : Int))) none).run Tryz.prog W = .ok (.slice (some ⟨w.heap.size, 0, none⟩) (Lib.nDigits u) 24) W := fun W => by
      rw [run_sliceAt_array_h W 157 ⟨w.heap.size, 0, none⟩ (by kernel_rfl) .i64 (Lib.nDigits u : Int) (by omega) (by rw [hal]; omega)]
      go_simp
    have hH0 := Lib.holds_zero0 w 157 (Lib.nDigits u) (by omega)
    have hfmt := Tryz.internal_strconv_formatBase10 w.heap.size 0 24 u (Array.replicate (Lib.nDigits u) 0) (w.alloc (.cells Lib.zeros24 157)) hH0 (by rw [Array.size_replicate]; exact Lib.lt_pow_nDigits u) hu64 (by rw [Array.size_replicate]; omega)
    rw [Array.size_replicate] at hfmt
    have hfmt := Lib.hid hfmt
    have HH0 := Lib.hid hH0
    have hGa := hG.alloc (.cells Lib.zeros24 157)
    clear hH0 hal hG
    go_enter Tryz.func156, Tryz.ntmps156
    go_wp2_with (first
      | (go_at_call 173; refine (numDigits_any u hu1 hu64 _ hGa).mono ?_; rintro e w' ⟨rfl, rfl⟩))
    go_at_call 174
    refine hfmt.out.mono ?_
    rintro e w' ⟨rfl, k, v', dk, rfl, hF⟩
    have hcv : (convert 129 9 (.slice (some ⟨w.heap.size, 0, none⟩) (Lib.nDigits u) 24)).run Tryz.prog ((putRow (fun (b : UInt8) => Value.int .u8 (b.toNat : Int)) (w.alloc (.cells Lib.zeros24 157)) w.heap.size 0 dk).drewN k) = .ok (.string ⟨(Lib.decDigits u).toArray⟩) ((putRow (fun (b : UInt8) => Value.int .u8 (b.toNat : Int)) (w.alloc (.cells Lib.zeros24 157)) w.heap.size 0 dk).drewN k) := by
      have h := run_convert_bytes_back (P := Tryz.prog) ((putRow (fun (b : UInt8) => Value.int .u8 (b.toNat : Int)) (w.alloc (.cells Lib.zeros24 157)) w.heap.size 0 dk).drewN k) 129 9 5 ⟨w.heap.size, 0, none⟩ 24 (Lib.decDigits u) Tryz.underlying129 Tryz.underlying5 Tryz.underlying9 (fun j hj => by
        rw [Lib.row_is_numeral hF j hj, Lib.add_plain, World.cell?_drewN]
        exact cell?_putRow (fun (b : UInt8) => Value.int .u8 (b.toNat : Int)) _ w.heap.size 0 _ dk HH0.out (by rw [hF.size, Array.size_replicate]) j (by rw [hF.size]; rw [Lib.decDigits_length] at hj; exact hj))
      rw [Lib.decDigits_length] at h
      exact h
    obtain ⟨os, eo⟩ := Lib.fin_at w (.cells Lib.zeros24 157) dk k 0
    have heo := Lib.hid eo
    clear eo
    go_wp2
    go_ret
    rw [heo.out]
    exact ⟨rfl, Lib.below_grow _ w (Nat.le_refl _) k os⟩
theorem formatUint_any (u : Nat) (hu64 : u < 18446744073709551616) (w : World) (hG : Gl w) :
    Calls Tryz.prog 132 #[.int .u64 u, .int .i64 10] w fun e w' => e = .returned (.string ⟨(Lib.decDigits u).toArray⟩) ∧ Below w.heap.size w w' := by
  go_enter Tryz.func132, Tryz.ntmps132
  go_wp2_with (go_at_call 156; refine (formatUintIn_any u hu64 _ hG).mono ?_; rintro e w' ⟨rfl, hb⟩)
  go_ret
  exact ⟨rfl, hb⟩
end Go.Proofs.YtbgihlfblmilmaaGreatDoor.Fr

/- Decimal digits: the mathematics of numerals. -/
namespace Go.Proofs.YtbgihlfblmilmaaGreatDoor.Fr
open Num

/-- the last k decimal digits of a number, with zeros in front -/
def pd : Nat → Nat → List UInt8
  | 0, _ => []
  | k + 1, c => pd k (c / 10) ++ [UInt8.ofNat (48 + c % 10)]
theorem pd_length : ∀ (k c : Nat), (pd k c).length = k
  | 0, _ => rfl
  | k + 1, c => by rw [pd, List.length_append, pd_length k]; rfl
theorem pd_zero : ∀ k : Nat, pd k 0 = List.replicate k 48
  | 0 => rfl
  | k + 1 => by rw [pd, Nat.zero_div, pd_zero k, List.replicate_succ']; rfl
/-- a numeral is that of the higher digits, then the k lower ones -/
theorem dec_pd (R : Nat) (hR : 0 < R) : ∀ (k c : Nat), c < 10 ^ k → Lib.decDigits (R * 10 ^ k + c) = Lib.decDigits R ++ pd k c
  | 0, c, hc => by
    have : c = 0 := by simpa using hc
    subst this
    simp [pd]
  | k + 1, c, hc => by
    have h1 : R * 10 ^ (k + 1) = 10 * (R * 10 ^ k) := by rw [Nat.pow_succ]; ac_rfl
    have h2 : 0 < R * 10 ^ k := Nat.mul_pos hR (Nat.pow_pos (by decide))
    rw [Lib.decDigits, dif_neg (by omega), show (R * 10 ^ (k + 1) + c) / 10 = R * 10 ^ k + c / 10 by omega, show (R * 10 ^ (k + 1) + c) % 10 = c % 10 by omega,
      dec_pd R hR k (c / 10) (by rw [Nat.pow_succ] at hc; omega), pd, List.append_assoc]
/-- padded with zeros -/
theorem pad_pd : ∀ (k c : Nat), c < 10 ^ (k + 1) → List.replicate (k + 1 - (Lib.decDigits c).length) 48 ++ Lib.decDigits c = pd (k + 1) c
  | k, c, hc => by
    by_cases h10 : c < 10
    · rw [Lib.decDigits, dif_pos h10]
      have hm : c % 10 = c := Nat.mod_eq_of_lt h10
      rw [pd, show c / 10 = 0 by omega, pd_zero, hm]
      simp
    · cases k with
      | zero => exact absurd (by simpa using hc) h10
      | succ k =>
        have ih := pad_pd k (c / 10) (by rw [Nat.pow_succ] at hc; omega)
        rw [pd, ← ih]
        rw [Lib.decDigits, dif_neg h10]
        have hl : k + 1 + 1 - (Lib.decDigits (c / 10) ++ [UInt8.ofNat (48 + c % 10)]).length = k + 1 - (Lib.decDigits (c / 10)).length := by
          rw [List.length_append, List.length_singleton]; omega
        rw [hl, List.append_assoc]
/-- the numeral of a number with digits in base 10 ^ 19: that of the first digit, then 19 places for each other one -/
theorem dec_chunks (k : Nat) : ∀ (r : List Nat) (t : Nat), 0 < t → (∀ c ∈ r, c < 10 ^ k) → Lib.decDigits (vl (10 ^ k) (r.reverse ++ [t])) = Lib.decDigits t ++ (r.map (pd k)).flatten
  | [], t, _, _ => by simp [vl]
  | c :: r, t, ht, h => by
    have h1 : vl (10 ^ k) ((c :: r).reverse ++ [t]) = vl (10 ^ k) (r.reverse ++ [t * 10 ^ k + c]) := by
      rw [List.reverse_cons, List.append_assoc, vl_append _ r.reverse ([c] ++ [t]), vl_append _ r.reverse [_]]
      congr 2
      show c + 10 ^ k * (t + 10 ^ k * 0) = t * 10 ^ k + c + 10 ^ k * 0
      rw [Nat.mul_zero, Nat.add_zero, Nat.add_zero, Nat.mul_comm (10 ^ k) t, Nat.add_comm]
    have hc : c < 10 ^ k := h c (by simp)
    have ht2 : 0 < t * 10 ^ k := Nat.mul_pos ht (Nat.pow_pos (by decide))
    rw [h1, dec_chunks k r (t * 10 ^ k + c) (by omega) (fun x hx => h x (by simp [hx])), dec_pd t ht k c hc, List.map_cons, List.flatten_cons, List.append_assoc]
theorem dec_len (u : Nat) : 0 < (Lib.decDigits u).length := by rw [Lib.decDigits_length]; exact Lib.nDigits_pos u
end Go.Proofs.YtbgihlfblmilmaaGreatDoor.Fr
