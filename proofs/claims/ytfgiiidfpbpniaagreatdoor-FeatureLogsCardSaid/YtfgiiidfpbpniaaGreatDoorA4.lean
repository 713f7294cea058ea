import Derived.Test.YtfgiiidfpbpniaaGreatDoorA3
import Derived.Test.YtfgiiidfpbpniaaGreatDoorNum

namespace Go.Proofs.YtfgiiidfpbpniaaGreatDoor.Fr
open Go.RowKit Num

theorem even_any (A : Option Addr) (n c : Nat) (xs : List Nat) (w : World) (h : Dg .u32 w A n c xs) :
    Calls Tryz.prog 120 #[.slice A n c] w fun e w' => e = .returned (.bool (decide (vl (bs .u32) xs % 2 = 0))) ∧ w = w' := by
  have hm := Lib.hid (vl_mod (bs .u32) xs 2 rfl)
  by_cases h0 : 0 < n
  · obtain ⟨ad, x, rfl, hcx, hx⟩ := h.at_ h0
    have hcx : w.cell? ad = some (.int .u32 x) := hcx
    have hxb : x ≤ 4294967295 := Nat.le_of_lt_succ hx.out.2
    have hn0 : ((n : Int) == 0) = false := by rw [beq_eq_false_iff_ne]; omega
    by_cases h2 : x % 2 = 0
    · have ht : ((x : Int) % 2 == 0) = true := by rw [beq_iff_eq]; omega
      have hf := Lib.hid (show decide (vl (bs .u32) xs % 2 = 0) = true by rw [hm.out, hx.out.1]; simpa using h2)
      clear h2
      go_enter Tryz.func120, Tryz.ntmps120
      go_wp2
      go_ret
      exact ⟨ret_bool hf.out.symm, rfl⟩
    · have ht : ((x : Int) % 2 == 0) = false := by rw [beq_eq_false_iff_ne]; omega
      have hf := Lib.hid (show decide (vl (bs .u32) xs % 2 = 0) = false by rw [hm.out, hx.out.1]; simpa using h2)
      clear h2
      go_enter Tryz.func120, Tryz.ntmps120
      go_wp2
      go_ret
      exact ⟨ret_bool hf.out.symm, rfl⟩
  · obtain rfl : n = 0 := by omega
    have hf : Hid (decide (vl (bs .u32) xs % 2 = 0) = true) := by rw [List.eq_nil_of_length_eq_zero h.len]; rfl
    go_enter Tryz.func120, Tryz.ntmps120
    go_wp2
    go_ret
    exact ⟨ret_bool hf.out.symm, rfl⟩

theorem one_any (A : Option Addr) (n c : Nat) (xs : List Nat) (w : World) (h : Dg .u32 w A n c xs) (hn : Nrm xs) :
    Calls Tryz.prog 98 #[.slice A n c] w fun e w' => e = .returned (.bool (decide (vl (bs .u32) xs = 1))) ∧ w = w' := by
  by_cases h0 : n = 1
  · subst h0
    obtain ⟨ad, x, rfl, hcx, hx⟩ := h.at_ (j := 0) (by omega)
    have hcx : w.cell? ad = some (.int .u32 x) := hcx
    have hv := nrm_one hn h.ok h.len hx.out.1
    by_cases h2 : x = 1
    · have ht : ((x : Int) == 1) = true := by rw [beq_iff_eq]; omega
      have hf := Lib.hid (show decide (vl (bs .u32) xs = 1) = true by rw [hv]; simpa using h2)
      clear h2 hv
      go_enter Tryz.func98, Tryz.ntmps98
      go_wp2
      go_ret
      exact ⟨ret_bool hf.out.symm, rfl⟩
    · have ht : ((x : Int) == 1) = false := by rw [beq_eq_false_iff_ne]; omega
      have hf := Lib.hid (show decide (vl (bs .u32) xs = 1) = false by rw [hv]; simpa using h2)
      clear h2 hv
      go_enter Tryz.func98, Tryz.ntmps98
      go_wp2
      go_ret
      exact ⟨ret_bool hf.out.symm, rfl⟩
  · have ht : ((n : Int) == 1) = false := by rw [beq_eq_false_iff_ne]; omega
    have hf : Hid (decide (vl (bs .u32) xs = 1) = false) := by
      simp only [decide_eq_false_iff_not]
      intro hv
      have := one_of one_lt_bs32 hn h.ok hv
      have hl := h.len
      rw [this] at hl
      exact h0 hl.symm
    clear h0
    go_enter Tryz.func98, Tryz.ntmps98
    go_wp2
    go_ret
    exact ⟨ret_bool hf.out.symm, rfl⟩

/-- the loop of 'half': the digits from place k on are halved -/
structure HalfRel (w : World) (n : Nat) (xs : List Nat) (cr i : Value) (wr : World) (k cy : Nat) (cur : List Nat) : Prop where
  i : i = .int .i64 ((k : Int) - 1)
  cr : cr = .int .u32 cy
  kb : k ≤ n
  cy : Hid (cy = vl (bs .u32) (xs.drop k) % 2)
  len : Hid (cur.length = n)
  ok : Okd (bs .u32) cur
  own : Mk wr w.heap.size 112 .u32 cur
  val : Hid (vl (bs .u32) (cur.drop k) = vl (bs .u32) (xs.drop k) / 2)
  bel : Below w.heap.size w wr

theorem halfRel_next {w wr : World} {n j cy x : Nat} {xs cur : List Nat} {E C : Int} (hxl : xs.length = n) (hj : j + 1 ≤ n) (hx : xs.getD j 0 = x) (hxb : x ≤ 4294967295)
    (hcy : cy = vl (bs .u32) (xs.drop (j + 1)) % 2) (hcl : cur.length = n) (hco : Okd (bs .u32) cur) (hown : Mk wr w.heap.size 112 .u32 cur)
    (hval : vl (bs .u32) (cur.drop (j + 1)) = vl (bs .u32) (xs.drop (j + 1)) / 2) (hbel : Below w.heap.size w wr) (hE : E = ((x / 2 + cy * 2147483648 : Nat) : Int)) (hC : C = ((x % 2 : Nat) : Int)) :
    ∃ k cy' cur', HalfRel w n xs (.int .u32 C) (.int .i64 ((j : Int) - 1)) (wr.setCell ⟨w.heap.size, j, none⟩ (.int .u32 E)) k cy' cur' := by
  subst hE hC
  have hd := vl_drop_pred (b := bs .u32) (by omega : j < xs.length) hx
  refine ⟨j, x % 2, cur.set j (x / 2 + cy * 2147483648), rfl, rfl, by omega, ?_, by simpa [Hid] using hcl, hco.set j ?_, hown.set_ j _, ?_, hbel.setCell (Nat.le_refl _) _⟩
  · show _ = _
    rw [hd]
    show _ = (x + 4294967296 * _) % 2
    omega
  · show _ < 4294967296
    omega
  · show _ = _
    rw [vl_drop_set (by omega), hval, hd]
    generalize vl (bs .u32) (xs.drop (j + 1)) = y at *
    show _ + 4294967296 * _ = (x + 4294967296 * _) / 2
    omega

set_option maxHeartbeats 800000 in
theorem half_any (A : Option Addr) (n c : Nat) (xs : List Nat) (w : World) (h : Dg .u32 w A n c xs) (hn : n ≤ 1000000) :
    Calls Tryz.prog 121 #[.slice A n c] w (RetN .u32 w (vl (bs .u32) xs / 2) n) := by
  have hmk := make_u32 n hn
  have hxl := Lib.hid h.len
  go_enter Tryz.func121, Tryz.ntmps121
  go_wp2
  go_loopw [4, 5] (fun cr i wr => ∃ k cy cur, HalfRel w n xs cr i wr k cy cur) (fun _ i _ => (intOf i + 1).toNat)
  case atStart =>
    have e : xs.drop n = [] := List.drop_eq_nil_of_le (by have := hxl.out; omega)
    exact ⟨n, 0, zs n, rfl, rfl, Nat.le_refl _, by rw [e]; rfl, zs_len n, zs_ok (by decide) n, Mk.new _ _ _ _, by rw [e, List.drop_eq_nil_of_le (by rw [zs_len]; omega)]; rfl, (Below.refl _ _).alloc (Nat.le_refl _) _⟩
  case round =>
    obtain ⟨k, cy, cur, hi, rfl, hkb, hcy, hcl, hco, hown, hval, hbel⟩ := hrel
    have hr := h.below hbel
    rcases idx_cases hi with ⟨rfl, rfl⟩ | ⟨j, rfl, rfl⟩
    · clear hi
      have hD := hown.dg hcl.out hn hco
      go_wp2_with fail
      refine (trim_any _ _ _ _ _ hD).mono ?_
      rintro e w' ⟨rfl, rfl⟩
      go_wp2
      go_ret
      exact RetN.tr hD hval.out (Nat.le_refl _) hbel
    · clear hi
      obtain ⟨ad, x, rfl, hcx, hcs, hx⟩ := h.at2 hbel (j := j) (by omega)
      have hcs := hcs w.heap.size j
      simp only [Nat.le_refl, forall_const] at hcs
      have hxb : x ≤ 4294967295 := Nat.le_of_lt_succ hx.out.2
      have hcy1 : cy ≤ 1 := by have := hcy.out; omega
      have hcc := hown.cell (i := j) (by rw [hcl.out]; omega)
      have hcf := hown.frozen j
      generalize cur.getD j 0 = y at hcc
      have hor := u32_half x cy hxb hcy1
      have han := u32_and_nat x 1 (by omega) (by omega)
      rw [nat_mask1] at han
      have R := halfRel_next (E := (x : Int) / 2 + (cy : Int) * 2147483648) hxl.out (by omega) hx.out.1 hxb hcy.out hcl.out hco hown hval.out hbel (by omega) han
      have han := Lib.hid han
      go_wp2
      go_roundw
      case rel => exact R
      case measure => simp [intOf]
end Go.Proofs.YtfgiiidfpbpniaaGreatDoor.Fr
