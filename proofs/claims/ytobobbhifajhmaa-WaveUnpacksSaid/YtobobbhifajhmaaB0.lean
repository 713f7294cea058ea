/- Bytes: numbers in bytes, the sum of bytes. -/
import Derived.Test.YtobobbhifajhmaaA1
import Derived.Test.YtobobbhifajhmaaC2
import Derived.IntWalk
import Derived.Test.YtobobbhifajhmaaF1
namespace Go.Proofs.Ytobobbhifajhmaa
open Go.RowKit

/-- byte i of a number -/
def byt (x : Int) (i : Nat) : Int := x / 256 ^ i % 256
/-- the first k bytes, the least significant one first -/
def le (x : Int) (k : Nat) : List Int := tab k (byt x)
theorem le_len (x : Int) (k : Nat) : (le x k).length = k := tab_len _ _
theorem le_succ (x : Int) (k : Nat) : le x (k + 1) = le x k ++ [byt x k] := tab_succ _ _
theorem pow256 (i : Nat) : (0 : Int) < 256 ^ i := Int.pow_pos (by decide)
theorem shift256 (x : Int) (i : Nat) : x / 256 ^ i / 256 = x / 256 ^ (i + 1) := by
  rw [Int.ediv_ediv, if_neg (fun h => by have := pow256 i; omega), Int.sub_zero, Int.pow_succ]
theorem byt_bd (x : Int) (i : Nat) : 0 ≤ byt x i ∧ byt x i ≤ 255 := by
  unfold byt
  have h1 := Int.emod_nonneg (x / 256 ^ i) (b := 256) (by decide)
  have h2 := Int.emod_lt_of_pos (x / 256 ^ i) (b := 256) (by decide)
  omega
theorem div_bd {x : Int} {i : Nat} (h1 : -9223372036854775808 ≤ x) (h2 : x ≤ 9223372036854775807) : -9223372036854775808 ≤ x / 256 ^ i ∧ x / 256 ^ i ≤ 9223372036854775807 := by
  have hp := pow256 i
  have hp1 : (1 : Int) ≤ 256 ^ i := by omega
  constructor
  · refine (Int.le_ediv_iff_mul_le hp).2 ?_
    have : -9223372036854775808 * (256 ^ i : Int) ≤ -9223372036854775808 * 1 := Int.mul_le_mul_of_nonpos_left (by decide) hp1
    omega
  · rcases Int.lt_or_le x 0 with h | h
    · have := Int.ediv_neg_of_neg_of_pos h hp
      omega
    · have := Int.ediv_le_self (256 ^ i : Int) h
      omega
/-- a negative number of two bytes -/
theorem le_neg (x : Int) : le (x + 65536) 2 = le x 2 := by
  refine tab_congr fun i hi => ?_
  unfold byt
  have : i = 0 ∨ i = 1 := by omega
  rcases this with rfl | rfl
  · show (x + 65536) / 1 % 256 = x / 1 % 256
    omega
  · show (x + 65536) / 256 % 256 = x / 256 % 256
    omega

/-- the sum of bytes -/
def ckS (c b : Int) : Int := (65599 * c + b + 1) % 4294967296
def ck (bs : List Int) : Int := bs.foldl ckS 1
theorem ck_snoc (bs : List Int) (b : Int) : ck (bs ++ [b]) = ckS (ck bs) b := by unfold ck; rw [List.foldl_append]; rfl
theorem ckS_bd (c b : Int) : 0 ≤ ckS c b ∧ ckS c b ≤ 4294967295 := by
  unfold ckS
  have h1 := Int.emod_nonneg (65599 * c + b + 1) (b := 4294967296) (by decide)
  have h2 := Int.emod_lt_of_pos (65599 * c + b + 1) (b := 4294967296) (by decide)
  omega
theorem ck_bd (bs : List Int) : 0 ≤ ck bs ∧ ck bs ≤ 4294967295 := by
  rcases List.eq_nil_or_concat bs with rfl | ⟨cs, b, rfl⟩
  · exact ⟨by decide, by decide⟩
  · rw [List.concat_eq_append, ck_snoc]; exact ckS_bd _ _
theorem ckS_form (s x : Int) : ((65599 * s + x) % 4294967296 + 1) % 4294967296 = ckS s x := by unfold ckS; omega
def byB (bs : List Int) : Prop := ∀ b ∈ bs, 0 ≤ b ∧ b ≤ 255
theorem byB_get {bs : List Int} (h : byB bs) {j : Nat} {x : Int} (hj : j < bs.length) (hx : bs.getD j 0 = x) : 0 ≤ x ∧ x ≤ 255 := by
  rw [getD_in hj] at hx
  exact h x (by rw [← hx]; exact List.getElem_mem hj)

set_option maxHeartbeats 1600000 in
theorem sumOf_any (A : Option Addr) (n c : Nat) (bs : List Int) (w : World) (h : Sl .u8 w A n c bs) (hb : byB bs) :
    Calls Try.prog 64 #[.slice A n c] w fun e w' => e = .returned (.int .u32 (ck bs)) ∧ w = w' := by
  have hl := Lib.hid h.len
  have hcap := h.cap
  have htop := h.top
  have hb := Lib.hid hb
  go_enter Try.func64, Try.ntmps64
  go_wp2
  go_loop [3, 8] (fun sv iv => ∃ k : Nat, k ≤ n ∧ iv = .int .i64 k ∧ sv = .int .u32 (ck (bs.take k))) (fun _ iv => n - (intOf iv).toNat)
  case atStart => exact ⟨0, Nat.zero_le _, rfl, rfl⟩
  case round =>
    obtain ⟨k, hk, rfl, rfl⟩ := hrel
    rcases Nat.lt_or_ge k n with hlt | hge
    · obtain ⟨ad, x, rfl, hc, hx⟩ := h.at_ hlt
      have hxb := byB_get hb.out (by rw [hl.out]; exact hlt) hx.out
      have hsb := ck_bd (bs.take k)
      have hnx := Lib.hid (show ck (bs.take (k + 1)) = ckS (ck (bs.take k)) x by rw [take_snocD (by rw [hl.out]; exact hlt) hx.out, ck_snoc])
      generalize ck (bs.take k) = s at *
      have h1 := hxb.1
      have h2 := hxb.2
      have h3 := hsb.1
      have h4 := hsb.2
      clear hxb hsb
      go_wp2
      go_round
      case rel => exact ⟨k + 1, by omega, by go_num, by rw [hnx.out, ckS_form]⟩
      case measure => simp [intOf]; omega
    · have hkn : k = n := by omega
      subst hkn
      go_wp2
      go_ret
      exact ⟨by rw [List.take_of_length_le (by rw [hl.out]; exact Nat.le_refl _)]; rfl, rfl⟩

set_option maxHeartbeats 1600000 in
theorem RSum_any (A : Option Addr) (n c : Nat) (bs : List Int) (w : World) (h : Sl .u8 w A n c bs) (hb : byB bs) :
    Calls Try.prog 66 #[.slice A n c] w fun e w' => e = .returned (.int .i64 (ck bs)) ∧ w = w' := by
  have hl := Lib.hid h.len
  have hcap := h.cap
  have htop := h.top
  have hb := Lib.hid hb
  go_enter Try.func66, Try.ntmps66
  go_wp2
  go_loop [3, 4] (fun sv iv => ∃ k : Nat, k ≤ n ∧ iv = .int .i64 k ∧ sv = .int .i64 (ck (bs.take k))) (fun _ iv => n - (intOf iv).toNat)
  case atStart => exact ⟨0, Nat.zero_le _, rfl, rfl⟩
  case round =>
    obtain ⟨k, hk, rfl, rfl⟩ := hrel
    rcases Nat.lt_or_ge k n with hlt | hge
    · obtain ⟨ad, x, rfl, hc, hx⟩ := h.at_ hlt
      have hxb := byB_get hb.out (by rw [hl.out]; exact hlt) hx.out
      have hsb := ck_bd (bs.take k)
      have hnx := Lib.hid (show ck (bs.take (k + 1)) = ckS (ck (bs.take k)) x by rw [take_snocD (by rw [hl.out]; exact hlt) hx.out, ck_snoc])
      generalize ck (bs.take k) = s at *
      have h1 := hxb.1
      have h2 := hxb.2
      have h3 := hsb.1
      have h4 := hsb.2
      have i1 : (k : Int) < (n : Int) := by omega
      clear hxb hsb
      go_wp2
      go_round
      case rel => exact ⟨k + 1, by omega, by go_num, by rw [hnx.out]; rfl⟩
      case measure => simp [intOf]; omega
    · have hkn : k = n := by omega
      subst hkn
      go_wp2
      go_ret
      exact ⟨by rw [List.take_of_length_le (by rw [hl.out]; exact Nat.le_refl _)]; rfl, rfl⟩

theorem info_byte : (Try.prog.info? 5).map (fun i => (i.zero, i.size, i.bytes)) = some (some (.int .u8 0), 1, 1) := by kernel_rfl
theorem oneCell1b (y : Int) : ∀ u ∈ ([.int .u8 y] : List Value), u.oneCell' = true := by
  intro u hu
  simp at hu
  subst hu
  rfl
theorem byt_rem {x : Int} (h : 0 ≤ x) : IntKind.u8.wrap (x.tmod 256) = x % 256 := by
  rw [Int.tmod_eq_emod_of_nonneg h]
  have h1 := Int.emod_nonneg x (b := 256) (by decide)
  have h2 := Int.emod_lt_of_pos x (b := 256) (by decide)
  exact IntWalk.u8_in _ (by omega)

set_option maxHeartbeats 1600000 in
set_option maxRecDepth 100000 in
theorem Rput_any (x : Int) (size : Nat) (w : World) (hx1 : 0 ≤ x) (hx2 : x ≤ 9223372036854775807) (hs : size ≤ 1000) :
    Calls Try.prog 65 #[.int .i64 x, .int .i64 (size : Int)] w fun e w' => ∃ V, e = .returned V ∧ w'.ownsRow w.heap.size 5 1 V size (ivs .u8 (le x size)) ∧ Below w.heap.size w w' := by
  obtain ⟨i0, hi, hz0, hz1, hz2⟩ := info_parts info_byte
  go_enter Try.func65, Try.ntmps65
  go_wp2
  go_loopw [0, 5, 6] (fun nv ov iv wr => ∃ (k : Nat) (V : Value), k ≤ size ∧ iv = .int .i64 k ∧ nv = .int .i64 (x / 256 ^ k) ∧ V = ov ∧ wr.ownsRow w.heap.size 5 1 V k (ivs .u8 (le x k)) ∧ Below w.heap.size w wr) (fun _ _ iv _ => size - (intOf iv).toNat)
  case atStart => exact ⟨0, _, Nat.zero_le _, rfl, by rw [Int.pow_zero, Int.ediv_one], rfl, World.ownsRow_nil _ _ _ _, Below.refl _ _⟩
  case round =>
    obtain ⟨k, V, hk, rfl, rfl, rfl, hown, hbel⟩ := hrel
    rcases Nat.lt_or_ge k size with hlt | hge
    · have h0 : 0 ≤ x / 256 ^ k := Int.ediv_nonneg hx1 (Int.le_of_lt (pow256 k))
      have h1 := (div_bd (i := k) (x := x) (by omega) hx2).2
      have hnx := Lib.hid (shift256 x k)
      have hb := Lib.hid (show x / 256 ^ k % 256 = byt x k from rfl)
      have hsz := hbel.size
      have hrow := Lib.hid (fun k (hk : V.ownBlock = some k) => (hown.lt k hk).1)
      generalize x / 256 ^ k = y at *
      have em := byt_rem h0
      go_wp2_with (at_builtin; refine wpList_append_lies _ rfl (.tmp 12) (.tmp 16) 27 rfl w.heap.size 5 i0 (.int .u8 0) 1 1 Try.underlying27 hi hz0 hz1 hz2 rfl (by decide) V k (ivs .u8 (le x k)) rfl (hown.alloc _) ⟨wr.heap.size, 0, none⟩ 1 1 [.int .u8 (y % 256)] rfl rfl (news_one _ _ _) (oneCell1b _) (by omega) (by unfold maxLen; omega) (by omega) (by simp; omega) _ rfl ?_)
      intro g cap w5 hown5 hgrow hat hlt5
      have hb5 : Below w.heap.size w w5 := (hbel.alloc hsz _).grown hgrow (by simp; omega) hrow.out
      rw [hb.out] at hown5
      have hown6 : w5.ownsRow w.heap.size 5 1 (.slice (some ⟨g, 0, none⟩) (k + 1) cap) (k + 1) (ivs .u8 (le x (k + 1))) := by rw [le_succ, ivs_snoc]; exact hown5
      clear hown5
      go_wp2
      go_roundw
      case rel => exact ⟨k + 1, _, by omega, by go_num, by rw [← hnx.out], rfl, hown6, hb5⟩
      case measure => simp [intOf]; omega
    · have hkn : k = size := by omega
      subst hkn
      go_wp2
      go_ret
      exact ⟨V, rfl, hown, hbel⟩
end Go.Proofs.Ytobobbhifajhmaa
