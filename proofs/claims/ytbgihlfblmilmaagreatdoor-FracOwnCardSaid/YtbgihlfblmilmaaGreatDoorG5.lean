/- Shifts, and math/bits.LeadingZeros64. -/
import Derived.Test.YtbgihlfblmilmaaGreatDoorG3
import Derived.Test.YtbgihlfblmilmaaGreatDoorQ4
namespace Go.Proofs.YtbgihlfblmilmaaGreatDoor.Fr
open Go.RowKit Num

/-- so many places a digit can be shifted -/
theorem leading_any (x : Nat) (hx : 0 < x) (hb : x ≤ 18446744073709551615) (w : World) :
    Calls Tryz.prog 142 #[.int .u64 (x : Int)] w fun e w' => ∃ s : Nat, e = .returned (.int .i64 (s : Int)) ∧ s < 64 ∧ Hid (bl x + s = 64) ∧ w = w' :=
  (Tryz.bits_LeadingZeros64 (x : Int) w (by omega) (by omega)).mono fun e w' ⟨he, hw⟩ => by
    have h1 := bitLen_bl hb
    have h2 : bl x ≤ 64 := bl_le (Nat.lt_of_le_of_lt hb (by decide))
    have h3 : 0 < bl x := by rw [bl_half hx]; omega
    exact ⟨64 - bl x, by rw [he, Int.toNat_natCast, h1]; congr 2; omega, by omega, show _ = _ by omega, hw.symm⟩

structure ShlRel (w : World) (n s : Nat) (xs : List Nat) (iv : Value) (wr : World) (k : Nat) (cur : List Nat) : Prop where
  i : iv = .int .i64 k
  kb : k ≤ n
  len : Hid (cur.length = n + 1)
  ok : Okd (bs .u64) cur
  own : Mz wr w.heap.size 82 .u64 (n + 1) cur
  top : Hid (cur.getD k 0 < 2 ^ s)
  val : Hid (vl (bs .u64) cur = vl (bs .u64) (xs.take k) * 2 ^ s)
  drop : Hid (cur.drop (k + 1) = zs (n - k))
  bel : Below w.heap.size w wr

theorem set2_drop {cur : List Nat} {k n d e : Nat} (hk : k < n) (hd : cur.drop (k + 1) = zs (n - k)) : ((cur.set k d).set (k + 1) e).drop (k + 1 + 1) = zs (n - (k + 1)) := by
  rw [List.drop_set_of_lt (by omega), List.drop_set_of_lt (by omega)]
  exact (drop_zs hd (by omega)).2

theorem shr_cast (y s : Nat) : ((y : Int) / 2 ^ s) = ((y / 2 ^ s : Nat) : Int) := by
  rw [Int.natCast_ediv, Int.natCast_pow]; rfl
theorem i64_sub64 (s : Nat) (h : s < 64) : (64 : Int) - (s : Int) = ((64 - s : Nat) : Int) := by omega

set_option maxHeartbeats 1600000 in
set_option maxRecDepth 100000 in
theorem shiftLeft_any (A : Option Addr) (n c s : Nat) (xs : List Nat) (w : World) (h : Dg .u64 w A n c xs) (hn : n ≤ 1000000) (hs : s < 64) :
    Calls Tryz.prog 143 #[.slice A n c, .int .i64 (s : Int)] w fun e w' => ∃ cur, e = .returned (.slice (some ⟨w.heap.size, 0, none⟩) (tl cur) (n + 1)) ∧ Mz w' w.heap.size 82 .u64 (n + 1) cur ∧ Okd (bs .u64) cur ∧ Hid (cur.length = n + 1) ∧ Hid (vl (bs .u64) cur = vl (bs .u64) xs * 2 ^ s) ∧ Below w.heap.size w w' := by
  have hmk := make_u64 (n + 1) (by omega)
  rw [show ((n + 1 : Nat) : Int) = (n : Int) + 1 by omega] at hmk
  have hc2 := h.top
  have hxl := Lib.hid h.len
  have hsub := i64_sub64 s hs
  go_enter Tryz.func143, Tryz.ntmps143
  go_wp2
  go_loopw [14] (fun iv wr => ∃ k cur, ShlRel w n s xs iv wr k cur) (fun iv _ => n - (intOf iv).toNat)
  case atStart => exact ⟨0, zs (n + 1), rfl, by omega, zs_len _, zs_ok (by decide) _, by have := Mz.new w 82 .u64 (zs (n + 1)); rw [zs_len] at this; exact this, show _ < _ by rw [show (zs (n + 1)).getD 0 0 = 0 from rfl]; exact Nat.two_pow_pos s, show _ = _ by rw [zs_vl]; simp [vl], rfl, (Below.refl _ _).alloc (Nat.le_refl _) _⟩
  case round =>
    obtain ⟨k, cur, rfl, hkb, hcl, hco, hown, htop, hval, hdrop, hbel⟩ := hrel
    by_cases hkn : k < n
    · obtain ⟨ad, d, rfl, hcd, _, hd⟩ := h.at2 hbel hkn
      have hdb : d ≤ 18446744073709551615 := Nat.le_of_lt_succ hd.out.2
      have hlen : Hid (k < cur.length) := by show _ < _; rw [hcl.out]; omega
      have hlen1 : Hid (k + 1 < cur.length) := by show _ < _; rw [hcl.out]; omega
      have hcc := hown.mk.cell hlen.out
      have hcf := hown.mk.frozen k
      obtain ⟨cg, hcg⟩ : ∃ cg, cur.getD k 0 = cg := ⟨_, rfl⟩
      rw [hcg] at hcc htop
      have HZ := Lib.hid (drop_zs hdrop.out (by omega))
      have HF := Lib.hid (shl_step hs hlen1.out hcg htop.out HZ.out.1 hd.out.1 hdb hval.out)
      have hM1 := Lib.hid (fun v : Nat => (hown.set_ k v).drew)
      have HS := Lib.hid (set2_drop (d := cg + d % 2 ^ (64 - s) * 2 ^ s) (e := d / 2 ^ (64 - s)) hkn hdrop.out)
      have hcc1 := hown.mk.cell hlen1.out
      rw [HZ.out.1] at hcc1
      have hcc1 : wr.cell? ⟨w.heap.size, k + 1, none⟩ = some (.int .u64 0) := hcc1
      have hcf1 := hown.mk.frozen (k + 1)
      clear hcg
      go_wp2_with fail
      go_region
      go_wp2
      go_roundw
      case rel =>
        have hw : IntKind.u64.wrap ((d : Int) * 2 ^ s) = (d : Int) * 2 ^ s % 18446744073709551616 := by simp [IntKind.wrap, IntKind.bits, IntKind.signed]
        rw [hw, HF.out.2.1, shr_cast]
        exact ⟨k + 1, _, by go_num, hkn, show _ = _ by rw [List.length_set, List.length_set]; exact hcl.out, (hco.set _ HF.out.1).set _ HF.out.2.2.2.1, (hM1.out _).set_ _ _, show _ < _ by rw [getD_set_eq (by rw [List.length_set]; exact hlen1.out)]; exact HF.out.2.2.1, HF.out.2.2.2.2, HS.out, ((hbel.setCell (Nat.le_refl _) _).drew).setCell (Nat.le_refl _) _⟩
      case measure => simp [intOf]; omega
    · obtain rfl : k = n := by omega
      have hv := hval.out
      rw [List.take_of_length_le (by rw [hxl.out]; omega)] at hv
      have Hv := Lib.hid hv
      clear hv
      have hD := hown.mk.dg64 hcl.out (by omega) hco
      go_wp2_with fail
      refine (trim64_any _ _ _ _ _ hD).mono ?_
      rintro e w' ⟨rfl, rfl⟩
      go_wp2
      go_ret
      exact ⟨cur, rfl, hown, hco, hcl, Hv, hbel⟩
structure ShrRel2 (w : World) (n s : Nat) (xs : List Nat) (iv : Value) (wr : World) (k : Nat) (cur : List Nat) : Prop where
  i : iv = .int .i64 k
  kb : k ≤ n
  len : Hid (cur.length = n)
  ok : Okd (bs .u64) cur
  own : Mz wr w.heap.size 82 .u64 n cur
  top : Hid (0 < k → cur.getD (k - 1) 0 < 2 ^ (64 - s))
  val : Hid (vl (bs .u64) cur = vl (bs .u64) (xs.take k) / 2 ^ s)
  drop : Hid (cur.drop k = zs (n - k))
  bel : Below w.heap.size w wr

theorem shr_zero {b : Nat} {cur xs : List Nat} {n s d : Nat} (hl : cur.length = n) (hn : 0 < n) (hz : cur.getD 0 0 = 0) (hv : vl b cur = vl b (xs.take 0) / 2 ^ s) (hd : xs.getD 0 0 = d) : vl b (cur.set 0 (d / 2 ^ s)) = vl b (xs.take 1) / 2 ^ s := by
  have h1 := vl_set (b := b) (d := d / 2 ^ s) (by omega : 0 < cur.length) hz
  rw [Nat.mul_zero, Nat.add_zero, hv, List.take_zero, Nat.pow_zero, Nat.one_mul] at h1
  rw [h1, vl_take_succ_getD, hd, List.take_zero, Nat.pow_zero, Nat.one_mul]
  simp [vl]
theorem set2_drop' {cur : List Nat} {k n d e : Nat} (hk : k < n) (hd : cur.drop k = zs (n - k)) : ((cur.set k d).set (k - 1) e).drop (k + 1) = zs (n - (k + 1)) := by
  rw [List.drop_set_of_lt (by omega), List.drop_set_of_lt (by omega)]
  exact (drop_zs hd (by omega)).2
theorem i64_pred (k : Nat) (h : 0 < k) : (k : Int) - 1 = ((k - 1 : Nat) : Int) := by omega

set_option maxHeartbeats 1600000 in
set_option maxRecDepth 100000 in
theorem shiftRight_any (A : Option Addr) (n c s : Nat) (xs : List Nat) (w : World) (h : Dg .u64 w A n c xs) (hn : n ≤ 1000000) (hs : s < 64) :
    Calls Tryz.prog 146 #[.slice A n c, .int .i64 (s : Int)] w fun e w' => ∃ cur, e = .returned (.slice (some ⟨w.heap.size, 0, none⟩) (tl cur) n) ∧ Mz w' w.heap.size 82 .u64 n cur ∧ Okd (bs .u64) cur ∧ Hid (cur.length = n) ∧ Hid (vl (bs .u64) cur = vl (bs .u64) xs / 2 ^ s) ∧ Below w.heap.size w w' := by
  have hmk := make_u64 n (by omega)
  have hc2 := h.top
  have hxl := Lib.hid h.len
  have hsub := i64_sub64 s hs
  go_enter Tryz.func146, Tryz.ntmps146
  go_wp2
  go_loopw [13] (fun iv wr => ∃ k cur, ShrRel2 w n s xs iv wr k cur) (fun iv _ => n - (intOf iv).toNat)
  case atStart => exact ⟨0, zs n, rfl, by omega, zs_len _, zs_ok (by decide) _, by have := Mz.new w 82 .u64 (zs n); rw [zs_len] at this; exact this, fun h0 => absurd h0 (by omega), show _ = _ by rw [zs_vl]; simp [vl], rfl, (Below.refl _ _).alloc (Nat.le_refl _) _⟩
  case round =>
    obtain ⟨k, cur, rfl, hkb, hcl, hco, hown, htop, hval, hdrop, hbel⟩ := hrel
    by_cases hkn : k < n
    · obtain ⟨ad, d, rfl, hcd, hcd2, hd⟩ := h.at2 hbel hkn
      have hdb : d ≤ 18446744073709551615 := Nat.le_of_lt_succ hd.out.2
      have hlen : Hid (k < cur.length) := by show _ < _; rw [hcl.out]; omega
      have hcc := hown.mk.cell hlen.out
      have hcf := hown.mk.frozen k
      have HZ := Lib.hid (drop_zs hdrop.out (by omega))
      rw [HZ.out.1] at hcc
      have hcc : wr.cell? ⟨w.heap.size, k, none⟩ = some (.int .u64 0) := hcc
      have hq : Hid (d / 2 ^ s < bs .u64) := Nat.lt_of_le_of_lt (Nat.div_le_self _ _) hd.out.2
      rcases Nat.eq_zero_or_pos k with rfl | hk0
      · have HF := Lib.hid (shr_zero hcl.out hkn HZ.out.1 hval.out hd.out.1)
        have hdq : Hid (d / 2 ^ s < 2 ^ (64 - s)) := by
          show _ < _
          rw [Nat.div_lt_iff_lt_mul (Nat.two_pow_pos _), ← Nat.pow_add, show 64 - s + s = 64 by omega]; exact Nat.lt_of_le_of_lt hdb (by decide)
        have hcd : wr.cell? ad = some (.int .u64 d) := hcd
        go_wp2
        go_roundw
        case rel =>
          rw [shr_cast]
          exact ⟨1, _, rfl, hkn, show _ = _ by rw [List.length_set]; exact hcl.out, hco.set _ hq.out, hown.set_ _ _, fun _ => by rw [getD_set_eq hlen.out]; exact hdq.out, HF.out, show _ = _ by rw [List.drop_set_of_lt (by omega)]; exact HZ.out.2, hbel.setCell (Nat.le_refl _) _⟩
        case measure => simp [intOf]; omega
      · have hlen1 : Hid (k - 1 < cur.length) := by show _ < _; rw [hcl.out]; omega
        obtain ⟨cg, hcg⟩ : ∃ cg, cur.getD (k - 1) 0 = cg := ⟨_, rfl⟩
        have hM1 := hown.set_ k (d / 2 ^ s)
        have hcc1 := hM1.mk.cell (i := k - 1) (by rw [List.length_set]; exact hlen1.out)
        rw [getD_set_ne (by omega), hcg] at hcc1
        have hcf1 := hM1.mk.frozen (k - 1)
        rw [← shr_cast] at hcc1 hcf1
        have HF := Lib.hid (shr_step hs hk0 hlen.out hcg (by rw [← hcg]; exact htop.out hk0) hd.out.1 hdb HZ.out.1 hval.out)
        have HS := Lib.hid (set2_drop' (d := d / 2 ^ s) (e := cg + d % 2 ^ s * 2 ^ (64 - s)) hkn hdrop.out)
        have hpr := i64_pred k hk0
        have hkp : k - 1 < n := by omega
        clear hcg
        go_wp2_with fail
        go_region
        go_wp2
        go_roundw
        case rel =>
          have hw : IntKind.u64.wrap ((d : Int) * 2 ^ (64 - s)) = (d : Int) * 2 ^ (64 - s) % 18446744073709551616 := by simp [IntKind.wrap, IntKind.bits, IntKind.signed]
          rw [hw, HF.out.2.1, shr_cast]
          exact ⟨k + 1, _, by go_num, hkn, show _ = _ by rw [List.length_set, List.length_set]; exact hcl.out, (hco.set _ HF.out.2.2.2.1).set _ HF.out.1, (hM1.set_ _ _).drew, fun _ => by rw [show k + 1 - 1 = k by omega, getD_set_ne (by omega), getD_set_eq hlen.out]; exact HF.out.2.2.1, HF.out.2.2.2.2, HS.out, ((hbel.setCell (Nat.le_refl _) _).setCell (Nat.le_refl _) _).drew⟩
        case measure => simp [intOf]; omega
    · obtain rfl : k = n := by omega
      have hv := hval.out
      rw [List.take_of_length_le (by rw [hxl.out]; omega)] at hv
      have Hv := Lib.hid hv
      clear hv
      have hD := hown.mk.dg64 hcl.out (by omega) hco
      go_wp2_with fail
      refine (trim64_any _ _ _ _ _ hD).mono ?_
      rintro e w' ⟨rfl, rfl⟩
      go_wp2
      go_ret
      exact ⟨cur, rfl, hown, hco, hcl, Hv, hbel⟩
end Go.Proofs.YtbgihlfblmilmaaGreatDoor.Fr

/- The mathematics of long division. -/
namespace Go.Proofs.YtbgihlfblmilmaaGreatDoor.Fr
open Go.RowKit Num

theorem top_zero {b D : Nat} {cur ys : List Nat} {k n : Nat} (hy : Okd b ys) (hyl : ys.length = n) (hD : vl b ys = D) (hR : vl b cur < D * b ^ k) : vl b (cur.drop (k + n)) = 0 := by
  have h1 := vl_drop_le (b := b) cur (k + n)
  have h2 := vl_lt hy
  rw [hyl, hD] at h2
  rcases Nat.eq_zero_or_pos (vl b (cur.drop (k + n))) with h | h
  · exact h
  · exfalso
    have h3 : b ^ (k + n) * 1 ≤ b ^ (k + n) * vl b (cur.drop (k + n)) := Nat.mul_le_mul_left _ h
    have h4 : D * b ^ k ≤ b ^ n * b ^ k := Nat.mul_le_mul_right _ (by omega)
    rw [← Nat.pow_add, Nat.add_comm n k] at h4
    omega
theorem drop_two {b : Nat} {cur : List Nat} {m p0 p1 : Nat} (hm : m + 1 < cur.length) (h0 : cur.getD m 0 = p0) (h1 : cur.getD (m + 1) 0 = p1) (hz : vl b (cur.drop (m + 1 + 1)) = 0) : vl b (cur.drop m) = p1 * b + p0 := by
  rw [vl_drop_pred (by omega) h0, vl_drop_pred hm h1, hz, Nat.mul_zero, Nat.add_zero, Nat.mul_comm b]; omega
theorem top_digit {b : Nat} {ys : List Nat} {n f : Nat} (hyl : ys.length = n + 1) (hf : ys.getD n 0 = f) : f * b ^ n ≤ vl b ys := by
  have h := vl_take_drop b ys n (by omega)
  rw [vl_drop_pred (b := b) (by omega) hf, List.drop_eq_nil_of_le (by omega), vl_nil, Nat.mul_zero, Nat.add_zero, Nat.mul_comm (b ^ n)] at h
  omega
/-- the guess is not too small -/
theorem guess_ge {b D f k n p0 p1 : Nat} (hb : 0 < b) {cur ys : List Nat} (hok : Okd b cur) (hy : Okd b ys) (hyl : ys.length = n + 1) (hD : vl b ys = D) (hf : ys.getD n 0 = f) (hf0 : 0 < f)
    (hR : vl b cur < D * b ^ (k + 1)) (hl : k + (n + 1) < cur.length) (h0 : cur.getD (k + n) 0 = p0) (h1 : cur.getD (k + (n + 1)) 0 = p1) : vl b cur / (D * b ^ k) ≤ (p1 * b + p0) / f := by
  have hz := top_zero hy hyl hD hR
  have hd := drop_two (b := b) (by omega : k + n + 1 < cur.length) h0 h1 (by rw [show k + n + 1 + 1 = k + 1 + (n + 1) by omega]; exact hz)
  have hq := (vl_drop_div hb hok (by omega : k + n ≤ cur.length)).1
  rw [hd] at hq
  rw [hq, Nat.div_div_eq_div_mul]
  refine Nat.div_le_div_left ?_ (Nat.mul_pos (Nat.pow_pos hb) hf0)
  have h5 := top_digit (b := b) hyl hf
  rw [hD] at h5
  have h6 : f * b ^ n * b ^ k ≤ D * b ^ k := Nat.mul_le_mul_right _ h5
  rw [Nat.pow_add, Nat.mul_comm (b ^ k * b ^ n) f, Nat.mul_comm (b ^ k) (b ^ n), ← Nat.mul_assoc]
  exact h6
theorem quo_lt {b D k R : Nat} (hD : 0 < D * b ^ k) (hR : R < D * b ^ (k + 1)) : R / (D * b ^ k) < b := by
  rw [Nat.div_lt_iff_lt_mul hD, Nat.mul_comm b, Nat.mul_assoc, ← Nat.pow_succ]; exact hR
theorem lt_of_mul {U Q d R : Nat} (hU : 0 < U) (hQ : Q = R / U) (h : R < U * d) : Q < d := by
  rw [hQ, Nat.div_lt_iff_lt_mul hU, Nat.mul_comm]; exact h

/-- what holds while the digit of the quotient is corrected -/
def Corr (b U R k n : Nat) (d : Nat) (short : Bool) (cur : List Nat) : Prop :=
  vl b (cur.drop (k + n + 1)) = 0 ∧ (if short then vl b cur + U * d = R + b ^ (k + n + 1) ∧ R / U < d else vl b cur + U * d = R ∧ R / U ≤ d)

theorem lt_top {b : Nat} {cur : List Nat} (hok : Okd b cur) {m : Nat} (hm : m ≤ cur.length) (hz : vl b (cur.drop m) = 0) : vl b cur < b ^ m := by
  have h := vl_take_drop b cur m hm
  have h2 := vl_lt (hok.take m)
  rw [List.length_take, Nat.min_eq_left hm] at h2
  rw [hz, Nat.mul_zero, Nat.add_zero] at h
  omega

/-- the first try -/
theorem corr_start {b D U R k n d br p1 s : Nat} {cur1 cur ys : List Nat} (hok : Okd b cur1) (hsb : s < b) (hU : D * b ^ k = U) (hU0 : 0 < U) (hR : vl b cur = R) (hy : vl b ys = D) (hl : k + n < cur1.length)
    (hv : vl b cur1 + b ^ k * (vl b ys * d) = vl b cur + b ^ (k + n) * br) (hd : cur1.drop (k + n) = cur.drop (k + n)) (hz : vl b (cur.drop (k + n + 1)) = 0) (hp : cur1.getD (k + n) 0 = p1)
    (hQ : R / U ≤ d) (hs : s + br = p1 + (if p1 < br then b else 0)) : Corr b U R k n d (decide (p1 < br)) (cur1.set (k + n) s) := by
  have hz1 : vl b ((cur1.set (k + n) s).drop (k + n + 1)) = 0 := by
    rw [List.drop_set_of_lt (by omega)]
    have := congrArg (List.drop 1) hd
    rw [List.drop_drop, List.drop_drop] at this
    rw [this]; exact hz
  refine ⟨hz1, ?_⟩
  have h1 := vl_set (b := b) (d := s) hl hp
  rw [hy, hR] at hv
  have e1 : b ^ k * (D * d) = U * d := by rw [← hU, Nat.mul_right_comm, Nat.mul_comm (D * d)]
  rw [e1] at hv
  have h3 : b ^ (k + n) * (s + br) = b ^ (k + n) * (p1 + (if p1 < br then b else 0)) := by rw [hs]
  by_cases hlt : p1 < br
  · rw [decide_eq_true hlt, if_pos rfl]
    rw [if_pos hlt, Nat.mul_add, Nat.mul_add] at h3
    have e2 : b ^ (k + n + 1) = b ^ (k + n) * b := Nat.pow_succ ..
    have hlt2 := lt_top (hok.set (k + n) hsb) (by rw [List.length_set]; omega : k + n + 1 ≤ _) hz1
    rw [e2] at hlt2 ⊢
    have h4 : vl b (cur1.set (k + n) s) + U * d = R + b ^ (k + n) * b := by omega
    exact ⟨h4, lt_of_mul hU0 rfl (by omega)⟩
  · rw [decide_eq_false hlt, if_neg (by simp)]
    rw [if_neg hlt, Nat.mul_add, Nat.add_zero] at h3
    exact ⟨by omega, hQ⟩

/-- one less -/
theorem corr_next {b U R k n d D c : Nat} {cur cur' ys : List Nat} (hok : Okd b cur') (hU : D * b ^ k = U) (hU0 : 0 < U) (hy : vl b ys = D) (hl : k + n + 1 ≤ cur'.length) (hC : Corr b U R k n d true cur) (hc : c ≤ 1)
    (hv : vl b cur' + b ^ (k + (n + 1)) * c = vl b cur + b ^ k * vl b ys) (hd : cur'.drop (k + (n + 1)) = cur.drop (k + (n + 1))) : 1 ≤ d ∧ Corr b U R k n (d - 1) (!decide (0 < c)) cur' := by
  obtain ⟨hz, h1, h2⟩ := hC
  have hd1 : 1 ≤ d := Nat.lt_of_le_of_lt (Nat.zero_le _) h2
  have hz' : vl b (cur'.drop (k + n + 1)) = 0 := by
    rw [show k + n + 1 = k + (n + 1) by omega, hd]; exact hz
  have hlt := lt_top hok hl hz'
  rw [hy, Nat.mul_comm (b ^ k), hU, show k + (n + 1) = k + n + 1 by omega] at hv
  obtain ⟨e, rfl⟩ : ∃ e, d = e + 1 := ⟨d - 1, by omega⟩
  rw [Nat.mul_succ] at h1
  refine ⟨hd1, hz', ?_⟩
  rw [Nat.add_sub_cancel]
  rcases (show c = 0 ∨ c = 1 by omega) with rfl | rfl
  · rw [if_pos (by decide)]
    rw [Nat.mul_zero] at hv
    have h3 : vl b cur' + U * e = R + b ^ (k + n + 1) := by omega
    exact ⟨h3, lt_of_mul hU0 rfl (by omega)⟩
  · rw [if_neg (by decide)]
    rw [Nat.mul_one] at hv
    exact ⟨by omega, by omega⟩

/-- the digit that is right -/
theorem corr_done {b U R k n d : Nat} {cur : List Nat} (hU0 : 0 < U) (hC : Corr b U R k n d false cur) : vl b cur + U * d = R ∧ vl b cur < U := by
  obtain ⟨_, h1, h2⟩ := hC
  refine ⟨h1, ?_⟩
  have h3 : R / U = d := by
    refine Nat.le_antisymm h2 ?_
    rw [Nat.le_div_iff_mul_le hU0, Nat.mul_comm]; omega
  have h4 := Nat.lt_mul_div_succ R hU0
  rw [h3, Nat.mul_add] at h4
  omega
theorem quo_next {b D U R R0 k d : Nat} {quo cur : List Nat} (hU : D * b ^ k = U) (hl : k < quo.length) (hz : quo.take (k + 1) = zs (k + 1)) (h1 : R + D * vl b quo = R0) (h2 : vl b cur + U * d = R) :
    vl b cur + D * vl b (quo.set k d) = R0 ∧ (quo.set k d).take k = zs k := by
  have hk : quo.getD k 0 = 0 := by
    have := congrArg (fun l => l.getD k 0) hz
    simp only [List.getD_eq_getElem?_getD, List.getElem?_take, zs, List.getElem?_replicate] at this
    rw [if_pos (by omega)] at this
    rw [List.getD_eq_getElem?_getD, this]; simp
  have h3 := vl_set (b := b) (d := d) hl hk
  rw [Nat.mul_zero, Nat.add_zero] at h3
  refine ⟨?_, ?_⟩
  · rw [h3, Nat.mul_add, ← Nat.mul_assoc, hU]; omega
  · rw [List.take_set_of_le (Nat.le_refl _)]
    have := congrArg (List.take k) hz
    rw [List.take_take, Nat.min_eq_left (by omega)] at this
    rw [this]; unfold zs; rw [List.take_replicate, Nat.min_eq_left (by omega)]
theorem quo_top {D R0 V Q : Nat} (h1 : V + D * Q = R0) (h2 : V < D) : Q = R0 / D ∧ V = R0 % D := by
  subst h1
  rw [Nat.add_mul_div_left _ _ (by omega), Nat.add_mul_mod_self_left, Nat.div_eq_of_lt h2, Nat.mod_eq_of_lt h2]
  omega
end Go.Proofs.YtbgihlfblmilmaaGreatDoor.Fr

/- Long division. -/
namespace Go.Proofs.YtbgihlfblmilmaaGreatDoor.Fr
open Go.RowKit Num

/-- what guessDigit returns -/
def gdig (p1 p0 f : Nat) : Nat := if f ≤ p1 then 18446744073709551615 else (p1 * bs .u64 + p0) / f

theorem div_quiet (hi lo y q r : Nat) (w : World) (n : Nat) (h1 : hi < y) (h2 : lo ≤ 18446744073709551615) (h3 : y ≤ 18446744073709551615) (hq : Hid ((hi * bs .u64 + lo) / y = q)) (hr : Hid ((hi * bs .u64 + lo) % y = r)) :
    Calls Tryz.prog 150 #[.int .u64 (hi : Int), .int .u64 (lo : Int), .int .u64 (y : Int)] (w.drewN n) fun e w' => e = .returned (.tuple #[.int .u64 (q : Int), .int .u64 (r : Int)]) ∧ ∃ m, w' = w.drewN m :=
  (div_said hi lo y (w.drewN n) h1 h2 h3).mono fun e w' ⟨m, he, hw⟩ => ⟨by rw [he, hq.out, hr.out], n + m, by rw [hw, World.drewN_drewN]⟩

set_option maxHeartbeats 1600000 in
set_option maxRecDepth 100000 in
theorem guessDigit_any (P B : Option Addr) (n cp cb p0 p1 f : Nat) (us ys : List Nat) (w : World) (h : Dg .u64 w P (n + 1) cp us) (h' : Dg .u64 w B n cb ys) (hn : 0 < n) (h0 : Hid (us.getD (n - 1) 0 = p0)) (h1 : Hid (us.getD n 0 = p1)) (hf : Hid (ys.getD (n - 1) 0 = f)) (hf0 : 0 < f) :
    Calls Tryz.prog 165 #[.slice P (n + 1) cp, .slice B n cb] w fun e w' => e = .returned (.int .u64 ((gdig p1 p0 f : Nat) : Int)) ∧ ∃ m, w' = w.drewN m := by
  have hc1 := h.top
  have hc2 := h'.top
  have hc3 := h.cap
  have hc4 := h'.cap
  have hpr := i64_pred n hn
  have e1 : IntKind.i64.wrap ((n : Int) - 1) = ((n - 1 : Nat) : Int) := by rw [hpr]; exact IntWalk.i64_in _ (by omega)
  have e2 : IntKind.i64.wrap ((n - 1 : Nat) : Int) = ((n - 1 : Nat) : Int) := IntWalk.i64_in _ (by omega)
  have i0 : (0 : Int) ≤ ((n - 1 : Nat) : Int) := by omega
  have i1 : ((n - 1 : Nat) : Int) < (n : Int) + 1 := by omega
  have i2 : (0 : Int) ≤ (n : Int) := by omega
  have i3 : (n : Int) < (n : Int) + 1 := by omega
  obtain ⟨ap, x0, rfl, hx0, hx0'⟩ := h.at_ (j := n - 1) (by omega)
  obtain ⟨ap', x1, hap, hx1, hx1'⟩ := h.at_ (j := n) (by omega)
  injection hap with hap
  subst hap
  obtain ⟨ad, y, rfl, hy, hy'⟩ := h'.at_ (j := n - 1) (by omega)
  obtain rfl : x0 = p0 := by rw [← h0.out, hx0'.out.1]
  obtain rfl : x1 = p1 := by rw [← h1.out, hx1'.out.1]
  obtain rfl : y = f := by rw [← hf.out, hy'.out.1]
  have hb0 : x0 ≤ 18446744073709551615 := Nat.le_of_lt_succ hx0'.out.2
  have hb1 : x1 ≤ 18446744073709551615 := Nat.le_of_lt_succ hx1'.out.2
  have hb2 : y ≤ 18446744073709551615 := Nat.le_of_lt_succ hy'.out.2
  clear h0 h1 hf h h'
  by_cases hge : y ≤ x1
  · have hd : decide ((y : Int) ≤ (x1 : Int)) = true := decide_eq_true (by omega)
    have HG := Lib.hid (show (gdig x1 x0 y : Nat) = 18446744073709551615 from if_pos hge)
    have hge' : (y : Int) ≤ (x1 : Int) := by omega
    clear hge
    go_enter Tryz.func165, Tryz.ntmps165
    go_wp2
    go_ret
    exact ⟨by rw [HG.out]; rfl, 0, rfl⟩
  · have hd : decide ((y : Int) ≤ (x1 : Int)) = false := decide_eq_false (by omega)
    have HG := Lib.hid (show (gdig x1 x0 y : Nat) = (x1 * bs .u64 + x0) / y from if_neg hge)
    have hlt : x1 < y := by omega
    have hlt' : ¬ (y : Int) ≤ (x1 : Int) := by omega
    clear hge
    obtain ⟨q, hq⟩ : ∃ q, (x1 * bs .u64 + x0) / y = q := ⟨_, rfl⟩
    obtain ⟨r, hr⟩ : ∃ r, (x1 * bs .u64 + x0) % y = r := ⟨_, rfl⟩
    have hqb : q ≤ 18446744073709551615 := by rw [← hq]; exact Nat.le_of_lt_succ (div1_lt_b (b := bs .u64) hlt (Nat.lt_succ_of_le hb0))
    have hrb : r ≤ 18446744073709551615 := by rw [← hr]; have := Nat.mod_lt (x1 * bs .u64 + x0) (show 0 < y from hf0); omega
    have Hq := Lib.hid hq
    have Hr := Lib.hid hr
    clear hq hr
    go_enter Tryz.func165, Tryz.ntmps165
    go_wp2
    go_quiet ((go_at_call 150; exact div_quiet x1 x0 y q r _ _ hlt hb0 hb2 Hq Hr))
    go_wp2
    go_ret
    exact ⟨by rw [HG.out, Hq.out]; rfl, _, rfl⟩

/-- the calls turned block g alone, of those that were there -/
def Gr (g : Nat) (w w' : World) : Prop := w.grownBy w' (some g)
theorem Gr.refl (g : Nat) (w : World) : Gr g w w := ⟨rfl, rfl, rfl, Nat.le_refl _, fun _ _ _ => rfl⟩
theorem Gr.trans {g : Nat} {a b c : World} (h : Gr g a b) (k : Gr g b c) : Gr g a c :=
  ⟨k.os.trans h.os, k.tape.trans h.tape, k.output.trans h.output, Nat.le_trans h.size k.size, fun i hi hne => (k.block i (Nat.lt_of_lt_of_le hi h.size) hne).trans (h.block i hi hne)⟩
theorem Gr.new {g g' : Nat} {a b c : World} (h : Gr g a b) (k : Onl g' b c) (hg : a.heap.size ≤ g') : Gr g a c :=
  ⟨k.1.os.trans h.os, k.1.tape.trans h.tape, k.1.output.trans h.output, Nat.le_trans h.size k.1.size, fun i hi hne => (k.1.block i (Nat.lt_of_lt_of_le hi h.size) (fun e => by injection e with e; omega)).trans (h.block i hi hne)⟩
theorem Gr.alloc {g : Nat} {a b : World} (h : Gr g a b) (o : Obj) : Gr g a (b.alloc o) :=
  ⟨h.os, h.tape, h.output, by simp; exact Nat.le_trans h.size (Nat.le_succ _), fun i hi hne => (Below.heap_alloc b o i (Nat.lt_of_lt_of_le hi h.size)).trans (h.block i hi hne)⟩
theorem Gr.drewN {g : Nat} {a b : World} (h : Gr g a b) (n : Nat) : Gr g a (b.drewN n) := ⟨h.os, h.tape, h.output, h.size, h.block⟩

theorem getD_drop {xs ys : List Nat} {m : Nat} (h : xs.drop m = ys.drop m) : xs.getD m 0 = ys.getD m 0 := by
  have := congrArg (fun l => l.getD 0 0) h
  simpa [List.getD_eq_getElem?_getD, List.getElem?_drop] using this
theorem sub_wrap (p br : Nat) (hp : p ≤ 18446744073709551615) (hb : br ≤ 18446744073709551615) : ∃ s : Nat, IntKind.u64.wrap ((p : Int) - (br : Int)) = (s : Int) ∧ s ≤ 18446744073709551615 ∧ Hid (s + br = p + (if p < br then bs .u64 else 0)) := by
  have e : ∀ m : Int, IntKind.u64.wrap m = m % 18446744073709551616 := fun m => by simp [IntKind.wrap, IntKind.bits, IntKind.signed]
  by_cases h : p < br
  · exact ⟨p + 18446744073709551616 - br, by rw [e]; omega, by omega, show _ = _ by rw [if_pos h]; show _ = p + 18446744073709551616; omega⟩
  · exact ⟨p - br, by rw [e]; omega, by omega, show _ = _ by rw [if_neg h]; omega⟩

structure LdRel (w : World) (gr m n D R0 : Nat) (wr : World) (k : Nat) (cur quo : List Nat) : Prop where
  kb : k + n < m
  cl : Hid (cur.length = m)
  ql : Hid (quo.length = m - n)
  co : Okd (bs .u64) cur
  qo : Okd (bs .u64) quo
  cm : Mk wr gr 82 .u64 cur
  qm : Mz wr w.heap.size 82 .u64 (m - n) quo
  qz : Hid (quo.take (k + 1) = zs (k + 1))
  val : Hid (vl (bs .u64) cur + D * vl (bs .u64) quo = R0)
  bd : Hid (vl (bs .u64) cur < D * bs .u64 ^ (k + 1))
  gr : Gr gr w wr

set_option maxHeartbeats 3200000 in
set_option maxRecDepth 100000 in
theorem longDivision_any (gr m ca n cb D R0 : Nat) (B : Option Addr) (cur0 ys : List Nat) (w : World) (hM : Mk w gr 82 .u64 cur0) (hok : Okd (bs .u64) cur0) (hl : Hid (cur0.length = m)) (hca : m ≤ ca) (hca2 : ca ≤ 9223372036854775807)
    (hB : Dg .u64 w B n cb ys) (hN : Nrm ys) (hn : 0 < n) (hnm : n < m) (hm : m ≤ 1000000) (hne : Hid (∀ ad, B = some ad → ad.block ≠ gr)) (hD : Hid (vl (bs .u64) ys = D)) (hR : Hid (vl (bs .u64) cur0 = R0)) (hlt : Hid (R0 < D * bs .u64 ^ (m - n))) :
    Calls Tryz.prog 145 #[.slice (some ⟨gr, 0, none⟩) m ca, .slice B n cb] w fun e w' => ∃ cur quo, e = .returned (.slice (some ⟨w.heap.size, 0, none⟩) (m - n) (m - n)) ∧
      Mk w' gr 82 .u64 cur ∧ Hid (cur.length = m) ∧ Okd (bs .u64) cur ∧ Hid (vl (bs .u64) cur = R0 % D) ∧
      Mz w' w.heap.size 82 .u64 (m - n) quo ∧ Hid (quo.length = m - n) ∧ Okd (bs .u64) quo ∧ Hid (vl (bs .u64) quo = R0 / D) ∧ Gr gr w w' := by
  have hgl := hM.lt
  have hsub : (m : Int) - (n : Int) = ((m - n : Nat) : Int) := by omega
  have hmk := make_u64 (m - n) (by omega)
  have hpr := i64_pred (m - n) (by omega)
  have hcb1 := hB.cap
  have hcb2 := hB.top
  go_enter Tryz.func145, Tryz.ntmps145
  go_wp2
  go_step3
  go_wp2
  go_step3
  go_wp2
  go_loopg [7] (m - n) (fun gk iv wr => ∃ (k : Nat) (cur quo : List Nat), iv = .int .i64 k ∧ Hid (gk = k + 1) ∧ LdRel w gr m n D R0 wr k cur quo)
  case atStart =>
    exact ⟨m - n - 1, cur0, zs (m - n), rfl, show _ = _ by omega, ⟨by omega, hl, zs_len _, hok, zs_ok (by decide) _, hM.alloc _, by have := Mz.new w 82 .u64 (zs (m - n)); rw [zs_len] at this; exact this, show _ = _ by rw [show m - n - 1 + 1 = m - n by omega, List.take_of_length_le (by rw [zs_len]; exact Nat.le_refl _)], show _ = _ by rw [zs_vl, hR.out]; simp, show _ < _ by rw [show m - n - 1 + 1 = m - n by omega, hR.out]; exact hlt.out, (Gr.refl _ _).alloc _⟩⟩
  case round =>
    obtain ⟨k, cur, quo, rfl, hgk, hkb, hcl, hql, hco, hqo, hcm, hqm, hqz, hval, hbd, hgr⟩ := hrel
    clear hM hok hl
    have hB2 := grown_dg hgr hB (fun _ => hne.out)
    have hP := hcm.dgo (o := k) (n := n + 1) (c := ca - k) (by rw [hcl.out]; omega) (by omega) (by omega) hco
    obtain ⟨f, hf⟩ : ∃ f, ys.getD (n - 1) 0 = f := ⟨_, rfl⟩
    obtain ⟨p0, hp0⟩ : ∃ p0, cur.getD (k + (n - 1)) 0 = p0 := ⟨_, rfl⟩
    obtain ⟨p1, hp1⟩ : ∃ p1, cur.getD (k + n) 0 = p1 := ⟨_, rfl⟩
    have hf0 : 0 < f := nrm_top (n := n - 1) hN (by rw [hB.len]; omega) hf
    have hfb : f ≤ 18446744073709551615 := by rw [← hf]; exact Nat.le_of_lt_succ (hB.ok.getD (by decide) _)
    have hp0b : p0 ≤ 18446744073709551615 := by rw [← hp0]; exact Nat.le_of_lt_succ (hco.getD (by decide) _)
    have hp1b : p1 ≤ 18446744073709551615 := by rw [← hp1]; exact Nat.le_of_lt_succ (hco.getD (by decide) _)
    have hD0 : 0 < D := by rw [← hD.out]; exact hN.pos (by decide) (by rw [hB.len]; exact hn)
    obtain ⟨U, hU⟩ : ∃ U, D * bs .u64 ^ k = U := ⟨_, rfl⟩
    have hU0 : 0 < U := by rw [← hU]; exact Nat.mul_pos hD0 (Nat.pow_pos (by decide))
    obtain ⟨dg, hdg⟩ : ∃ dg, gdig p1 p0 f = dg := ⟨_, rfl⟩
    have HQ := Lib.hid (show vl (bs .u64) cur / U ≤ dg by
      rw [← hdg, ← hU]
      unfold gdig
      split
      · exact Nat.le_of_lt_succ (quo_lt (b := bs .u64) (by rw [hU]; exact hU0) hbd.out)
      · exact guess_ge (b := bs .u64) (n := n - 1) (by decide) hco hB.ok (by rw [hB.len]; omega) hD.out hf hf0 hbd.out (by rw [hcl.out]; omega) hp0 (by rw [show k + (n - 1 + 1) = k + n by omega]; exact hp1))
    have hdgb : dg ≤ 18446744073709551615 := by
      rw [← hdg]
      unfold gdig
      split
      · omega
      · exact Nat.le_of_lt_succ (div1_lt_b (b := bs .u64) (by omega) (Nat.lt_succ_of_le hp0b))
    have Hgp0 := Lib.hid (show ((cur.drop k).take (n + 1)).getD (n - 1) 0 = p0 by
      rw [← hp0]; simp only [List.getD_eq_getElem?_getD, List.getElem?_take, List.getElem?_drop]; rw [if_pos (by omega)])
    have Hgp1 := Lib.hid (show ((cur.drop k).take (n + 1)).getD n 0 = p1 by
      rw [← hp1]; simp only [List.getD_eq_getElem?_getD, List.getElem?_take, List.getElem?_drop]; rw [if_pos (by omega)])
    have hz := Lib.hid (show vl (bs .u64) (cur.drop (k + n + 1)) = 0 by
      rw [show k + n + 1 = k + 1 + n by omega]; exact top_zero hB.ok hB.len hD.out hbd.out)
    have Hf := Lib.hid hf
    have Hdg := Lib.hid hdg
    have HU := Lib.hid hU
    have Hp1 := Lib.hid hp1
    have hkn : (k : Int) + (n : Int) < (m : Int) := by omega
    clear hf hdg hU hp0 hp1 hD0
    go_wp2_with fail
    rw [show k + n + 1 - k = n + 1 by omega]
    refine (guessDigit_any _ B n (ca - k) cb p0 p1 f _ ys wr hP hB2 hn Hgp0 Hgp1 Hf hf0).mono ?_
    rintro e w2 ⟨rfl, nd, rfl⟩
    rw [Hdg.out]
    go_wp2_with fail
    refine (decreaseTimes_any gr k n (ca - k) B cb cur ys dg (wr.drewN nd) (hcm.drewN nd) hco (by rw [hcl.out]; omega) (by omega) (hB2.drewN nd) (fun _ => hne.out) hdgb).mono ?_
    rintro e w3 ⟨br, cur1, rfl, hM1, hok1, hl1, hv1, hd1, hbrb, hon1⟩
    have hp11 : cur1.getD (k + n) 0 = p1 := (getD_drop hd1.out).trans Hp1.out
    have hlen1 : Hid (k + n < cur1.length) := by show _ < _; rw [hl1.out, hcl.out]; exact hkb
    have hcc := hM1.cell hlen1.out
    rw [hp11] at hcc
    have hcf := hM1.frozen (k + n)
    obtain ⟨s, hws, hsb, hs⟩ := sub_wrap p1 br hp1b hbrb
    have HC := Lib.hid (corr_start (b := bs .u64) (s := s) hok1 (Nat.lt_succ_of_le hsb) HU.out hU0 rfl hD.out hlen1.out hv1.out hd1.out hz.out hp11 HQ.out hs.out)
    obtain ⟨sb, hsb2⟩ : ∃ sb, decide (p1 < br) = sb := ⟨_, rfl⟩
    rw [hsb2] at HC
    have hsb3 : decide ((p1 : Int) < (br : Int)) = sb := by rw [← hsb2]; congr 1; exact propext (by omega)
    have hM2 := hM1.set_ (k + n) s
    have hok2 := hok1.set (k + n) (Nat.lt_succ_of_le hsb)
    have hl2 := Lib.hid (show (cur1.set (k + n) s).length = m by rw [List.length_set, hl1.out, hcl.out])
    have hgr2 := Lib.hid (Gr.trans (hgr.drewN nd) (show Gr gr (wr.drewN nd) (w3.setCell ⟨gr, k + n, none⟩ (.int .u64 (s : Int))) from (hon1.set_ (k + n) _).1))
    have hqm2 := Lib.hid (((hon1.set_ (k + n) (.int .u64 (s : Int))).mz_ (hqm.drewN nd) (by omega)))
    clear hp11 hcm hB2 hP hbd hv1 hd1 hM1 hok1 hl1 Hgp0 Hgp1 hz HQ hs hco hcl
    go_wp2
    generalize hw4 : w3.setCell ⟨gr, k + n, none⟩ (.int .u64 (s : Int)) = w4 at *
    generalize hcur2 : cur1.set (k + n) s = cur2 at *
    clear hcc hcf hws hsb3 hon1 hlen1 hw4 hcur2 hsb2 hsb hbrb
    go_loopg [9, 11] dg (fun gd dv sv wr5 => ∃ (d : Nat) (sh : Bool) (cur3 : List Nat), dv = .int .u64 d ∧ sv = .bool sh ∧ Hid (gd = d) ∧ d ≤ 18446744073709551615 ∧ Hid (Corr (bs .u64) U (vl (bs .u64) cur) k n d sh cur3) ∧ Mk wr5 gr 82 .u64 cur3 ∧ Hid (cur3.length = m) ∧ Okd (bs .u64) cur3 ∧ Gr gr w wr5 ∧ Mz wr5 w.heap.size 82 .u64 (m - n) quo)
    case atStart => exact ⟨dg, sb, cur2, rfl, rfl, rfl, hdgb, HC, hM2, hl2, hok2, hgr2.out, hqm2.out⟩
    case round =>
      clear HC hM2 hl2 hok2 hgr2 hqm2 hqm hdgb Hdg
      obtain ⟨d, sh, cur3, rfl, rfl, hgd, hdb, hC, hM3, hl3, hok3, hgr3, hqm3⟩ := hrel
      cases sh with
      | false =>
        have hqlen : Hid (k < quo.length) := by show _ < _; rw [hql.out]; omega
        have hcc := hqm3.mk.cell hqlen.out
        have hcf := hqm3.mk.frozen k
        obtain ⟨qv, hqv⟩ : ∃ qv, quo.getD k 0 = qv := ⟨_, rfl⟩
        rw [hqv] at hcc
        clear hqv
        have hkq : k < m - n := by omega
        have HE := Lib.hid (corr_done hU0 hC.out)
        have HN := Lib.hid (quo_next (b := bs .u64) HU.out hqlen.out hqz.out hval.out HE.out.1)
        rcases Nat.eq_zero_or_pos k with h0 | h0
        · subst h0
          have HT := Lib.hid (quo_top (V := vl (bs .u64) cur3) (Q := vl (bs .u64) (quo.set 0 d)) HN.out.1 (by have h9 := HE.out.2; rw [← HU.out, Nat.pow_zero, Nat.mul_one] at h9; exact h9))
          have hqm4 := hqm3.set_ 0 d
          have hM4 := hM3.far (p := ⟨w.heap.size, 0, none⟩) (by show gr ≠ w.heap.size; omega) (.int .u64 (d : Int))
          have hgr4 := hgr3.new ((Onl.refl w.heap.size _).set_ 0 (.int .u64 (d : Int))) (Nat.le_refl _)
          go_wp2
          try rw [Exit.noGoto_ret]
          go_ret
          exact ⟨_, _, rfl, hM4, hl3, hok3, HT.out.2, hqm4, show _ = _ by rw [List.length_set]; exact hql.out, hqo.set _ (Nat.lt_succ_of_le hdb), HT.out.1, hgr4⟩
        · have hpk := i64_pred k h0
          have hk0 : ((k : Int) == 0) = false := by rw [beq_eq_false_iff_ne]; omega
          have hqm4 := hqm3.set_ k d
          have hM4 := hM3.far (p := ⟨w.heap.size, k, none⟩) (by show gr ≠ w.heap.size; omega) (.int .u64 (d : Int))
          have hgr4 := hgr3.new ((Onl.refl w.heap.size _).set_ k (.int .u64 (d : Int))) (Nat.le_refl _)
          go_wp2
          go_roundg k
          case measure => have := hgk.out; omega
          case rel => exact ⟨k - 1, cur3, quo.set k d, rfl, show _ = _ by omega, ⟨by omega, hl3, show _ = _ by rw [List.length_set]; exact hql.out, hok3, hqo.set _ (Nat.lt_succ_of_le hdb), hM4, hqm4, show _ = _ by rw [show k - 1 + 1 = k by omega]; exact HN.out.2, HN.out.1, show _ < _ by rw [show k - 1 + 1 = k by omega, HU.out]; exact HE.out.2, hgr4⟩⟩
      | true =>
        have hB5 := grown_dg hgr3 hB (fun _ => hne.out)
        have HD1 := Lib.hid (show 1 ≤ d by have h9 := hC.out.2; rw [if_pos rfl] at h9; exact Nat.lt_of_le_of_lt (Nat.zero_le _) h9.2)
        have hd1 : 1 ≤ d := HD1.out
        have hpd := i64_pred d hd1
        have hw1 : IntKind.u64.wrap ((d : Int) - 1) = ((d - 1 : Nat) : Int) := by rw [hpd]; exact IntWalk.u64_in _ (by omega)
        go_wp2_with fail
        refine (increase_any gr k (n + 1) (ca - k) B n cb cur3 ys _ hM3 hok3 (by rw [hl3.out]; omega) (by omega) (by omega) hB5 (by omega) (fun _ => hne.out)).mono ?_
        rintro e w6 ⟨c, cur6, rfl, hc1, hM6, hok6, hl6, hv6, hd6, hon6⟩
        have HCn := Lib.hid (corr_next (b := bs .u64) hok6 HU.out hU0 hD.out (by rw [hl6.out, hl3.out]; omega) hC.out hc1 hv6.out hd6.out)
        go_wp2
        go_roundg (d - 1)
        case measure => have := hgd.out; omega
        case rel => exact ⟨d - 1, _, cur6, rfl, rfl, rfl, by omega, HCn.out.2, hM6, show _ = _ by rw [hl6.out, hl3.out], hok6, hgr3.trans hon6.1, hon6.mz_ hqm3 (by omega)⟩
end Go.Proofs.YtbgihlfblmilmaaGreatDoor.Fr
