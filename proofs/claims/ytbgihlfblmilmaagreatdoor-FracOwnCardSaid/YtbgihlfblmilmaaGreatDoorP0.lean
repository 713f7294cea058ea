/- The program's natural numbers (digits of 64 bits): each function returns what its Lean counterpart says. -/
import Derived.Maps.AppendAt
import Derived.Test.YtbgihlfblmilmaaGreatDoorNum
import Derived.Test.YtbgihlfblmilmaaGreatDoorMem5
import Derived.Test.YtbgihlfblmilmaaGreatDoorShelf
import Derived.Laws.Externs
namespace Go.Proofs.YtbgihlfblmilmaaGreatDoor.Fr
open Go.RowKit Num

set_option maxHeartbeats 400000 in
theorem trim64_any (A : Option Addr) (n c : Nat) (xs : List Nat) (w : World) (h : Dg .u64 w A n c xs) :
    Calls Tryz.prog 119 #[.slice A n c] w fun e w' => e = .returned (.slice A (tl xs) c) ∧ w = w' := by
  have hn := h.cap
  have hc := h.top
  have HT : Hid (tln xs n = tl xs) := by rw [tl, h.len]; rfl
  go_enter Tryz.func119, Tryz.ntmps119
  go_wp2
  go_loop [3] (fun i => ∃ k : Nat, k ≤ n ∧ i = .int .i64 k ∧ Hid (tln xs k = tl xs)) (fun i => (intOf i).toNat)
  case atStart => exact ⟨n, Nat.le_refl _, rfl, HT⟩
  case round =>
    obtain ⟨k, hk, rfl, hr⟩ := hrel
    cases k with
    | zero =>
      go_wp2
      go_ret
      exact ⟨ret_sl hr.out, rfl⟩
    | succ k =>
      obtain ⟨ad, x, rfl, hcell, hx⟩ := h.at_ (j := k) (by omega)
      by_cases h0 : x = 0
      · have HS : Hid (tln xs (k + 1) = tln xs k) := tln_zero (hx.out.1.trans h0)
        have hb : ((x : Int) == 0) = true := by rw [h0]; rfl
        clear h0
        go_wp2
        go_round
        case rel => exact ⟨k, by omega, rfl, HS.out.symm.trans hr.out⟩
        case measure => simp [intOf]
      · have HS : Hid (tln xs (k + 1) = k + 1) := tln_not (by rw [hx.out.1]; exact h0)
        have hb : ((x : Int) == 0) = false := by rw [beq_eq_false_iff_ne]; omega
        clear h0
        go_wp2
        go_ret
        exact ⟨ret_sl (HS.out.symm.trans hr.out), rfl⟩

theorem nrm_one64 {xs : List Nat} {x : Nat} (h : xs.length = 1) (hx : xs.getD 0 0 = x) : vl (bs .u64) xs = x := by
  match xs, h with
  | [y], _ => simpa [vl] using hx

theorem isOne_any (A : Option Addr) (n c : Nat) (xs : List Nat) (w : World) (h : Dg .u64 w A n c xs) (hn : Nrm xs) (x : Nat) (hx : Hid (vl (bs .u64) xs = x)) (b : Bool) (hb : decide (x = 1) = b) :
    Calls Tryz.prog 74 #[.slice A n c] w fun e w' => e = .returned (.bool b) ∧ w = w' := by
  by_cases h0 : n = 1
  · subst h0
    obtain ⟨ad, y, rfl, hcx, hy⟩ := h.at_ (j := 0) (by omega)
    have hcx : w.cell? ad = some (.int .u64 y) := hcx
    have hv := nrm_one64 h.len hy.out.1
    have hxy : x = y := hx.out.symm.trans hv
    by_cases h2 : y = 1
    · have ht : ((y : Int) == 1) = true := by rw [beq_iff_eq]; omega
      have hf := Lib.hid (show true = b by rw [← hb, hxy]; exact (decide_eq_true h2).symm)
      clear h2 hv hxy hb
      go_enter Tryz.func74, Tryz.ntmps74
      go_wp2
      go_ret
      exact ⟨ret_bool hf.out, rfl⟩
    · have ht : ((y : Int) == 1) = false := by rw [beq_eq_false_iff_ne]; omega
      have hf := Lib.hid (show false = b by rw [← hb, hxy]; exact (decide_eq_false h2).symm)
      clear h2 hv hxy hb
      go_enter Tryz.func74, Tryz.ntmps74
      go_wp2
      go_ret
      exact ⟨ret_bool hf.out, rfl⟩
  · have ht : ((n : Int) == 1) = false := by rw [beq_eq_false_iff_ne]; omega
    have hf := Lib.hid (show false = b by
      rw [← hb]
      refine (decide_eq_false fun hv => ?_).symm
      have := one_of one_lt_bs64 hn h.ok (hx.out.trans hv)
      have hl := h.len
      rw [this] at hl
      exact h0 hl.symm)
    clear h0 hb
    go_enter Tryz.func74, Tryz.ntmps74
    go_wp2
    go_ret
    exact ⟨ret_bool hf.out, rfl⟩

theorem one64_any (w : World) : Calls Tryz.prog 118 #[] w fun e w' => e = .returned (.slice (some ⟨w.heap.size, 0, none⟩) 1 1) ∧ w' = w.alloc (.cells #[.int .u64 1] 82) := by
  go_enter Tryz.func118, Tryz.ntmps118
  go_wp2
  go_ret
  exact ⟨rfl, rfl⟩

end Go.Proofs.YtbgihlfblmilmaaGreatDoor.Fr

namespace Go.Proofs.YtbgihlfblmilmaaGreatDoor.Fr
open Go.RowKit Num

/-- math/bits.Add64: an equation of the call -/
theorem add64_run (x y c : Nat) (hc : c ≤ 1) (w : World) : (callFunc 164 #[.int .u64 (x : Int), .int .u64 (y : Int), .int .u64 (c : Int)]).run Tryz.prog w =
    .ok (.value (.tuple #[.int .u64 (((x + y + c) % 18446744073709551616 : Nat) : Int), .int .u64 (((x + y + c) / 18446744073709551616 : Nat) : Int)])) w := by
  rw [run_callFunc_extern Tryz.func164 (by kernel_rfl) (by kernel_rfl) (by kernel_rfl) (e := add64Entry) (by kernel_rfl), run_add64 x y c (by omega) (by omega) (by omega) (by omega)]
  simp only [Result.andThen]
  congr 5 <;> omega

/-- a sum of two digits, without a carry that comes in -/
theorem add64_two (x y : Nat) (hx : x ≤ 18446744073709551615) (hy : y ≤ 18446744073709551615) : ∃ s c : Nat, (∀ w, (callFunc 164 #[.int .u64 (x : Int), .int .u64 (y : Int), .int .u64 0]).run Tryz.prog w = .ok (.value (.tuple #[.int .u64 (s : Int), .int .u64 (c : Int)])) w) ∧
    Hid (s + bs .u64 * c = x + y) ∧ s ≤ 18446744073709551615 ∧ c ≤ 1 :=
  ⟨_, _, fun w => add64_run x y 0 (by omega) w, by show _ + 18446744073709551616 * _ = _; omega, by omega, by omega⟩

theorem mul64_two (x y : Nat) (hx : x ≤ 18446744073709551615) (hy : y ≤ 18446744073709551615) (w : World) :
    Calls Tryz.prog 170 #[.int .u64 (x : Int), .int .u64 (y : Int)] w fun e w' => ∃ hi lo : Nat, e = .returned (.tuple #[.int .u64 (hi : Int), .int .u64 (lo : Int)]) ∧ Hid (lo + bs .u64 * hi = x * y) ∧ lo ≤ 18446744073709551615 ∧ hi ≤ 18446744073709551614 ∧ w = w' :=
  (Tryz.bits_Mul64 x y (by omega) (by omega) w).mono fun e w' ⟨he, hw⟩ => by
    have hb := mul_bd64 hx hy
    exact ⟨_, _, he, by show _ + 18446744073709551616 * _ = _; omega, by omega, by omega, hw.symm⟩

structure IncRel (w : World) (g o n : Nat) (cur0 ys : List Nat) (d : Nat) (cv iv : Value) (wr : World) (j cy : Nat) (cur : List Nat) : Prop where
  i : iv = .int .i64 j
  cv : cv = .int .u64 cy
  jb : j ≤ n
  cb : cy ≤ 18446744073709551615
  len : Hid (cur.length = cur0.length)
  ok : Okd (bs .u64) cur
  own : Mk wr g 82 .u64 cur
  val : Hid (vl (bs .u64) cur + bs .u64 ^ (o + j) * cy = vl (bs .u64) cur0 + bs .u64 ^ o * (vl (bs .u64) (ys.take j) * d))
  drop : Hid (cur.drop (o + j) = cur0.drop (o + j))
  onl : Onl g w wr

theorem incRel_next {w wr : World} {g o n j cy dg y d s c1 c2 lo hi : Nat} {cur0 cur ys : List Nat} (hj : j < n) (hk : o + n ≤ cur.length) (hy : ys.getD j 0 = y) (hdg : cur.getD (o + j) 0 = dg) (s1 : Nat)
    (hm : lo + bs .u64 * hi = y * d) (ha : s1 + bs .u64 * c1 = lo + cy) (hb : s + bs .u64 * c2 = dg + s1) (hs : s ≤ 18446744073709551615) (hcb : hi + c1 + c2 ≤ 18446744073709551615)
    (hcl : cur.length = cur0.length) (hco : Okd (bs .u64) cur) (hown : Mk wr g 82 .u64 cur)
    (hval : vl (bs .u64) cur + bs .u64 ^ (o + j) * cy = vl (bs .u64) cur0 + bs .u64 ^ o * (vl (bs .u64) (ys.take j) * d)) (hdrop : cur.drop (o + j) = cur0.drop (o + j)) (hon : Onl g w wr) :
    ∃ j' cy' cur', IncRel w g o n cur0 ys d (.int .u64 ((hi : Int) + c1 + c2)) (.int .i64 ((j : Int) + 1)) (wr.setCell ⟨g, o + j, none⟩ (.int .u64 s)) j' cy' cur' := by
  refine ⟨j + 1, hi + c1 + c2, cur.set (o + j) s, rfl, by congr 1, by omega, hcb, by simpa [Hid] using hcl, hco.set _ (Nat.lt_succ_of_le hs), hown.set_ _ _, ?_, ?_, hon.set_ _ _⟩
  · refine inct_step (by omega) hdg hy hval ?_
    have e : bs .u64 * (hi + c1 + c2) = bs .u64 * hi + bs .u64 * c1 + bs .u64 * c2 := by rw [Nat.mul_add, Nat.mul_add]
    omega
  · show _ = _
    rw [← Nat.add_assoc, List.drop_set_of_lt (by omega)]
    have := congrArg (List.drop 1) hdrop
    simpa [List.drop_drop] using this

set_option maxHeartbeats 1600000 in
set_option maxRecDepth 100000 in
theorem increaseTimes_any (g o n ca : Nat) (B : Option Addr) (cb : Nat) (cur0 ys : List Nat) (d : Nat) (w : World) (hM : Mk w g 82 .u64 cur0) (hok : Okd (bs .u64) cur0) (hk : o + n ≤ cur0.length) (hca : n ≤ ca)
    (hB : Dg .u64 w B n cb ys) (hne : Hid (0 < n → ∀ ad, B = some ad → ad.block ≠ g)) (hd : d ≤ 18446744073709551615) :
    Calls Tryz.prog 163 #[.slice (some ⟨g, o, none⟩) n ca, .slice B n cb, .int .u64 (d : Int)] w fun e w' => ∃ cy cur : _, e = .returned (.int .u64 ((cy : Nat) : Int)) ∧
      Mk w' g 82 .u64 cur ∧ Okd (bs .u64) cur ∧ Hid (cur.length = cur0.length) ∧ Hid (vl (bs .u64) cur + bs .u64 ^ (o + n) * cy = vl (bs .u64) cur0 + bs .u64 ^ o * (vl (bs .u64) ys * d)) ∧ Hid (cur.drop (o + n) = cur0.drop (o + n)) ∧ cy ≤ 18446744073709551615 ∧ Onl g w w' := by
  have hk := Lib.hid hk
  have hcb1 := hB.cap
  have hcb2 := hB.top
  have hyl := Lib.hid hB.len
  go_enter Tryz.func163, Tryz.ntmps163
  go_wp2
  go_loopw [7, 14] (fun cv iv wr => ∃ j cy cur, IncRel w g o n cur0 ys d cv iv wr j cy cur) (fun _ iv _ => n - (intOf iv).toNat)
  case atStart => exact ⟨0, 0, cur0, rfl, rfl, by omega, by omega, rfl, hok, hM, by show _ = _; simp [vl], rfl, Onl.refl _ _⟩
  case round =>
    clear hM hok
    obtain ⟨j, cy, cur, rfl, rfl, hjb, hcb, hcl, hco, hown, hval, hdrop, hon⟩ := hrel
    by_cases hjn : j < n
    · have hBr := hon.dg hB hne.out
      obtain ⟨ad, y, rfl, hcy, hy⟩ := hBr.at_ hjn
      have hyb : y ≤ 18446744073709551615 := Nat.le_of_lt_succ hy.out.2
      have hlen : Hid (o + j < cur.length) := by show _ < _; have := hk.out; have := hcl.out; omega
      have hcc := hown.cell (i := o + j) hlen.out
      have hcf := hown.frozen (o + j)
      obtain ⟨dg, hdg⟩ : ∃ dg, cur.getD (o + j) 0 = dg := ⟨_, rfl⟩
      rw [hdg] at hcc
      have hdb : dg ≤ 18446744073709551615 := by rw [← hdg]; exact Nat.le_of_lt_succ (hco.getD (by decide) _)
      have Hdg := Lib.hid hdg
      clear hdg
      go_wp2_with fail
      refine (mul64_two y d hyb hd wr).mono ?_
      rintro e w' ⟨hi, lo, rfl, hm, hlo, hhi, rfl⟩
      obtain ⟨s1, c1, hadd1, hs1, hsb1, hc1⟩ := add64_two lo cy hlo hcb
      obtain ⟨s2, c2, hadd2, hs2, hsb2, hc2⟩ := add64_two dg s1 hdb hsb1
      have hcarry : hi + c1 + c2 ≤ 18446744073709551615 := by
        have h1 := hm.out
        have h2 := hs1.out
        have h3 := hs2.out
        have h4 := mul_bd64 hyb hd
        have e : bs .u64 = 18446744073709551616 := rfl
        rw [e] at h1 h2 h3
        omega
      have R := incRel_next (w := w) hjn (by have := hk.out; have := hcl.out; omega) hy.out.1 Hdg.out s1 hm.out hs1.out hs2.out hsb2 hcarry hcl.out hco hown hval.out hdrop.out hon
      go_wp2
      go_roundw
      case rel => exact R
      case measure => simp [intOf]; omega
    · obtain rfl : j = n := by omega
      have hv := hval.out
      rw [List.take_of_length_le (by rw [hyl.out]; omega)] at hv
      have Hv := Lib.hid hv
      clear hv
      go_wp2
      go_ret
      exact ⟨cy, cur, rfl, hown, hco, hcl, Hv.out, hdrop, hcb, hon⟩
end Go.Proofs.YtbgihlfblmilmaaGreatDoor.Fr

namespace Go.Proofs.YtbgihlfblmilmaaGreatDoor.Fr
open Go.RowKit Num

theorem info_u64 : (Tryz.prog.info? 82).map (fun i => (i.zero, i.size, i.bytes)) = some (some (.int .u64 0), 1, 8) := by kernel_rfl
theorem make_u64 (n : Nat) (hn : n ≤ 2000000) (w : World) :
    (Instr.makeSlice 65 (.int .i64 (n : Int)) (.int .i64 (n : Int))).run Tryz.prog w = .ok (.slice (some ⟨w.heap.size, 0, none⟩) n n) (w.alloc (.cells (dcs .u64 (zs n)).toArray 82)) := by
  obtain ⟨i0, hi, hz0, hz1, hz2⟩ := info_parts info_u64
  have := run_make (P := Tryz.prog) w 65 82 i0 (.int .u64 0) Tryz.underlying65 hi hz0 .i64 .i64 n n (by omega) (by omega) (by rw [hz2]; omega) (by omega)
  rw [this, hz1]
  have e : Value.cells (Value.int .u64 0) = #[Value.int .u64 0] := rfl
  rw [e, made_zs]
  simp

theorem Mk.dg64 {w : World} {g : Nat} {t : TypeId} {k : IntKind} {xs : List Nat} (h : Mk w g t k xs) {n : Nat} (hn : xs.length = n) (ht : n ≤ 9223372036854775807) (hok : Okd (bs k) xs) : Dg k w (some ⟨g, 0, none⟩) n n xs :=
  ⟨hn, Nat.le_refl _, ht, hok, fun _ => ⟨_, rfl, fun j x hx => by
    have hj : j < xs.length := by
      rcases Nat.lt_or_ge j xs.length with h | h
      · exact h
      · rw [List.getElem?_eq_none h] at hx; cases hx
    have hc := h.cell hj
    rw [getD_in hj] at hc
    rw [List.getElem?_eq_getElem hj] at hx
    injection hx with hx
    subst hx
    have e : (⟨g, 0, none⟩ : Addr).add j = ⟨g, j, none⟩ := by
      unfold Addr.add
      split
      · subst j; rfl
      · simp
    rw [e]; exact hc⟩⟩

structure MulRel (w : World) (n n' : Nat) (xs ys : List Nat) (iv : Value) (wr : World) (k : Nat) (cur : List Nat) : Prop where
  i : iv = .int .i64 k
  kb : k ≤ n'
  len : Hid (cur.length = n + n')
  ok : Okd (bs .u64) cur
  own : Mk wr w.heap.size 82 .u64 cur
  val : Hid (vl (bs .u64) cur = vl (bs .u64) xs * vl (bs .u64) (ys.take k))
  drop : Hid (cur.drop (n + k) = zs (n' - k))
  bel : Below w.heap.size w wr

set_option maxHeartbeats 1600000 in
set_option maxRecDepth 100000 in
theorem mulPlain_any (A A' : Option Addr) (n c n' c' : Nat) (xs ys : List Nat) (w : World) (h : Dg .u64 w A n c xs) (h' : Dg .u64 w A' n' c' ys) (hn : n ≤ 1000000) (hn' : n' ≤ 1000000) :
    Calls Tryz.prog 139 #[.slice A n c, .slice A' n' c'] w (RetF .u64 w (vl (bs .u64) xs * vl (bs .u64) ys) (n + n')) := by
  have hmk := make_u64 (n + n') (by omega)
  have e0 : (((n + n' : Nat) : Int)) = (n : Int) + (n' : Int) := by omega
  rw [e0] at hmk
  clear e0
  have hyl := Lib.hid h'.len
  go_enter Tryz.func139, Tryz.ntmps139
  go_wp2
  go_loopw [16] (fun iv wr => ∃ k cur, MulRel w n n' xs ys iv wr k cur) (fun iv _ => n' - (intOf iv).toNat)
  case atStart =>
    exact ⟨0, zs (n + n'), rfl, by omega, zs_len _, zs_ok (by decide) _, Mk.new _ _ _ _, show _ = _ by rw [zs_vl]; simp [vl], show _ = _ by unfold zs; rw [List.drop_replicate]; congr 1; omega, (Below.refl _ _).alloc (Nat.le_refl _) _⟩
  case round =>
    obtain ⟨k, cur, rfl, hkb, hcl, hco, hown, hval, hdrop, hbel⟩ := hrel
    by_cases hkn : k < n'
    · obtain ⟨ad', y, rfl, hcy, _, hy⟩ := h'.at2 hbel hkn
      have hyb : y ≤ 18446744073709551615 := Nat.le_of_lt_succ hy.out.2
      go_wp2_with fail
      refine (increaseTimes_any w.heap.size k n _ A c cur xs y wr hown hco (by rw [hcl.out]; omega) (by omega) (h.below hbel) (fun hp ad he => by have := h.blt hp ad he; omega) hyb).mono ?_
      rintro e w2 ⟨cy, cur', rfl, hM2, hok2, hl2, hv2, hd2, hcyb, hon2⟩
      have hlen : Hid (k + n < cur'.length) := by show _ < _; rw [hl2.out, hcl.out]; omega
      have hz := Lib.hid (drop_zs (show cur'.drop (k + n) = zs (n' - k) by rw [hd2.out, Nat.add_comm]; exact hdrop.out) (by omega))
      have hcc := hM2.cell hlen.out
      rw [hz.out.1] at hcc
      have hcf := hM2.frozen (k + n)
      have hbel2 := hbel.trans (hon2.below (Nat.le_refl _))
      go_wp2
      go_roundw
      case rel =>
        exact ⟨k + 1, cur'.set (k + n) cy, by go_num, hkn, show _ = _ by rw [List.length_set, hl2.out, hcl.out], hok2.set _ (Nat.lt_succ_of_le hcyb), hM2.set_ _ _, show _ = _ from mul_next hlen.out hz.out.1 hy.out.1 hval.out hv2.out,
          show _ = _ by rw [show n + (k + 1) = k + n + 1 by omega, List.drop_set_of_lt (by omega), hz.out.2]; congr 1, hbel2.setCell (Nat.le_refl _) _⟩
      case measure => simp [intOf]; omega
    · obtain rfl : k = n' := by omega
      have hD := hown.dg64 hcl.out (by omega) hco
      have hv := hval.out
      rw [List.take_of_length_le (by rw [hyl.out]; omega)] at hv
      have Hv := Lib.hid hv
      clear hv
      go_wp2_with fail
      refine (trim64_any _ _ _ _ _ hD).mono ?_
      rintro e w' ⟨rfl, rfl⟩
      go_wp2
      go_ret
      exact RetF.tr hD Hv.out (Nat.le_refl _) hbel (fun ad he => by injection he with he; subst he; exact Nat.le_refl _)
end Go.Proofs.YtbgihlfblmilmaaGreatDoor.Fr

namespace Go.Proofs.YtbgihlfblmilmaaGreatDoor.Fr
open Go.RowKit Num

/-- the product of two numbers of which the shorter one has fewer than 40 digits -/
theorem mul_any (A A' : Option Addr) (n c n' c' : Nat) (xs ys : List Nat) (w : World) (h : Dg .u64 w A n c xs) (h' : Dg .u64 w A' n' c' ys) (hn : n ≤ 1000000) (hn' : n' ≤ 1000000) (hm : min n n' < 40) :
    Calls Tryz.prog 112 #[.slice A n c, .slice A' n' c'] w (RetF .u64 w (vl (bs .u64) xs * vl (bs .u64) ys) (n + n')) := by
  by_cases hl : n < n'
  · have hlt : n < 40 := by omega
    go_enter Tryz.func112, Tryz.ntmps112
    go_wp2_with fail
    refine (mulPlain_any _ _ _ _ _ _ _ _ _ h' h hn' hn).mono ?_
    rintro e w' ⟨A1, m1, c1, us, rfl, hD, hN, hv, hm1, hb, hf⟩
    go_wp2
    go_ret
    exact ⟨A1, m1, c1, us, rfl, hD, hN, show _ = _ by rw [hv.out, Nat.mul_comm], by omega, hb, hf⟩
  · have hlt : n' < 40 := by omega
    go_enter Tryz.func112, Tryz.ntmps112
    go_wp2_with fail
    refine (mulPlain_any _ _ _ _ _ _ _ _ _ h h' hn hn').mono ?_
    rintro e w' ⟨A1, m1, c1, us, rfl, hD, hN, hv, hm1, hb, hf⟩
    go_wp2
    go_ret
    exact ⟨A1, m1, c1, us, rfl, hD, hN, hv, hm1, hb, hf⟩

set_option maxHeartbeats 800000 in
theorem cmp64_any (A A' : Option Addr) (n c n' c' : Nat) (us vs : List Nat) (w : World) (k1 : Dg .u64 w A n c us) (k2 : Dg .u64 w A' n' c' vs) (hN1 : Nrm us) (hN2 : Nrm vs) (x y : Nat) (hx : Hid (vl (bs .u64) us = x)) (hy : Hid (vl (bs .u64) vs = y)) :
    Calls Tryz.prog 107 #[.slice A n c, .slice A' n' c'] w fun e w' => ∃ m, e = .returned (.int .i64 (ord x y)) ∧ w' = w.drewN m := by
  have lt1 := fun hl => Lib.hid (vl_lt_of_length (ys := vs) one_lt_bs64 k1.ok hN2 hl)
  have lt2 := fun hl => Lib.hid (vl_lt_of_length (ys := us) one_lt_bs64 k2.ok hN1 hl)
  rw [k1.len, k2.len] at lt1 lt2
  have hc1 := k1.cap
  have hc2 := k2.cap
  have ht1 := k1.top
  have ht2 := k2.top
  rcases Nat.lt_trichotomy n n' with hpq | hpq | hpq
  · have hne : ((n : Int) != (n' : Int)) = true := by rw [bne_iff_ne]; omega
    go_enter Tryz.func107, Tryz.ntmps107
    go_wp2
    go_ret
    exact ⟨0, ret_i64 (ord_lt (by rw [← hx.out, ← hy.out]; exact (lt1 hpq).out)).symm, rfl⟩
  · subst hpq
    clear lt1 lt2
    go_enter Tryz.func107, Tryz.ntmps107
    go_wp2
    go_loopw [5] (fun i wr => OrdRel us vs i ∧ ∃ m, wr = w.drewN m) (fun i _ => (intOf i + 1).toNat)
    case atStart => exact ⟨ordRel_start n k1.len k2.len, 0, rfl⟩
    case round =>
      obtain ⟨hor, m, rfl⟩ := hrel
      rcases hor with ⟨k, rfl, hk, hd⟩ | ⟨rfl, he⟩
      · have hkp : k < n := by have := k1.len; omega
        have Hd := Lib.hid hd
        clear hd hk
        obtain ⟨ad, a, rfl, hcx, ha⟩ := k1.at_ (j := k) hkp
        obtain ⟨ad', b, rfl, hcy, hb⟩ := k2.at_ (j := k) hkp
        have hcx' : (w.drewN m).cell? (ad.add k) = some (.int .u64 a) := hcx
        have hcy' : (w.drewN m).cell? (ad'.add k) = some (.int .u64 b) := hcy
        rcases Nat.lt_trichotomy a b with hxy | hxy | hxy
        · have HF := Lib.hid (dig_lt k1.ok (k1.len.trans k2.len.symm) Hd.out (by rw [k1.len]; exact hkp) ha.out.1 hb.out.1 hxy)
          go_wp2
          go_quiet (fail)
          go_wp2
          go_ret
          exact ⟨_, ret_i64 (ord_lt (by rw [← hx.out, ← hy.out]; exact HF.out)).symm, by rw [World.drewN_drewN]⟩
        · subst hxy
          have HF := Lib.hid (drop_down (k1.len.trans k2.len.symm) Hd.out (by rw [k1.len]; exact hkp) ha.out.1 hb.out.1)
          have hkl := Lib.hid (show k < us.length by rw [k1.len]; exact hkp)
          go_wp2
          go_quiet (fail)
          go_wp2
          go_quiet (fail)
          go_wp2
          go_roundw
          case rel => exact ⟨ordRel_next HF.out hkl.out, _, rfl⟩
          case measure => simp [intOf]
        · have HF := Lib.hid (dig_lt k2.ok (k2.len.trans k1.len.symm) Hd.out.symm (by rw [k2.len]; exact hkp) hb.out.1 ha.out.1 hxy)
          have hnl : ¬ (a : Int) < (b : Int) := by omega
          go_wp2
          go_quiet (fail)
          go_wp2
          go_quiet (fail)
          go_wp2
          go_ret
          exact ⟨_, ret_i64 (ord_gt (by rw [← hx.out, ← hy.out]; exact HF.out)).symm, by rw [World.drewN_drewN, World.drewN_drewN]⟩
      · have he' := Lib.hid he
        clear he
        go_wp2
        go_ret
        exact ⟨m, ret_i64 (ord_eq (by rw [← hx.out, ← hy.out, he'.out])).symm, rfl⟩
  · have hne : ((n : Int) != (n' : Int)) = true := by rw [bne_iff_ne]; omega
    go_enter Tryz.func107, Tryz.ntmps107
    go_wp2
    go_ret
    exact ⟨0, ret_i64 (ord_gt (by rw [← hx.out, ← hy.out]; exact (lt2 hpq).out)).symm, rfl⟩
end Go.Proofs.YtbgihlfblmilmaaGreatDoor.Fr

namespace Go.Proofs.YtbgihlfblmilmaaGreatDoor.Fr
open Go.RowKit Num

theorem size64_any (A : Option Addr) (n c : Nat) (xs : List Nat) (w : World) (h : Dg .u64 w A n c xs) (hN : Nrm xs) (hn : n ≤ 1000000) (x : Nat) (hx : Hid (vl (bs .u64) xs = x)) :
    Calls Tryz.prog 79 #[.slice A n c] w fun e w' => e = .returned (.int .i64 (bl x)) ∧ w = w' := by
  have hc2 := h.top
  cases n with
  | zero =>
    have hz : Hid (bl x = 0) := by rw [← hx.out, List.eq_nil_of_length_eq_zero h.len]; rfl
    go_enter Tryz.func79, Tryz.ntmps79
    go_wp2
    go_ret
    exact ⟨ret_i64 (by rw [hz.out]; rfl), rfl⟩
  | succ p =>
    obtain ⟨ad, y, rfl, hcx, hy⟩ := h.at_ (j := p) (by omega)
    have hyb : y ≤ 18446744073709551615 := Nat.le_of_lt_succ hy.out.2
    have hb := bl_vl64 h.len h.ok hy.out.1 (nrm_top hN h.len hy.out.1)
    rw [hx.out] at hb
    have Hb := Lib.hid hb
    clear hb
    have hbl : bl y ≤ 64 := bl_le (Nat.lt_of_le_of_lt hyb (by decide))
    have hne : (((p + 1 : Nat) : Int) == 0) = false := by rw [beq_eq_false_iff_ne]; omega
    have hL := bitLen_bl hyb
    have hlen : ∀ w, Calls Tryz.prog 125 #[.int .u64 (y : Int)] w fun e w' => e = .returned (.int .i64 ((bl y : Nat) : Int)) ∧ w = w' := fun w =>
      (Tryz.bits_Len64 (y : Int) w (by omega) (by omega)).mono fun e w' ⟨he, hw⟩ => ⟨by rw [he, Int.toNat_natCast, hL], hw.symm⟩
    have Hlen := Lib.hid hlen
    clear hlen hL
    go_enter Tryz.func79, Tryz.ntmps79
    go_wp2_with fail
    refine (Hlen.out _).mono ?_
    rintro e w' ⟨rfl, rfl⟩
    go_wp2
    go_ret
    exact ⟨ret_i64 (by rw [Hb.out]; omega), rfl⟩

structure FromRel (w : World) (n L : Nat) (xs : List Nat) (iv : Value) (wr : World) (k : Nat) (cur : List Nat) : Prop where
  i : iv = .int .i64 k
  kb : k ≤ n
  len : Hid (cur.length = L)
  ok : Okd (bs .u64) cur
  own : Mk wr w.heap.size 82 .u64 cur
  val : Hid (vl (bs .u64) cur = vl (bs .u32) (xs.take k))
  bel : Below w.heap.size w wr

set_option maxHeartbeats 1600000 in
set_option maxRecDepth 100000 in
theorem fromDigits_any (A : Option Addr) (n c : Nat) (xs : List Nat) (w : World) (h : Dg .u32 w A n c xs) (hn : n ≤ 1000000) :
    Calls Tryz.prog 72 #[.slice A n c] w (RetF .u64 w (vl (bs .u32) xs) ((n + 1) / 2)) := by
  have hc2 := h.top
  have hmk := make_u64 ((n + 1) / 2) (by omega)
  have e0 : ((((n + 1) / 2 : Nat) : Int)) = ((n : Int) + 1) / 2 := by omega
  rw [e0] at hmk
  clear e0
  have hxl := Lib.hid h.len
  go_enter Tryz.func72, Tryz.ntmps72
  go_wp2
  go_loopw [13] (fun iv wr => ∃ k cur, FromRel w n ((n + 1) / 2) xs iv wr k cur) (fun iv _ => n - (intOf iv).toNat)
  case atStart => exact ⟨0, zs ((n + 1) / 2), rfl, by omega, zs_len _, zs_ok (by decide) _, Mk.new _ _ _ _, show _ = _ by rw [zs_vl]; simp [vl], (Below.refl _ _).alloc (Nat.le_refl _) _⟩
  case round =>
    obtain ⟨k, cur, rfl, hkb, hcl, hco, hown, hval, hbel⟩ := hrel
    by_cases hkn : k < n
    · obtain ⟨ad, d, rfl, hcd, _, hd⟩ := h.at2 hbel hkn
      have hdb : d ≤ 4294967295 := Nat.le_of_lt_succ hd.out.2
      have hlen : Hid (k / 2 < cur.length) := by show _ < _; rw [hcl.out]; omega
      have hcc := hown.cell hlen.out
      have hcf := hown.frozen (k / 2)
      obtain ⟨cg, hcg⟩ : ∃ cg, cur.getD (k / 2) 0 = cg := ⟨_, rfl⟩
      rw [hcg] at hcc
      have F := from_step hco hlen.out hcg h.ok (by rw [hxl.out]; exact hkn) hd.out.1 hval.out
      have HF := Lib.hid F
      clear F hcg
      go_wp2_with fail
      go_region
      go_wp2
      go_roundw
      case rel =>
        have hw : IntKind.u64.wrap ((d : Int) * 2 ^ (32 * (k % 2))) = (d : Int) * 2 ^ (32 * (k % 2)) % 18446744073709551616 := by simp [IntKind.wrap, IntKind.bits, IntKind.signed]
        rw [hw, HF.out.2.1]
        exact ⟨k + 1, cur.set (k / 2) (cg + d * 2 ^ (32 * (k % 2))), by go_num, hkn, show _ = _ by rw [List.length_set]; exact hcl.out, hco.set _ HF.out.1, (hown.set_ _ _).drew, HF.out.2.2, (hbel.setCell (Nat.le_refl _) _).drew⟩
      case measure => simp [intOf]; omega
    · obtain rfl : k = n := by omega
      have hD := hown.dg64 hcl.out (by omega) hco
      have hv := hval.out
      rw [List.take_of_length_le (by rw [hxl.out]; omega)] at hv
      have Hv := Lib.hid hv
      clear hv
      go_wp2_with fail
      refine (trim64_any _ _ _ _ _ hD).mono ?_
      rintro e w' ⟨rfl, rfl⟩
      go_wp2
      go_ret
      exact RetF.tr hD Hv.out (Nat.le_refl _) hbel (fun ad he => by injection he with he; subst he; exact Nat.le_refl _)
end Go.Proofs.YtbgihlfblmilmaaGreatDoor.Fr
