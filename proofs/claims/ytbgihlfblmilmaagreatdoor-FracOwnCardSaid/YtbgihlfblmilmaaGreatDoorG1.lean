/- math/bits.Sub64, and sums and differences of the program's numbers, in place. -/
import Derived.Test.YtbgihlfblmilmaaGreatDoorP5
import Derived.Test.YtbgihlfblmilmaaGreatDoorPD
import Derived.Test.YtbgihlfblmilmaaGreatDoorMem5
import Derived.Shelf.Spec.BitsCarry
namespace Go.Proofs.YtbgihlfblmilmaaGreatDoor.Fr
open Go.RowKit Num

theorem sub64_run (x y c : Nat) (hc : c ≤ 1) (w : World) : (callFunc 171 #[.int .u64 (x : Int), .int .u64 (y : Int), .int .u64 (c : Int)]).run Tryz.prog w =
    .ok (.value (.tuple #[.int .u64 (((x + 18446744073709551616 - y - c) % 18446744073709551616 : Nat) : Int), .int .u64 ((if x < y + c then 1 else 0 : Nat) : Int)])) w := by
  rw [run_callFunc_extern Tryz.func171 (by kernel_rfl) (by kernel_rfl) (by kernel_rfl) (e := sub64Entry) (by kernel_rfl), run_sub64 x y c hc]
  rfl
/-- a difference of two digits and what is borrowed -/
theorem sub64_two (x y c : Nat) (hx : x ≤ 18446744073709551615) (hy : y ≤ 18446744073709551615) (hc : c ≤ 1) : ∃ s b : Nat, (∀ w, (callFunc 171 #[.int .u64 (x : Int), .int .u64 (y : Int), .int .u64 (c : Int)]).run Tryz.prog w = .ok (.value (.tuple #[.int .u64 (s : Int), .int .u64 (b : Int)])) w) ∧
    Hid (s + y + c = x + bs .u64 * b) ∧ s ≤ 18446744073709551615 ∧ b ≤ 1 := by
  refine ⟨_, _, fun w => sub64_run x y c hc w, ?_, by omega, by split <;> omega⟩
  show _ = _ + 18446744073709551616 * _
  split <;> omega
/-- a sum of two digits and a carry -/
theorem add64_three (x y c : Nat) (hx : x ≤ 18446744073709551615) (hy : y ≤ 18446744073709551615) (hc : c ≤ 1) : ∃ s d : Nat, (∀ w, (callFunc 164 #[.int .u64 (x : Int), .int .u64 (y : Int), .int .u64 (c : Int)]).run Tryz.prog w = .ok (.value (.tuple #[.int .u64 (s : Int), .int .u64 (d : Int)])) w) ∧
    Hid (s + bs .u64 * d = x + y + c) ∧ s ≤ 18446744073709551615 ∧ d ≤ 1 :=
  ⟨_, _, fun w => add64_run x y c hc w, by show _ + 18446744073709551616 * _ = _; omega, by omega, by omega⟩

theorem add64_one (x : Nat) (hx : x ≤ 18446744073709551615) : ∃ s d : Nat, (∀ w, (callFunc 164 #[.int .u64 (x : Int), .int .u64 0, .int .u64 1]).run Tryz.prog w = .ok (.value (.tuple #[.int .u64 (s : Int), .int .u64 (d : Int)])) w) ∧
    Hid (s + bs .u64 * d = x + 0 + 1) ∧ s ≤ 18446744073709551615 ∧ d ≤ 1 := add64_three x 0 1 hx (by omega) (by omega)
theorem sub64_one (x : Nat) (hx : x ≤ 18446744073709551615) : ∃ s d : Nat, (∀ w, (callFunc 171 #[.int .u64 (x : Int), .int .u64 0, .int .u64 1]).run Tryz.prog w = .ok (.value (.tuple #[.int .u64 (s : Int), .int .u64 (d : Int)])) w) ∧
    Hid (s + 0 + 1 = x + bs .u64 * d) ∧ s ≤ 18446744073709551615 ∧ d ≤ 1 := sub64_two x 0 1 hx (by omega) (by omega)

structure AddRel (w : World) (g o n : Nat) (cur0 ys : List Nat) (cv iv : Value) (wr : World) (j cy : Nat) (cur : List Nat) : Prop where
  i : iv = .int .i64 j
  cv : cv = .int .u64 cy
  jb : j ≤ n
  cb : cy ≤ 1
  len : Hid (cur.length = cur0.length)
  ok : Okd (bs .u64) cur
  own : Mk wr g 82 .u64 cur
  val : Hid (vl (bs .u64) cur + bs .u64 ^ (o + j) * cy = vl (bs .u64) cur0 + bs .u64 ^ o * vl (bs .u64) (ys.take j))
  drop : Hid (cur.drop (o + j) = cur0.drop (o + j))
  onl : Onl g w wr

theorem addRel_next {w wr : World} {g o n n' j cy dg y s cy' : Nat} {cur0 cur ys : List Nat} (hj : j < n) (hk : o + j < cur.length) (hy : ys.getD j 0 = y) (hdg : cur.getD (o + j) 0 = dg)
    (hs : s + bs .u64 * cy' = dg + y + cy) (hsb : s ≤ 18446744073709551615) (hcb : cy' ≤ 1) (hn : n ≤ n')
    (hcl : cur.length = cur0.length) (hco : Okd (bs .u64) cur) (hown : Mk wr g 82 .u64 cur)
    (hval : vl (bs .u64) cur + bs .u64 ^ (o + j) * cy = vl (bs .u64) cur0 + bs .u64 ^ o * vl (bs .u64) (ys.take j)) (hdrop : cur.drop (o + j) = cur0.drop (o + j)) (hon : Onl g w wr) :
    ∃ j2 cy2 cur2, AddRel w g o n' cur0 ys (.int .u64 (cy' : Int)) (.int .i64 ((j : Int) + 1)) (wr.setCell ⟨g, o + j, none⟩ (.int .u64 s)) j2 cy2 cur2 := by
  refine ⟨j + 1, cy', cur.set (o + j) s, by congr 1, rfl, by omega, hcb, by simpa [Hid] using hcl, hco.set _ (Nat.lt_succ_of_le hsb), hown.set_ _ _, inc_step hk hdg hy hval hs, ?_, hon.set_ _ _⟩
  show _ = _
  rw [← Nat.add_assoc, List.drop_set_of_lt (by omega)]
  have := congrArg (List.drop 1) hdrop
  simpa [List.drop_drop] using this

structure AddRel2 (w : World) (g o n : Nat) (cur0 : List Nat) (V : Nat) (cv iv : Value) (wr : World) (j cy : Nat) (cur : List Nat) : Prop where
  i : iv = .int .i64 j
  cv : cv = .int .u64 cy
  jb : j ≤ n
  cb : cy ≤ 1
  len : Hid (cur.length = cur0.length)
  ok : Okd (bs .u64) cur
  own : Mk wr g 82 .u64 cur
  val : Hid (vl (bs .u64) cur + bs .u64 ^ (o + j) * cy = V)
  drop : Hid (cur.drop (o + j) = cur0.drop (o + j))
  onl : Onl g w wr
theorem add2_next {w wr : World} {g o n j cy dg s cy' V : Nat} {cur0 cur : List Nat} (hj : j < n) (hk : o + j < cur.length) (hdg : cur.getD (o + j) 0 = dg)
    (hs : s + bs .u64 * cy' = dg + 0 + cy) (hsb : s ≤ 18446744073709551615) (hcb : cy' ≤ 1)
    (hcl : cur.length = cur0.length) (hco : Okd (bs .u64) cur) (hown : Mk wr g 82 .u64 cur)
    (hval : vl (bs .u64) cur + bs .u64 ^ (o + j) * cy = V) (hdrop : cur.drop (o + j) = cur0.drop (o + j)) (hon : Onl g w wr) :
    ∃ j2 cy2 cur2, AddRel2 w g o n cur0 V (.int .u64 (cy' : Int)) (.int .i64 ((j : Int) + 1)) (wr.setCell ⟨g, o + j, none⟩ (.int .u64 s)) j2 cy2 cur2 := by
  refine ⟨j + 1, cy', cur.set (o + j) s, by congr 1, rfl, by omega, hcb, by simpa [Hid] using hcl, hco.set _ (Nat.lt_succ_of_le hsb), hown.set_ _ _, ?_, ?_, hon.set_ _ _⟩
  · show _ = _
    have h1 := vl_set (b := bs .u64) (d := s) hk hdg
    have h2 : bs .u64 ^ (o + j) * (s + bs .u64 * cy') = bs .u64 ^ (o + j) * (dg + 0 + cy) := by rw [hs]
    simp only [Nat.mul_add, Nat.add_zero] at h2
    have h3 : bs .u64 ^ (o + (j + 1)) * cy' = bs .u64 ^ (o + j) * (bs .u64 * cy') := by rw [← Nat.add_assoc, Nat.pow_succ, Nat.mul_assoc]
    rw [h3]
    omega
  · show _ = _
    rw [← Nat.add_assoc, List.drop_set_of_lt (by omega)]
    have := congrArg (List.drop 1) hdrop
    simpa [List.drop_drop] using this
theorem add2_done {o n j V : Nat} {cur0 cur : List Nat} (_hk : o + n ≤ cur0.length) (hj : j ≤ n) (_hcl : cur.length = cur0.length)
    (hval : vl (bs .u64) cur + bs .u64 ^ (o + j) * 0 = V) (hdrop : cur.drop (o + j) = cur0.drop (o + j)) : vl (bs .u64) cur + bs .u64 ^ (o + n) * 0 = V ∧ cur.drop (o + n) = cur0.drop (o + n) := by
  refine ⟨by rw [Nat.mul_zero] at hval ⊢; exact hval, ?_⟩
  have := congrArg (List.drop (n - j)) hdrop
  rw [List.drop_drop, List.drop_drop, show o + j + (n - j) = o + n by omega] at this
  exact this

set_option maxHeartbeats 3200000 in
set_option maxRecDepth 100000 in
theorem increase_any (g o n ca : Nat) (B : Option Addr) (n' cb : Nat) (cur0 ys : List Nat) (w : World) (hM : Mk w g 82 .u64 cur0) (hok : Okd (bs .u64) cur0) (hk : o + n ≤ cur0.length) (hca : n ≤ ca) (hcb : ca ≤ 9223372036854775807)
    (hB : Dg .u64 w B n' cb ys) (hnn : n' ≤ n) (hne : Hid (0 < n' → ∀ ad, B = some ad → ad.block ≠ g)) :
    Calls Tryz.prog 141 #[.slice (some ⟨g, o, none⟩) n ca, .slice B n' cb] w fun e w' => ∃ (cy : Nat) (cur : List Nat), e = .returned (.bool (decide (0 < cy))) ∧ cy ≤ 1 ∧
      Mk w' g 82 .u64 cur ∧ Okd (bs .u64) cur ∧ Hid (cur.length = cur0.length) ∧ Hid (vl (bs .u64) cur + bs .u64 ^ (o + n) * cy = vl (bs .u64) cur0 + bs .u64 ^ o * vl (bs .u64) ys) ∧ Hid (cur.drop (o + n) = cur0.drop (o + n)) ∧ Onl g w w' := by
  have hk := Lib.hid hk
  have hcb1 := hB.cap
  have hcb2 := hB.top
  have hyl := Lib.hid hB.len
  go_enter Tryz.func141, Tryz.ntmps141
  go_wp2
  go_loopw [5, 11] (fun cv iv wr => ∃ j cy cur, AddRel w g o n' cur0 ys cv iv wr j cy cur) (fun _ iv _ => n' - (intOf iv).toNat)
  case atStart => exact ⟨0, 0, cur0, rfl, rfl, by omega, by omega, rfl, hok, hM, by show _ = _; simp [vl], rfl, Onl.refl _ _⟩
  case round =>
    clear hM hok
    obtain ⟨j, cy, cur, rfl, rfl, hjb, hcb, hcl, hco, hown, hval, hdrop, hon⟩ := hrel
    by_cases hjn : j < n'
    · have hBr := hon.dg hB hne.out
      obtain ⟨ad, y, rfl, hcy, hy⟩ := hBr.at_ hjn
      have hyb : y ≤ 18446744073709551615 := Nat.le_of_lt_succ hy.out.2
      have hlen : Hid (o + j < cur.length) := by show _ < _; have := hk.out; have := hcl.out; omega
      have hcc := hown.cell (i := o + j) hlen.out
      have hcf := hown.frozen (o + j)
      obtain ⟨dg, hdg⟩ : ∃ dg, cur.getD (o + j) 0 = dg := ⟨_, rfl⟩
      rw [hdg] at hcc
      have hdb : dg ≤ 18446744073709551615 := by rw [← hdg]; exact Nat.le_of_lt_succ (hco.getD (by decide) _)
      have Hdg := Lib.hid hdg
      clear hdg
      obtain ⟨s, cy', hadd, hs, hsb, hcb'⟩ := add64_three dg y cy hdb hyb hcb
      have R := addRel_next (w := w) hjn hlen.out hy.out.1 Hdg.out hs.out hsb hcb' (Nat.le_refl n') hcl.out hco hown hval.out hdrop.out hon
      have hjn1 : j < n := by omega
      go_wp2
      go_roundw
      case rel => exact R
      case measure => simp [intOf]; omega
    · obtain rfl : j = n' := by omega
      have hv := hval.out
      rw [List.take_of_length_le (by rw [hyl.out]; omega)] at hv
      have Hv := Lib.hid hv
      clear hv hjn hval hjb
      go_wp2
      go_loopw [5, 8] (fun cv iv wr => ∃ k cy cur, AddRel2 w g o n cur0 (vl (bs .u64) cur0 + bs .u64 ^ o * vl (bs .u64) ys) cv iv wr k cy cur) (fun _ iv _ => n - (intOf iv).toNat)
      case atStart => exact ⟨j, cy, cur, rfl, rfl, hnn, hcb, hcl, hco, hown, Hv.out, hdrop, hon⟩
      case round =>
        clear hcl hco hown hdrop hon Hv hcb
        obtain ⟨k, cy, cur, rfl, rfl, hjb, hcb, hcl, hco, hown, hval, hdrop, hon⟩ := hrel
        rcases (show cy = 0 ∨ cy = 1 by omega) with rfl | rfl
        · have HD0 := Lib.hid (add2_done hk.out hjb hcl.out hval.out hdrop.out)
          go_wp2
          go_ret
          exact ⟨0, cur, rfl, by omega, hown, hco, hcl, HD0.out.1, HD0.out.2, hon⟩
        · by_cases hkn : k < n
          · have hlen : Hid (o + k < cur.length) := by show _ < _; have := hk.out; have := hcl.out; omega
            have hcc := hown.cell (i := o + k) hlen.out
            have hcf := hown.frozen (o + k)
            obtain ⟨dg, hdg⟩ : ∃ dg, cur.getD (o + k) 0 = dg := ⟨_, rfl⟩
            rw [hdg] at hcc
            have hdb : dg ≤ 18446744073709551615 := by rw [← hdg]; exact Nat.le_of_lt_succ (hco.getD (by decide) _)
            have Hdg := Lib.hid hdg
            clear hdg
            obtain ⟨s, cy', hadd, hs, hsb, hcb'⟩ := add64_one dg hdb
            have R := add2_next (w := w) hkn hlen.out Hdg.out hs.out hsb hcb' hcl.out hco hown hval.out hdrop.out hon
            go_wp2
            go_roundw
            case rel => exact R
            case measure => simp [intOf]; omega
          · obtain rfl : k = n := by omega
            go_wp2
            go_ret
            exact ⟨1, cur, rfl, by omega, hown, hco, hcl, hval, hdrop, hon⟩
end Go.Proofs.YtbgihlfblmilmaaGreatDoor.Fr

/- Differences of the program's numbers, in place; sums and differences. -/
namespace Go.Proofs.YtbgihlfblmilmaaGreatDoor.Fr
open Go.RowKit Num

structure SubRel (w : World) (g o n : Nat) (cur0 ys : List Nat) (cv iv : Value) (wr : World) (j cy : Nat) (cur : List Nat) : Prop where
  i : iv = .int .i64 j
  cv : cv = .int .u64 cy
  jb : j ≤ n
  cb : cy ≤ 1
  len : Hid (cur.length = cur0.length)
  ok : Okd (bs .u64) cur
  own : Mk wr g 82 .u64 cur
  val : Hid (vl (bs .u64) cur + bs .u64 ^ o * vl (bs .u64) (ys.take j) = vl (bs .u64) cur0 + bs .u64 ^ (o + j) * cy)
  onl : Onl g w wr
theorem subRel_next {w wr : World} {g o n j cy dg y s cy' : Nat} {cur0 cur ys : List Nat} (hj : j < n) (hk : o + j < cur.length) (hy : ys.getD j 0 = y) (hdg : cur.getD (o + j) 0 = dg)
    (hs : s + y + cy = dg + bs .u64 * cy') (hsb : s ≤ 18446744073709551615) (hcb : cy' ≤ 1)
    (hcl : cur.length = cur0.length) (hco : Okd (bs .u64) cur) (hown : Mk wr g 82 .u64 cur)
    (hval : vl (bs .u64) cur + bs .u64 ^ o * vl (bs .u64) (ys.take j) = vl (bs .u64) cur0 + bs .u64 ^ (o + j) * cy) (hon : Onl g w wr) :
    ∃ j2 cy2 cur2, SubRel w g o n cur0 ys (.int .u64 (cy' : Int)) (.int .i64 ((j : Int) + 1)) (wr.setCell ⟨g, o + j, none⟩ (.int .u64 s)) j2 cy2 cur2 :=
  ⟨j + 1, cy', cur.set (o + j) s, by congr 1, rfl, by omega, hcb, by simpa [Hid] using hcl, hco.set _ (Nat.lt_succ_of_le hsb), hown.set_ _ _, dec_step hk hdg hy hval hs, hon.set_ _ _⟩
structure SubRel2 (w : World) (g n X Y : Nat) (cv iv : Value) (wr : World) (j cy : Nat) (cur : List Nat) : Prop where
  i : iv = .int .i64 j
  cv : cv = .int .u64 cy
  jb : j ≤ n
  cb : cy ≤ 1
  len : Hid (cur.length = n)
  ok : Okd (bs .u64) cur
  own : Mk wr g 82 .u64 cur
  val : Hid (vl (bs .u64) cur + Y = X + bs .u64 ^ j * cy)
  onl : Onl g w wr
theorem sub2_next {w wr : World} {g n j dg s cy' X Y : Nat} {cur : List Nat} (hj : j < n) (hk : j < cur.length) (hdg : cur.getD j 0 = dg)
    (hs : s + 0 + 1 = dg + bs .u64 * cy') (hsb : s ≤ 18446744073709551615) (hcb : cy' ≤ 1)
    (hcl : cur.length = n) (hco : Okd (bs .u64) cur) (hown : Mk wr g 82 .u64 cur)
    (hval : vl (bs .u64) cur + Y = X + bs .u64 ^ j * 1) (hon : Onl g w wr) :
    ∃ j2 cy2 cur2, SubRel2 w g n X Y (.int .u64 (cy' : Int)) (.int .i64 ((j : Int) + 1)) (wr.setCell ⟨g, j, none⟩ (.int .u64 s)) j2 cy2 cur2 := by
  refine ⟨j + 1, cy', cur.set j s, by congr 1, rfl, by omega, hcb, by simpa [Hid] using hcl, hco.set _ (Nat.lt_succ_of_le hsb), hown.set_ _ _, ?_, hon.set_ _ _⟩
  show _ = _
  have h1 := vl_set (b := bs .u64) (d := s) hk hdg
  have h2 : bs .u64 ^ j * (s + 0 + 1) = bs .u64 ^ j * (dg + bs .u64 * cy') := by rw [hs]
  simp only [Nat.mul_add, Nat.add_zero, Nat.mul_one] at h2
  have h3 : bs .u64 ^ (j + 1) * cy' = bs .u64 ^ j * (bs .u64 * cy') := by rw [Nat.pow_succ, Nat.mul_assoc]
  rw [h3]
  omega

set_option maxHeartbeats 3200000 in
set_option maxRecDepth 100000 in
theorem decrease_any (g n ca : Nat) (B : Option Addr) (n' cb : Nat) (cur0 ys : List Nat) (w : World) (hM : Mk w g 82 .u64 cur0) (hok : Okd (bs .u64) cur0) (hk : cur0.length = n) (hca : n ≤ ca) (hcb : ca ≤ 9223372036854775807)
    (hB : Dg .u64 w B n' cb ys) (hnn : n' ≤ n) (hne : Hid (0 < n' → ∀ ad, B = some ad → ad.block ≠ g)) (hle : vl (bs .u64) ys ≤ vl (bs .u64) cur0) :
    Calls Tryz.prog 153 #[.slice (some ⟨g, 0, none⟩) n ca, .slice B n' cb] w fun e w' => ∃ (cur : List Nat), e = .returned (.tuple #[]) ∧
      Mk w' g 82 .u64 cur ∧ Okd (bs .u64) cur ∧ Hid (cur.length = n) ∧ Hid (vl (bs .u64) cur + vl (bs .u64) ys = vl (bs .u64) cur0) ∧ Onl g w w' := by
  have hk := Lib.hid hk
  have hle := Lib.hid hle
  have hcb1 := hB.cap
  have hcb2 := hB.top
  have hyl := Lib.hid hB.len
  go_enter Tryz.func153, Tryz.ntmps153
  go_wp2
  go_loopw [4, 10] (fun cv iv wr => ∃ j cy cur, SubRel w g 0 n' cur0 ys cv iv wr j cy cur) (fun _ iv _ => n' - (intOf iv).toNat)
  case atStart => exact ⟨0, 0, cur0, rfl, rfl, by omega, by omega, rfl, hok, hM, by show _ = _; simp [vl], Onl.refl _ _⟩
  case round =>
    clear hM hok
    obtain ⟨j, cy, cur, rfl, rfl, hjb, hcb, hcl, hco, hown, hval, hon⟩ := hrel
    by_cases hjn : j < n'
    · have hBr := hon.dg hB hne.out
      obtain ⟨ad, y, rfl, hcy, hy⟩ := hBr.at_ hjn
      have hyb : y ≤ 18446744073709551615 := Nat.le_of_lt_succ hy.out.2
      have hlen : Hid (0 + j < cur.length) := by show _ < _; have := hk.out; have := hcl.out; omega
      have hcc := hown.cell (i := 0 + j) hlen.out
      have hcf := hown.frozen (0 + j)
      obtain ⟨dg, hdg⟩ : ∃ dg, cur.getD (0 + j) 0 = dg := ⟨_, rfl⟩
      rw [hdg] at hcc
      have hdb : dg ≤ 18446744073709551615 := by rw [← hdg]; exact Nat.le_of_lt_succ (hco.getD (by decide) _)
      have Hdg := Lib.hid hdg
      clear hdg
      obtain ⟨s, cy', hadd, hs, hsb, hcb'⟩ := sub64_two dg y cy hdb hyb hcb
      have R := subRel_next (w := w) hjn hlen.out hy.out.1 Hdg.out hs.out hsb hcb' hcl.out hco hown hval.out hon
      rw [Nat.zero_add] at hcc hcf R
      have hjn1 : j < n := by omega
      go_wp2
      go_roundw
      case rel => exact R
      case measure => simp [intOf]; omega
    · obtain rfl : j = n' := by omega
      have hv := hval.out
      rw [List.take_of_length_le (by rw [hyl.out]; omega), Nat.pow_zero, Nat.one_mul, Nat.zero_add] at hv
      have Hv := Lib.hid hv
      clear hv hjn hval hjb
      go_wp2
      go_loopw [4, 7] (fun cv iv wr => ∃ k cy cur, SubRel2 w g n (vl (bs .u64) cur0) (vl (bs .u64) ys) cv iv wr k cy cur) (fun _ iv _ => n - (intOf iv).toNat)
      case atStart => exact ⟨j, cy, cur, rfl, rfl, hnn, hcb, hcl.out.trans hk.out, hco, hown, Hv.out, hon⟩
      case round =>
        clear hcl hco hown hon Hv hcb
        obtain ⟨k, cy, cur, rfl, rfl, hjb, hcb, hcl, hco, hown, hval, hon⟩ := hrel
        rcases (show cy = 0 ∨ cy = 1 by omega) with rfl | rfl
        · have HD0 := Lib.hid (show vl (bs .u64) cur + vl (bs .u64) ys = vl (bs .u64) cur0 by have := hval.out; rw [Nat.mul_zero, Nat.add_zero] at this; exact this)
          go_wp2
          go_end0
          exact ⟨cur, rfl, hown, hco, hcl, HD0, hon⟩
        · have hkn : k < n := by
            rcases Nat.lt_or_ge k n with h | h
            · exact h
            · exfalso
              obtain rfl : k = n := by omega
              exact dec_top hco hcl.out hle.out hval.out (by omega)
          have hlen : Hid (k < cur.length) := by show _ < _; have := hcl.out; omega
          have hcc := hown.cell (i := k) hlen.out
          have hcf := hown.frozen k
          obtain ⟨dg, hdg⟩ : ∃ dg, cur.getD k 0 = dg := ⟨_, rfl⟩
          rw [hdg] at hcc
          have hdb : dg ≤ 18446744073709551615 := by rw [← hdg]; exact Nat.le_of_lt_succ (hco.getD (by decide) _)
          have Hdg := Lib.hid hdg
          clear hdg
          obtain ⟨s, cy', hadd, hs, hsb, hcb'⟩ := sub64_one dg hdb
          have R := sub2_next (w := w) hkn hlen.out Hdg.out hs.out hsb hcb' hcl.out hco hown hval.out hon
          go_wp2
          go_roundw
          case rel => exact R
          case measure => simp [intOf]; omega

structure DtRel (w : World) (g o n : Nat) (cur0 ys : List Nat) (d : Nat) (cv iv : Value) (wr : World) (j cy : Nat) (cur : List Nat) : Prop where
  i : iv = .int .i64 j
  cv : cv = .int .u64 cy
  jb : j ≤ n
  cb : cy ≤ 18446744073709551615
  len : Hid (cur.length = cur0.length)
  ok : Okd (bs .u64) cur
  own : Mk wr g 82 .u64 cur
  val : Hid (vl (bs .u64) cur + bs .u64 ^ o * (vl (bs .u64) (ys.take j) * d) = vl (bs .u64) cur0 + bs .u64 ^ (o + j) * cy)
  drop : Hid (cur.drop (o + j) = cur0.drop (o + j))
  onl : Onl g w wr
theorem dtRel_next {w wr : World} {g o n j cy dg y d s c1 c2 lo hi : Nat} {cur0 cur ys : List Nat} (hj : j < n) (hk : o + j < cur.length) (hy : ys.getD j 0 = y) (hdg : cur.getD (o + j) 0 = dg) (s1 : Nat)
    (hm : lo + bs .u64 * hi = y * d) (ha : s1 + bs .u64 * c1 = lo + cy) (hb : s + s1 + 0 = dg + bs .u64 * c2) (hs : s ≤ 18446744073709551615) (hcb : hi + c1 + c2 ≤ 18446744073709551615)
    (hcl : cur.length = cur0.length) (hco : Okd (bs .u64) cur) (hown : Mk wr g 82 .u64 cur)
    (hval : vl (bs .u64) cur + bs .u64 ^ o * (vl (bs .u64) (ys.take j) * d) = vl (bs .u64) cur0 + bs .u64 ^ (o + j) * cy) (hdrop : cur.drop (o + j) = cur0.drop (o + j)) (hon : Onl g w wr) :
    ∃ j2 cy2 cur2, DtRel w g o n cur0 ys d (.int .u64 ((hi : Int) + c1 + c2)) (.int .i64 ((j : Int) + 1)) (wr.setCell ⟨g, o + j, none⟩ (.int .u64 s)) j2 cy2 cur2 := by
  refine ⟨j + 1, hi + c1 + c2, cur.set (o + j) s, rfl, by congr 1, by omega, hcb, by simpa [Hid] using hcl, hco.set _ (Nat.lt_succ_of_le hs), hown.set_ _ _, ?_, ?_, hon.set_ _ _⟩
  · refine dect_step hk hdg hy hval ?_
    have e : bs .u64 * (hi + c1 + c2) = bs .u64 * hi + bs .u64 * c1 + bs .u64 * c2 := by rw [Nat.mul_add, Nat.mul_add]
    omega
  · show _ = _
    rw [← Nat.add_assoc, List.drop_set_of_lt (by omega)]
    have := congrArg (List.drop 1) hdrop
    simpa [List.drop_drop] using this
theorem sub64_zero (x y : Nat) (hx : x ≤ 18446744073709551615) (hy : y ≤ 18446744073709551615) : ∃ s b : Nat, (∀ w, (callFunc 171 #[.int .u64 (x : Int), .int .u64 (y : Int), .int .u64 0]).run Tryz.prog w = .ok (.value (.tuple #[.int .u64 (s : Int), .int .u64 (b : Int)])) w) ∧
    Hid (s + y + 0 = x + bs .u64 * b) ∧ s ≤ 18446744073709551615 ∧ b ≤ 1 := sub64_two x y 0 hx hy (by omega)

set_option maxHeartbeats 1600000 in
set_option maxRecDepth 100000 in
theorem decreaseTimes_any (g o n ca : Nat) (B : Option Addr) (cb : Nat) (cur0 ys : List Nat) (d : Nat) (w : World) (hM : Mk w g 82 .u64 cur0) (hok : Okd (bs .u64) cur0) (hk : o + n ≤ cur0.length) (hca : n ≤ ca)
    (hB : Dg .u64 w B n cb ys) (hne : Hid (0 < n → ∀ ad, B = some ad → ad.block ≠ g)) (hd : d ≤ 18446744073709551615) :
    Calls Tryz.prog 166 #[.slice (some ⟨g, o, none⟩) n ca, .slice B n cb, .int .u64 (d : Int)] w fun e w' => ∃ cy cur : _, e = .returned (.int .u64 ((cy : Nat) : Int)) ∧
      Mk w' g 82 .u64 cur ∧ Okd (bs .u64) cur ∧ Hid (cur.length = cur0.length) ∧ Hid (vl (bs .u64) cur + bs .u64 ^ o * (vl (bs .u64) ys * d) = vl (bs .u64) cur0 + bs .u64 ^ (o + n) * cy) ∧ Hid (cur.drop (o + n) = cur0.drop (o + n)) ∧ cy ≤ 18446744073709551615 ∧ Onl g w w' := by
  have hk := Lib.hid hk
  have hcb1 := hB.cap
  have hcb2 := hB.top
  have hyl := Lib.hid hB.len
  go_enter Tryz.func166, Tryz.ntmps166
  go_wp2
  go_loopw [7, 14] (fun cv iv wr => ∃ j cy cur, DtRel w g o n cur0 ys d cv iv wr j cy cur) (fun _ iv _ => n - (intOf iv).toNat)
  case atStart => exact ⟨0, 0, cur0, rfl, rfl, by omega, by omega, rfl, hok, hM, by show _ = _; simp [vl], rfl, Onl.refl _ _⟩
  case round =>
    clear hM hok
    obtain ⟨j, cy, cur, rfl, rfl, hjb, hcb, hcl, hco, hown, hval, hdrop, hon⟩ := hrel
    by_cases hjn : j < n
    · have hBr := hon.dg hB hne.out
      obtain ⟨ad, y, rfl, hcy, hy⟩ := hBr.at_ hjn
      have hyb : y ≤ 18446744073709551615 := Nat.le_of_lt_succ hy.out.2
      have hlen : Hid (o + j < cur.length) := by show _ < _; have := hk.out; have := hcl.out; omega
      have hcc := hown.cell (i := o + j) hlen.out
      have hcf := hown.frozen (o + j)
      obtain ⟨dg, hdg⟩ : ∃ dg, cur.getD (o + j) 0 = dg := ⟨_, rfl⟩
      rw [hdg] at hcc
      have hdb : dg ≤ 18446744073709551615 := by rw [← hdg]; exact Nat.le_of_lt_succ (hco.getD (by decide) _)
      have Hdg := Lib.hid hdg
      clear hdg
      go_wp2_with fail
      refine (mul64_two y d hyb hd wr).mono ?_
      rintro e w' ⟨hi, lo, rfl, hm, hlo, hhi, rfl⟩
      obtain ⟨s1, c1, hadd1, hs1, hsb1, hc1⟩ := add64_two lo cy hlo hcb
      obtain ⟨s2, c2, hadd2, hs2, hsb2, hc2⟩ := sub64_zero dg s1 hdb hsb1
      have hcarry : hi + c1 + c2 ≤ 18446744073709551615 := by
        have h1 := hm.out
        have h2 := hs1.out
        have h3 := hs2.out
        have h4 := mul_bd64 hyb hd
        have e : bs .u64 = 18446744073709551616 := rfl
        rw [e] at h1 h2 h3
        omega
      have R := dtRel_next (w := w) hjn hlen.out hy.out.1 Hdg.out s1 hm.out hs1.out hs2.out hsb2 hcarry hcl.out hco hown hval.out hdrop.out hon
      go_wp2
      go_roundw
      case rel => exact R
      case measure => simp [intOf]; omega
    · obtain rfl : j = n := by omega
      have hv := hval.out
      rw [List.take_of_length_le (by rw [hyl.out]; omega)] at hv
      have Hv := Lib.hid hv
      clear hv
      go_wp2
      go_ret
      exact ⟨cy, cur, rfl, hown, hco, hcl, Hv.out, hdrop, hcb, hon⟩
end Go.Proofs.YtbgihlfblmilmaaGreatDoor.Fr
