/- Digits of 64 bits: carries, and lists of digits that are written in place. -/
import Derived.Test.YtbgihlfblmilmaaGreatDoorNum
import Derived.Lib.BitFns
namespace Go.Proofs.YtbgihlfblmilmaaGreatDoor.Fr
open Go.RowKit Num

/-- only block g may have turned -/
def Onl (g : Nat) (w w' : World) : Prop := w.grownBy w' (some g) ∧ w'.heap.size = w.heap.size
theorem Onl.refl (g : Nat) (w : World) : Onl g w w := ⟨⟨rfl, rfl, rfl, Nat.le_refl _, fun _ _ _ => rfl⟩, rfl⟩
theorem Onl.trans {g : Nat} {a b c : World} (h : Onl g a b) (k : Onl g b c) : Onl g a c :=
  ⟨⟨k.1.os.trans h.1.os, k.1.tape.trans h.1.tape, k.1.output.trans h.1.output, Nat.le_trans h.1.size k.1.size, fun i hi hne => (k.1.block i (by rw [h.2]; exact hi) hne).trans (h.1.block i hi hne)⟩, k.2.trans h.2⟩
theorem Onl.drewN {g : Nat} {a b : World} (h : Onl g a b) (n : Nat) : Onl g a (b.drewN n) := ⟨⟨h.1.os, h.1.tape, h.1.output, h.1.size, h.1.block⟩, h.2⟩
theorem Onl.set_ {g : Nat} {a b : World} (h : Onl g a b) (i : Nat) (u : Value) : Onl g a (b.setCell ⟨g, i, none⟩ u) :=
  ⟨⟨h.1.os, h.1.tape, h.1.output, by simpa [World.setCell] using h.1.size, fun k hk hne => (Below.heap_setCell b _ u k (by intro e; simp at e; exact hne (by rw [e]))).trans (h.1.block k hk hne)⟩, by simpa [World.setCell] using h.2⟩
theorem Onl.below {g B : Nat} {a b : World} (h : Onl g a b) (hB : B ≤ g) : Below B a b :=
  ⟨h.1.os, h.1.tape, h.1.output, h.1.size, fun k hk => by
    rcases Nat.lt_or_ge k a.heap.size with hl | hl
    · exact h.1.block k hl (fun e => by injection e with e; omega)
    · rw [Array.getElem?_eq_none hl, Array.getElem?_eq_none (by rw [h.2]; exact hl)]⟩
theorem Onl.dg {g : Nat} {w w' : World} (h : Onl g w w') {k : IntKind} {A : Option Addr} {n c : Nat} {xs : List Nat} (hD : Dg k w A n c xs) (hne : 0 < n → ∀ ad, A = some ad → ad.block ≠ g) : Dg k w' A n c xs :=
  ⟨hD.len, hD.cap, hD.top, hD.ok, fun hn => by
    obtain ⟨ad, e, hc⟩ := hD.cell hn
    refine ⟨ad, e, fun j x hx => ?_⟩
    have h1 := hc j x hx
    have h2 := World.block_lt_of_cell? _ _ h1
    rw [block_of_add] at h2
    have h3 : w'.heap[(ad.add j).block]? = w.heap[(ad.add j).block]? := by
      rw [block_of_add]
      exact h.1.block _ h2 (fun e2 => by injection e2 with e2; exact hne hn ad e e2)
    exact (World.cell?_of_block h3).trans h1⟩
theorem Onl.mk_ {g g' : Nat} {w w' : World} (h : Onl g w w') {t : TypeId} {k : IntKind} {xs : List Nat} (hm : Mk w g' t k xs) (hne : g' ≠ g) : Mk w' g' t k xs :=
  hm.grown h.1 (fun e => by injection e with e; exact hne e)

theorem vl_set {b : Nat} {xs : List Nat} {k d c : Nat} (hk : k < xs.length) (hc : xs.getD k 0 = c) : vl b (xs.set k d) + b ^ k * c = vl b xs + b ^ k * d := by
  have h := vl_take_set (b := b) (d := d) hk (Nat.le_refl _) hc
  rw [List.take_of_length_le (by rw [List.length_set]; omega), List.take_of_length_le (Nat.le_refl _)] at h
  exact h

/-- one digit more of 'add a product with a digit' -/
theorem inct_step {b : Nat} {cur cur0 ys : List Nat} {o j cy dg s y digit cy' : Nat} (hk : o + j < cur.length) (hdg : cur.getD (o + j) 0 = dg) (hy : ys.getD j 0 = y)
    (hv : vl b cur + b ^ (o + j) * cy = vl b cur0 + b ^ o * (vl b (ys.take j) * digit)) (hs : s + b * cy' = dg + cy + y * digit) :
    vl b (cur.set (o + j) s) + b ^ (o + (j + 1)) * cy' = vl b cur0 + b ^ o * (vl b (ys.take (j + 1)) * digit) := by
  have h1 := vl_set (b := b) (d := s) hk hdg
  rw [vl_take_succ_getD, hy, Nat.add_mul, Nat.mul_add (b ^ o)]
  have h2 : b ^ (o + j) * (s + b * cy') = b ^ (o + j) * (dg + cy + y * digit) := by rw [hs]
  simp only [Nat.mul_add] at h2
  have h3 : b ^ (o + (j + 1)) * cy' = b ^ (o + j) * (b * cy') := by rw [← Nat.add_assoc, Nat.pow_succ, Nat.mul_assoc]
  have h4 : b ^ o * (b ^ j * y * digit) = b ^ (o + j) * (y * digit) := by rw [Nat.pow_add, Nat.mul_assoc, Nat.mul_assoc]
  rw [h3, h4]
  omega
theorem mul_bd64 {x y : Nat} (hx : x ≤ 18446744073709551615) (hy : y ≤ 18446744073709551615) : x * y ≤ 340282366920938463426481119284349108225 := Nat.mul_le_mul hx hy

theorem zs_cons {n : Nat} (h : 0 < n) : zs n = 0 :: zs (n - 1) := by
  unfold zs
  rw [← List.replicate_succ]; congr 1; omega
theorem drop_zs {xs : List Nat} {k m : Nat} (h : xs.drop k = zs m) (hm : 0 < m) : xs.getD k 0 = 0 ∧ xs.drop (k + 1) = zs (m - 1) := by
  rw [zs_cons hm] at h
  have hl : k < xs.length := by
    rcases Nat.lt_or_ge k xs.length with hl | hl
    · exact hl
    · rw [List.drop_eq_nil_of_le hl] at h; cases h
  rw [List.drop_eq_getElem_cons hl] at h
  injection h with h1 h2
  exact ⟨by rw [getD_in hl]; exact h1, h2⟩
theorem mul_next {b : Nat} {cur cur' ys : List Nat} {n k X y cy : Nat} (hl : k + n < cur'.length) (h0 : cur'.getD (k + n) 0 = 0) (hy : ys.getD k 0 = y) (hv : vl b cur = X * vl b (ys.take k))
    (hv' : vl b cur' + b ^ (k + n) * cy = vl b cur + b ^ k * (X * y)) : vl b (cur'.set (k + n) cy) = X * vl b (ys.take (k + 1)) := by
  have h := vl_set (b := b) (d := cy) hl h0
  rw [vl_take_succ_getD, hy, Nat.mul_add, ← hv, ← Nat.mul_assoc, Nat.mul_comm X (b ^ k), Nat.mul_assoc]
  omega

theorem bitLenAux_bl : ∀ f x : Nat, x < 2 ^ f → Lib.bitLenAux f x = bl x := by
  intro f
  induction f with
  | zero => intro x hx; have : x = 0 := by omega
            subst this; rfl
  | succ f ih =>
    intro x hx
    unfold Lib.bitLenAux
    by_cases h0 : x = 0
    · rw [if_pos h0, h0]; rfl
    · have hb := bl_half (x := x) (by omega)
      rw [if_neg h0, ih (x / 2) (by rw [Nat.pow_succ] at hx; omega), hb]; omega
theorem bitLen_bl {x : Nat} (h : x ≤ 18446744073709551615) : Lib.bitLen x = bl x := bitLenAux_bl 64 x (Nat.lt_of_le_of_lt h (by decide))
theorem bl_vl64 {xs : List Nat} {n x : Nat} (hl : xs.length = n + 1) (hok : Okd (bs .u64) xs) (hx : xs.getD n 0 = x) (h0 : 0 < x) : bl (vl (bs .u64) xs) = 64 * n + bl x := by
  have h := vl_take_drop (bs .u64) xs n (by omega)
  have h2 := vl_drop_pred (b := bs .u64) (by omega : n < xs.length) hx
  rw [List.drop_eq_nil_of_le (by omega : xs.length ≤ n + 1), vl_nil, Nat.mul_zero, Nat.add_zero] at h2
  have h3 := vl_lt (hok.take n)
  rw [List.length_take, Nat.min_eq_left (by omega), bs64_pow] at h3
  rw [h, h2, bs64_pow]
  exact bl_shift h0 h3

/-- from digits of 32 bits to digits of 64 bits: one digit more -/
theorem from_step {xs cur : List Nat} {k d c : Nat} (hco : Okd (bs .u64) cur) (hk : k / 2 < cur.length) (hc : cur.getD (k / 2) 0 = c) (hxo : Okd (bs .u32) xs) (hkl : k < xs.length) (hd : xs.getD k 0 = d)
    (hv : vl (bs .u64) cur = vl (bs .u32) (xs.take k)) :
    c + d * 2 ^ (32 * (k % 2)) < bs .u64 ∧ bits .or .u64 (c : Int) ((d : Int) * 2 ^ (32 * (k % 2)) % 18446744073709551616) = ((c + d * 2 ^ (32 * (k % 2)) : Nat) : Int) ∧
      vl (bs .u64) (cur.set (k / 2) (c + d * 2 ^ (32 * (k % 2)))) = vl (bs .u32) (xs.take (k + 1)) := by
  have hcv := getD_vl hco (by decide) (k / 2)
  have hlt := vl_lt (hxo.take k)
  rw [List.length_take, Nat.min_eq_left (by omega)] at hlt
  have hdb : d < 4294967296 := by rw [← hd]; exact hxo.getD (by decide) k
  have hp : bs .u32 ^ k = bs .u64 ^ (k / 2) * 2 ^ (32 * (k % 2)) := by rw [bs32_pow, bs64_pow, ← Nat.pow_add]; congr 1; omega
  have hcs : c < 2 ^ (32 * (k % 2)) := by
    rw [← hc, hcv, hv]
    have : vl (bs .u32) (xs.take k) / bs .u64 ^ (k / 2) < 2 ^ (32 * (k % 2)) := by
      rw [Nat.div_lt_iff_lt_mul (Nat.pow_pos (by decide)), Nat.mul_comm, ← hp]; exact hlt
    exact Nat.lt_of_le_of_lt (Nat.mod_le _ _) this
  have hsum : c + d * 2 ^ (32 * (k % 2)) < 18446744073709551616 := by
    rcases (show k % 2 = 0 ∨ k % 2 = 1 by omega) with h | h <;> rw [h] at hcs ⊢ <;> simp at hcs ⊢ <;> omega
  refine ⟨hsum, ?_, ?_⟩
  · have hor := or_add (b := d) _ hcs
    have e := u64_or_nat c (d * 2 ^ (32 * (k % 2))) (by omega) (by omega)
    rw [hor] at e
    rw [← e]
    congr 1
    have e2 : ((d * 2 ^ (32 * (k % 2)) : Nat) : Int) = (d : Int) * 2 ^ (32 * (k % 2)) := by rw [Int.natCast_mul, Int.natCast_pow]; rfl
    rw [← e2]
    omega
  · have h := vl_set (b := bs .u64) (d := c + d * 2 ^ (32 * (k % 2))) hk hc
    rw [vl_take_succ_getD, hd, ← hv, hp, Nat.mul_assoc, Nat.mul_comm _ d]
    rw [Nat.mul_add] at h
    omega
end Go.Proofs.YtbgihlfblmilmaaGreatDoor.Fr

/- From digits of 64 bits to digits of 32 bits. -/
namespace Go.Proofs.YtbgihlfblmilmaaGreatDoor.Fr
open Go.RowKit Num

theorem half_digit {xs : List Nat} (hok : Okd (bs .u64) xs) (k : Nat) : xs.getD (k / 2) 0 / 2 ^ (32 * (k % 2)) % bs .u32 = vl (bs .u64) xs / bs .u32 ^ k % bs .u32 := by
  rw [getD_vl hok (by decide), bs64_pow, bs32_pow]
  generalize vl (bs .u64) xs = X
  have e : (2 : Nat) ^ (32 * k) = 2 ^ (64 * (k / 2)) * 2 ^ (32 * (k % 2)) := by rw [← Nat.pow_add]; congr 1; omega
  rw [e, ← Nat.div_div_eq_div_mul]
  generalize X / 2 ^ (64 * (k / 2)) = Y
  rcases (show k % 2 = 0 ∨ k % 2 = 1 by omega) with h | h
  · rw [h]
    show Y % 18446744073709551616 / 1 % 4294967296 = Y / 1 % 4294967296
    omega
  · rw [h]
    show Y % 18446744073709551616 / 4294967296 % 4294967296 = Y / 4294967296 % 4294967296
    omega
theorem dig_step {cur : List Nat} {k d X : Nat} (hk : k < cur.length) (hv : vl (bs .u32) (cur.take k) = X % bs .u32 ^ k) (hd : d = X / bs .u32 ^ k % bs .u32) :
    vl (bs .u32) ((cur.set k d).take (k + 1)) = X % bs .u32 ^ (k + 1) := by
  rw [vl_take_succ (by rw [List.length_set]; exact hk), List.take_set_of_le (Nat.le_refl _), List.getElem_set_self, hv, Nat.pow_succ, Nat.mod_mul, hd]
theorem dig_top {cur : List Nat} {X m : Nat} (hm : m = (bl X + 31) / 32) (hl : cur.length = m) (hok : Okd (bs .u32) cur) (hv : vl (bs .u32) (cur.take m) = X % bs .u32 ^ m) : vl (bs .u32) cur = X ∧ Nrm cur := by
  have h1 := lt_bl X
  have h2 : X < bs .u32 ^ m := by
    rw [bs32_pow]
    exact Nat.lt_of_lt_of_le h1 (Nat.pow_le_pow_right (by decide) (by omega))
  rw [List.take_of_length_le (by omega), Nat.mod_eq_of_lt h2] at hv
  refine ⟨hv, fun hp h0 => ?_⟩
  have h3 := vl_take_pred (b := bs .u32) (xs := cur) (n := cur.length) hp (Nat.le_refl _) h0
  rw [List.take_length, hv] at h3
  have h4 := vl_lt (hok.take (cur.length - 1))
  rw [h3, List.length_take, Nat.min_eq_left (by omega), bs32_pow] at h4
  have := bl_le h4
  omega
theorem u64_shr_cast (y s : Nat) : ((y : Int) / 2 ^ s) % 4294967296 = ((y / 2 ^ s % 4294967296 : Nat) : Int) := by
  rw [Int.natCast_emod, Int.natCast_ediv, Int.natCast_pow]; rfl
end Go.Proofs.YtbgihlfblmilmaaGreatDoor.Fr

/- Division of lists of digits of 64 bits by one digit. -/
namespace Go.Proofs.YtbgihlfblmilmaaGreatDoor.Fr
open Go.RowKit Num

theorem div1_step_b {b x y r V : Nat} (hy : 0 < y) (hr : r = V % y) : (x + b * V) / y = (r * b + x) / y + b * (V / y) ∧ (x + b * V) % y = (r * b + x) % y := by
  subst hr
  have e : x + b * V = (V % y * b + x) + y * (b * (V / y)) := by
    have := Nat.div_add_mod V y
    have h2 : b * V = b * (y * (V / y)) + b * (V % y) := by rw [← Nat.mul_add, this]
    rw [h2, Nat.mul_left_comm y, Nat.mul_comm (V % y) b]; omega
  constructor
  · rw [e, Nat.add_mul_div_left _ _ hy]
  · rw [e, Nat.add_mul_mod_self_left]
theorem div1_lt_b {b x y r : Nat} (hr : r < y) (hx : x < b) : (r * b + x) / y < b := by
  rw [Nat.div_lt_iff_lt_mul (by omega)]
  have : (r + 1) * b ≤ y * b := Nat.mul_le_mul_right _ hr
  rw [Nat.add_mul] at this
  rw [Nat.mul_comm b y]
  omega
/-- one place of the division by a digit: the quotient's digits from place j on -/
theorem shrink_step {cur cur0 : List Nat} {j x y r n : Nat} (hl : cur.length = n) (hl0 : cur0.length = n) (hj : j < n) (hx : cur0.getD j 0 = x) (hy : 0 < y) (hr : r = vl (bs .u64) (cur0.drop (j + 1)) % y)
    (hv : vl (bs .u64) (cur.drop (j + 1)) = vl (bs .u64) (cur0.drop (j + 1)) / y) :
    vl (bs .u64) ((cur.set j ((r * bs .u64 + x) / y)).drop j) = vl (bs .u64) (cur0.drop j) / y ∧ (r * bs .u64 + x) % y = vl (bs .u64) (cur0.drop j) % y := by
  have hd := vl_drop_pred (b := bs .u64) (by omega : j < cur0.length) hx
  have hs := div1_step_b (b := bs .u64) (x := x) (V := vl (bs .u64) (cur0.drop (j + 1))) hy hr
  exact ⟨by rw [vl_drop_set (by omega), hv, hd, hs.1], by rw [hd, hs.2]⟩
theorem take_set_getD {cur cur0 : List Nat} {j d : Nat} (h : cur.take (j + 1) = cur0.take (j + 1)) (hl : j < cur.length) (hl0 : j < cur0.length) : cur.getD j 0 = cur0.getD j 0 ∧ (cur.set j d).take j = cur0.take j := by
  constructor
  · rw [List.take_succ_eq_append_getElem hl, List.take_succ_eq_append_getElem hl0] at h
    have h2 := List.append_inj_right' h rfl
    injection h2 with h3
    rw [getD_in hl, getD_in hl0, h3]
  · rw [List.take_set_of_le (Nat.le_refl _)]
    have := congrArg (List.take j) h
    simpa [List.take_take] using this
end Go.Proofs.YtbgihlfblmilmaaGreatDoor.Fr

/- Long numbers: blocks whose size is known; sums, differences, shifts and quotients of lists of digits. Nothing here speaks of the program's own functions. -/
namespace Go.Proofs.YtbgihlfblmilmaaGreatDoor.Fr
open Go.RowKit Num

/-- block g has c cells, begins with the digits xs, none frozen -/
def Mz (w : World) (g : Nat) (t : TypeId) (k : IntKind) (c : Nat) (xs : List Nat) : Prop := ∃ cs : Array Value, w.heap[g]? = some (.cells cs t (0, 0)) ∧ cs.size = c ∧ cs.toList.take xs.length = dcs k xs

section
variable {w w' : World} {g c : Nat} {t : TypeId} {k : IntKind} {xs : List Nat}
theorem Mz.mk (h : Mz w g t k c xs) : Mk w g t k xs := by
  obtain ⟨cs, h1, _, h2⟩ := h
  exact ⟨cs, h1, h2⟩
theorem Mz.le (h : Mz w g t k c xs) : xs.length ≤ c := by
  obtain ⟨cs, h1, h2, h3⟩ := h
  have h4 := congrArg List.length h3
  rw [dcs_len, List.length_take] at h4
  have h5 : cs.toList.length = cs.size := Array.length_toList
  omega
theorem Mz.take_ (h : Mz w g t k c xs) (m : Nat) : Mz w g t k c (xs.take m) := by
  obtain ⟨cs, h1, h2, h3⟩ := h
  refine ⟨cs, h1, h2, ?_⟩
  have := congrArg (List.take m) h3
  rw [List.take_take] at this
  rw [List.length_take, this]
  simp [dcs, List.map_take]
theorem Mk.take_ (h : Mk w g t k xs) (m : Nat) : Mk w g t k (xs.take m) := by
  obtain ⟨cs, h1, h3⟩ := h
  refine ⟨cs, h1, ?_⟩
  have := congrArg (List.take m) h3
  rw [List.take_take] at this
  rw [List.length_take, this]
  simp [dcs, List.map_take]
theorem Mz.new (w : World) (t : TypeId) (k : IntKind) (xs : List Nat) : Mz (w.alloc (.cells (dcs k xs).toArray t)) w.heap.size t k xs.length xs :=
  ⟨_, heap_alloc_new w _, by simp [dcs_len], by simp [List.take_of_length_le, dcs_len]⟩
theorem Mz.drewN (h : Mz w g t k c xs) (n : Nat) : Mz (w.drewN n) g t k c xs := h
theorem Mz.drew (h : Mz w g t k c xs) : Mz w.drew g t k c xs := h
theorem Mz.alloc (h : Mz w g t k c xs) (o : Obj) : Mz (w.alloc o) g t k c xs := by
  have hl := h.mk.lt
  obtain ⟨cs, h, h2⟩ := h
  exact ⟨cs, (Below.heap_alloc w o g hl).trans h, h2⟩
theorem Mz.set_ (h : Mz w g t k c xs) (i v : Nat) : Mz (w.setCell ⟨g, i, none⟩ (.int k (v : Int))) g t k c (xs.set i v) := by
  obtain ⟨cs, h, h1, h2⟩ := h
  refine ⟨cs.setIfInBounds i (.int k (v : Int)), by simp [World.setCell, Array.getElem?_modify, h], by simpa using h1, ?_⟩
  rw [List.length_set, Array.toList_setIfInBounds, List.take_set, h2]
  simp [dcs, List.map_set]
theorem Mz.below {B : Nat} (h : Mz w g t k c xs) (hb : Below B w w') (hg : g < B) : Mz w' g t k c xs := by
  obtain ⟨cs, h, h2⟩ := h
  exact ⟨cs, (hb.block g hg).trans h, h2⟩
theorem Mz.bel (h : Mz w g t k c xs) (hb : Below w.heap.size w w') : Mz w' g t k c xs := h.below hb h.mk.lt
theorem Mz.grown {row : Option Nat} (h : Mz w g t k c xs) (hb : w.grownBy w' row) (hg : some g ≠ row) : Mz w' g t k c xs := by
  have hl := h.mk.lt
  obtain ⟨cs, h, h2⟩ := h
  exact ⟨cs, (hb.block g hl hg).trans h, h2⟩
theorem Onl.mz_ {g' : Nat} (h : Onl g' w w') (hm : Mz w g t k c xs) (hne : g ≠ g') : Mz w' g t k c xs :=
  hm.grown h.1 (fun e => by injection e with e; exact hne e)
/-- the slice of the first n digits, with whatever capacity -/
theorem Mk.dgc (h : Mk w g t k xs) {n c : Nat} (hn : n ≤ xs.length) (hc : n ≤ c) (ht : c ≤ 9223372036854775807) (hok : Okd (bs k) xs) : Dg k w (some ⟨g, 0, none⟩) n c (xs.take n) :=
  ⟨by rw [List.length_take]; omega, hc, ht, hok.take n, fun _ => ⟨_, rfl, fun j x hx => by
    have hj : j < (xs.take n).length := by
      rcases Nat.lt_or_ge j (xs.take n).length with h | h
      · exact h
      · rw [List.getElem?_eq_none h] at hx; cases hx
    have hc := (h.take_ n).cell hj
    rw [getD_in hj] at hc
    rw [List.getElem?_eq_getElem hj] at hx
    injection hx with hx
    subst hx
    have e : (⟨g, 0, none⟩ : Addr).add j = ⟨g, j, none⟩ := by
      unfold Addr.add
      split
      · subst j; rfl
      · simp
    rw [e]; exact hc⟩⟩
/-- n digits from place o on -/
theorem Mk.dgo (h : Mk w g t k xs) {o n c : Nat} (hn : o + n ≤ xs.length) (hc : n ≤ c) (ht : c ≤ 9223372036854775807) (hok : Okd (bs k) xs) : Dg k w (some ⟨g, o, none⟩) n c ((xs.drop o).take n) :=
  ⟨by rw [List.length_take, List.length_drop]; omega, hc, ht, (hok.drop o).take n, fun _ => ⟨_, rfl, fun j x hx => by
    have hj : j < ((xs.drop o).take n).length := by
      rcases Nat.lt_or_ge j ((xs.drop o).take n).length with h | h
      · exact h
      · rw [List.getElem?_eq_none h] at hx; cases hx
    rw [List.length_take, List.length_drop] at hj
    have hoj : o + j < xs.length := by omega
    have hc := h.cell hoj
    rw [getD_in hoj] at hc
    rw [List.getElem?_take, if_pos (by omega), List.getElem?_drop, List.getElem?_eq_getElem hoj] at hx
    injection hx with hx
    subst hx
    have e : (⟨g, o, none⟩ : Addr).add j = ⟨g, o + j, none⟩ := by
      unfold Addr.add
      split
      · subst j; rfl
      · simp
    rw [e]; exact hc⟩⟩
end

theorem getD_set_ne {xs : List Nat} {i j v : Nat} (h : i ≠ j) : (xs.set i v).getD j 0 = xs.getD j 0 := by
  simp only [List.getD_eq_getElem?_getD, List.getElem?_set]; rw [if_neg h]
theorem getD_set_eq {xs : List Nat} {i v : Nat} (h : i < xs.length) : (xs.set i v).getD i 0 = v := by
  simp [List.getD_eq_getElem?_getD, h]
theorem vl_drop_le {b : Nat} (xs : List Nat) (m : Nat) : b ^ m * vl b (xs.drop m) ≤ vl b xs := by
  rcases Nat.le_total m xs.length with h | h
  · have := vl_take_drop b xs m h; omega
  · rw [List.drop_eq_nil_of_le h]; simp [vl]
/-- the digits from place m on are a number's quotient by b ^ m -/
theorem vl_drop_div {b : Nat} (hb : 0 < b) {xs : List Nat} (hok : Okd b xs) {m : Nat} (hm : m ≤ xs.length) : vl b (xs.drop m) = vl b xs / b ^ m ∧ vl b (xs.take m) = vl b xs % b ^ m := by
  have h1 := vl_take_drop b xs m hm
  have h2 := vl_lt (hok.take m)
  rw [List.length_take, Nat.min_eq_left hm] at h2
  constructor
  · rw [h1, Nat.add_mul_div_left _ _ (Nat.pow_pos hb), Nat.div_eq_of_lt h2, Nat.zero_add]
  · rw [h1, Nat.add_mul_mod_self_left, Nat.mod_eq_of_lt h2]

/-- one place of 'increase' -/
theorem inc_step {b : Nat} {cur cur0 ys : List Nat} {o j cy dg y s cy' : Nat} (hk : o + j < cur.length) (hdg : cur.getD (o + j) 0 = dg) (hy : ys.getD j 0 = y)
    (hv : vl b cur + b ^ (o + j) * cy = vl b cur0 + b ^ o * vl b (ys.take j)) (hs : s + b * cy' = dg + y + cy) :
    vl b (cur.set (o + j) s) + b ^ (o + (j + 1)) * cy' = vl b cur0 + b ^ o * vl b (ys.take (j + 1)) := by
  have h1 := vl_set (b := b) (d := s) hk hdg
  rw [vl_take_succ_getD, hy, Nat.mul_add (b ^ o)]
  have h2 : b ^ (o + j) * (s + b * cy') = b ^ (o + j) * (dg + y + cy) := by rw [hs]
  simp only [Nat.mul_add] at h2
  have h3 : b ^ (o + (j + 1)) * cy' = b ^ (o + j) * (b * cy') := by rw [← Nat.add_assoc, Nat.pow_succ, Nat.mul_assoc]
  have h4 : b ^ o * (b ^ j * y) = b ^ (o + j) * y := by rw [Nat.pow_add, Nat.mul_assoc]
  rw [h3, h4]
  omega
/-- one place of 'decrease' -/
theorem dec_step {b : Nat} {cur cur0 ys : List Nat} {o j br dg y s br' : Nat} (hk : o + j < cur.length) (hdg : cur.getD (o + j) 0 = dg) (hy : ys.getD j 0 = y)
    (hv : vl b cur + b ^ o * vl b (ys.take j) = vl b cur0 + b ^ (o + j) * br) (hs : s + y + br = dg + b * br') :
    vl b (cur.set (o + j) s) + b ^ o * vl b (ys.take (j + 1)) = vl b cur0 + b ^ (o + (j + 1)) * br' := by
  have h1 := vl_set (b := b) (d := s) hk hdg
  rw [vl_take_succ_getD, hy, Nat.mul_add (b ^ o)]
  have h2 : b ^ (o + j) * (s + y + br) = b ^ (o + j) * (dg + b * br') := by rw [hs]
  simp only [Nat.mul_add] at h2
  have h3 : b ^ (o + (j + 1)) * br' = b ^ (o + j) * (b * br') := by rw [← Nat.add_assoc, Nat.pow_succ, Nat.mul_assoc]
  have h4 : b ^ o * (b ^ j * y) = b ^ (o + j) * y := by rw [Nat.pow_add, Nat.mul_assoc]
  rw [h3, h4]
  omega
/-- one place of 'decreaseTimes' -/
theorem dect_step {b : Nat} {cur cur0 ys : List Nat} {o j br dg y d s br' : Nat} (hk : o + j < cur.length) (hdg : cur.getD (o + j) 0 = dg) (hy : ys.getD j 0 = y)
    (hv : vl b cur + b ^ o * (vl b (ys.take j) * d) = vl b cur0 + b ^ (o + j) * br) (hs : s + (y * d + br) = dg + b * br') :
    vl b (cur.set (o + j) s) + b ^ o * (vl b (ys.take (j + 1)) * d) = vl b cur0 + b ^ (o + (j + 1)) * br' := by
  have h1 := vl_set (b := b) (d := s) hk hdg
  rw [vl_take_succ_getD, hy, Nat.add_mul, Nat.mul_add (b ^ o)]
  have h2 : b ^ (o + j) * (s + (y * d + br)) = b ^ (o + j) * (dg + b * br') := by rw [hs]
  simp only [Nat.mul_add] at h2
  have h3 : b ^ (o + (j + 1)) * br' = b ^ (o + j) * (b * br') := by rw [← Nat.add_assoc, Nat.pow_succ, Nat.mul_assoc]
  have h4 : b ^ o * (b ^ j * y * d) = b ^ (o + j) * (y * d) := by rw [Nat.pow_add, Nat.mul_assoc, Nat.mul_assoc]
  rw [h3, h4]
  omega
/-- a difference that is not negative leaves nothing borrowed -/
theorem dec_top {b : Nat} {cur : List Nat} {n X Y br : Nat} (hok : Okd b cur) (hl : cur.length = n) (hle : Y ≤ X) (hv : vl b cur + Y = X + b ^ n * br) (hbr : 0 < br) : False := by
  have := vl_lt hok
  rw [hl] at this
  have h2 : b ^ n * 1 ≤ b ^ n * br := Nat.mul_le_mul_left _ hbr
  omega

/-- what is left of a digit that is shifted, and what goes over -/
theorem shl_parts (d n : Nat) (hn : n < 64) : d * 2 ^ n % 18446744073709551616 = d % 2 ^ (64 - n) * 2 ^ n ∧ d * 2 ^ n = d % 2 ^ (64 - n) * 2 ^ n + 18446744073709551616 * (d / 2 ^ (64 - n)) := by
  have e : 18446744073709551616 = 2 ^ (64 - n) * 2 ^ n := by rw [← Nat.pow_add, show 64 - n + n = 64 by omega]
  have h1 : d * 2 ^ n % 18446744073709551616 = d % 2 ^ (64 - n) * 2 ^ n := by rw [e, Nat.mul_mod_mul_right]
  refine ⟨h1, ?_⟩
  have h2 := Nat.mod_add_div d (2 ^ (64 - n))
  have h3 : d * 2 ^ n = (d % 2 ^ (64 - n) + 2 ^ (64 - n) * (d / 2 ^ (64 - n))) * 2 ^ n := by rw [h2]
  rw [h3, Nat.add_mul]
  congr 1
  rw [e]
  rw [Nat.mul_right_comm]

theorem shl_step {cur xs : List Nat} {k n d h : Nat} (hn : n < 64) (hl : k + 1 < cur.length) (hh : cur.getD k 0 = h) (hhb : h < 2 ^ n) (hz : cur.getD (k + 1) 0 = 0) (hx : xs.getD k 0 = d) (hd : d ≤ 18446744073709551615)
    (hv : vl (bs .u64) cur = vl (bs .u64) (xs.take k) * 2 ^ n) :
    h + d % 2 ^ (64 - n) * 2 ^ n < bs .u64 ∧ bits .or .u64 (h : Int) ((d : Int) * 2 ^ n % 18446744073709551616) = ((h + d % 2 ^ (64 - n) * 2 ^ n : Nat) : Int) ∧ d / 2 ^ (64 - n) < 2 ^ n ∧ d / 2 ^ (64 - n) < bs .u64 ∧
      vl (bs .u64) ((cur.set k (h + d % 2 ^ (64 - n) * 2 ^ n)).set (k + 1) (d / 2 ^ (64 - n))) = vl (bs .u64) (xs.take (k + 1)) * 2 ^ n := by
  obtain ⟨p1, p2⟩ := shl_parts d n hn
  have e : 18446744073709551616 = 2 ^ n * 2 ^ (64 - n) := by rw [← Nat.pow_add, show n + (64 - n) = 64 by omega]
  have hq : d / 2 ^ (64 - n) < 2 ^ n := by
    rw [Nat.div_lt_iff_lt_mul (Nat.two_pow_pos _), ← e]; omega
  have hm := Nat.mod_lt d (Nat.two_pow_pos (64 - n))
  have hsum : h + d % 2 ^ (64 - n) * 2 ^ n < 18446744073709551616 := by
    have : (d % 2 ^ (64 - n) + 1) * 2 ^ n ≤ 2 ^ (64 - n) * 2 ^ n := Nat.mul_le_mul_right _ hm
    rw [Nat.mul_comm (2 ^ (64 - n)), ← e, Nat.add_mul, Nat.one_mul] at this
    omega
  have hql : d / 2 ^ (64 - n) ≤ d := Nat.div_le_self _ _
  refine ⟨hsum, ?_, hq, show _ < 18446744073709551616 by omega, ?_⟩
  · have hor := or_add (b := d % 2 ^ (64 - n)) _ hhb
    have e1 := u64_or_nat h (d % 2 ^ (64 - n) * 2 ^ n) (by omega) (by omega)
    rw [hor] at e1
    rw [← e1]
    congr 1
    have e2 : ((d * 2 ^ n : Nat) : Int) = (d : Int) * 2 ^ n := by rw [Int.natCast_mul, Int.natCast_pow]; rfl
    rw [← p1, ← e2]
    generalize d * 2 ^ n = z
    omega
  · have h1 := vl_set (b := bs .u64) (d := h + d % 2 ^ (64 - n) * 2 ^ n) (by omega : k < cur.length) hh
    have h2 := vl_set (b := bs .u64) (xs := cur.set k (h + d % 2 ^ (64 - n) * 2 ^ n)) (k := k + 1) (d := d / 2 ^ (64 - n)) (c := 0) (by rw [List.length_set]; exact hl) ((getD_set_ne (by omega)).trans hz)
    rw [Nat.mul_zero, Nat.add_zero] at h2
    rw [h2, vl_take_succ_getD, hx, Nat.add_mul, ← hv, Nat.mul_assoc, p2, Nat.mul_add, Nat.pow_succ, Nat.mul_assoc]
    rw [Nat.mul_add] at h1
    have e3 : bs .u64 * (d / 2 ^ (64 - n)) = 18446744073709551616 * (d / 2 ^ (64 - n)) := rfl
    rw [e3]
    omega

theorem shr_step {cur xs : List Nat} {k n d c : Nat} (hn : n < 64) (hk : 0 < k) (hl : k < cur.length) (hc : cur.getD (k - 1) 0 = c) (hcb : c < 2 ^ (64 - n)) (hx : xs.getD k 0 = d) (hd : d ≤ 18446744073709551615)
    (hz : cur.getD k 0 = 0) (hv : vl (bs .u64) cur = vl (bs .u64) (xs.take k) / 2 ^ n) :
    c + d % 2 ^ n * 2 ^ (64 - n) < bs .u64 ∧ bits .or .u64 (c : Int) ((d : Int) * 2 ^ (64 - n) % 18446744073709551616) = ((c + d % 2 ^ n * 2 ^ (64 - n) : Nat) : Int) ∧ d / 2 ^ n < 2 ^ (64 - n) ∧ d / 2 ^ n < bs .u64 ∧
      vl (bs .u64) ((cur.set k (d / 2 ^ n)).set (k - 1) (c + d % 2 ^ n * 2 ^ (64 - n))) = vl (bs .u64) (xs.take (k + 1)) / 2 ^ n := by
  have e : 18446744073709551616 = 2 ^ n * 2 ^ (64 - n) := by rw [← Nat.pow_add, show n + (64 - n) = 64 by omega]
  have hdq : d / 2 ^ n < 2 ^ (64 - n) := by
    rw [Nat.div_lt_iff_lt_mul (Nat.two_pow_pos _), Nat.mul_comm, ← e]; omega
  have hm := Nat.mod_lt d (Nat.two_pow_pos n)
  have hsum : c + d % 2 ^ n * 2 ^ (64 - n) < 18446744073709551616 := by
    have : (d % 2 ^ n + 1) * 2 ^ (64 - n) ≤ 2 ^ n * 2 ^ (64 - n) := Nat.mul_le_mul_right _ hm
    rw [← e, Nat.add_mul, Nat.one_mul] at this
    omega
  have hql : d / 2 ^ n ≤ d := Nat.div_le_self _ _
  have p1 : d * 2 ^ (64 - n) % 18446744073709551616 = d % 2 ^ n * 2 ^ (64 - n) := by rw [e, Nat.mul_mod_mul_right]
  refine ⟨hsum, ?_, hdq, show _ < 18446744073709551616 by omega, ?_⟩
  · have hor := or_add (b := d % 2 ^ n) _ hcb
    have e1 := u64_or_nat c (d % 2 ^ n * 2 ^ (64 - n)) (by omega) (by omega)
    rw [hor] at e1
    rw [← e1]
    congr 1
    have e2 : ((d * 2 ^ (64 - n) : Nat) : Int) = (d : Int) * 2 ^ (64 - n) := by rw [Int.natCast_mul, Int.natCast_pow]; rfl
    rw [← p1, ← e2]
    generalize d * 2 ^ (64 - n) = z
    omega
  · have h1 := vl_set (b := bs .u64) (d := d / 2 ^ n) hl hz
    rw [Nat.mul_zero, Nat.add_zero] at h1
    have h2 := vl_set (b := bs .u64) (xs := cur.set k (d / 2 ^ n)) (k := k - 1) (d := c + d % 2 ^ n * 2 ^ (64 - n)) (c := c) (by rw [List.length_set]; omega) ((getD_set_ne (by omega)).trans hc)
    rw [h1, hv, Nat.mul_add] at h2
    rw [vl_take_succ_getD, hx]
    generalize vl (bs .u64) (xs.take k) = V at *
    have e3 : bs .u64 ^ k = bs .u64 ^ (k - 1) * (2 ^ n * 2 ^ (64 - n)) := by
      rw [← e, show k = k - 1 + 1 by omega, Nat.pow_succ]; rfl
    have e4 : bs .u64 ^ k * d = 2 ^ n * (bs .u64 ^ (k - 1) * (2 ^ (64 - n) * d)) := by
      rw [e3]
      simp only [Nat.mul_assoc, Nat.mul_left_comm]
    rw [e4, Nat.add_mul_div_left _ _ (Nat.two_pow_pos n)]
    have h5 := Nat.mod_add_div d (2 ^ n)
    have e6 : bs .u64 ^ (k - 1) * (2 ^ (64 - n) * d) = bs .u64 ^ (k - 1) * (d % 2 ^ n * 2 ^ (64 - n)) + bs .u64 ^ k * (d / 2 ^ n) := by
      have e7 : 2 ^ (64 - n) * d = d % 2 ^ n * 2 ^ (64 - n) + 2 ^ n * 2 ^ (64 - n) * (d / 2 ^ n) := by
        have h8 : 2 ^ (64 - n) * d = 2 ^ (64 - n) * (d % 2 ^ n + 2 ^ n * (d / 2 ^ n)) := by rw [h5]
        rw [h8, Nat.mul_add, Nat.mul_comm (2 ^ (64 - n)) (d % 2 ^ n)]
        congr 1
        rw [← Nat.mul_assoc, Nat.mul_comm (2 ^ (64 - n)) (2 ^ n)]
      rw [e7, Nat.mul_add, e3]
      simp only [Nat.mul_assoc]
    rw [e6]
    omega
end Go.Proofs.YtbgihlfblmilmaaGreatDoor.Fr
