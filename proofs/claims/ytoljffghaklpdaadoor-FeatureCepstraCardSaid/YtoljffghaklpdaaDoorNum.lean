/- Plain facts on lists of digits. Nothing here speaks of a program. -/
import Derived.WalkKit
import Derived.Lib.Hide
import Derived.Deep.Draws
import Derived.Laws.MakeOwn
import Derived.OwnWalk
import Derived.Laws.BitsAllLaws
import Derived.Lib.BitFns
import Derived.Outline
import Derived.WalkLawsBesides
import Derived.WalkSpells
import Derived.Handy
import Derived.Deep.QuietTactic
import Derived.BigQuiet
import Derived.Laws.ResultCell
import Derived.Deep.Cut
import Derived.Deep.LoopGhost
import Derived.Maps.AppendAt
import Derived.Test.YtoljffghaklpdaaDoorProg
import Derived.Test.YtoljffghaklpdaaDoorShelf
import Derived.Laws.Externs
namespace Go.Proofs.YtoljffghaklpdaaDoor.Fr.Num

/-- the number with the digits xs (least significant first) in base b -/
def vl (b : Nat) : List Nat → Nat
  | [] => 0
  | x :: xs => x + b * vl b xs

theorem getD_in {xs : List Nat} {i : Nat} (h : i < xs.length) : xs.getD i 0 = xs[i] := by simp [List.getD_eq_getElem?_getD, h]
theorem getD_out {xs : List Nat} {i : Nat} (h : xs.length ≤ i) : xs.getD i 0 = 0 := by simp [List.getD_eq_getElem?_getD, List.getElem?_eq_none h]

/-- all digits are less than the base -/
def Okd (b : Nat) (xs : List Nat) : Prop := ∀ x ∈ xs, x < b

theorem Okd.nil (b : Nat) : Okd b [] := by intro x hx; cases hx
theorem Okd.cons {b x : Nat} {xs : List Nat} (h : Okd b (x :: xs)) : x < b ∧ Okd b xs :=
  ⟨h x (by simp), fun y hy => h y (by simp [hy])⟩
theorem Okd.mk {b x : Nat} {xs : List Nat} (hx : x < b) (h : Okd b xs) : Okd b (x :: xs) := by
  intro y hy
  rcases List.mem_cons.1 hy with rfl | hy
  · exact hx
  · exact h y hy
theorem Okd.append {b : Nat} {xs ys : List Nat} (h : Okd b xs) (k : Okd b ys) : Okd b (xs ++ ys) := by
  intro y hy
  rcases List.mem_append.1 hy with hy | hy
  · exact h y hy
  · exact k y hy
theorem Okd.take {b : Nat} {xs : List Nat} (h : Okd b xs) (n : Nat) : Okd b (xs.take n) := fun y hy => h y (List.mem_of_mem_take hy)
theorem Okd.drop {b : Nat} {xs : List Nat} (h : Okd b xs) (n : Nat) : Okd b (xs.drop n) := fun y hy => h y (List.mem_of_mem_drop hy)
theorem Okd.get {b : Nat} {xs : List Nat} (h : Okd b xs) {i : Nat} (hi : i < xs.length) : xs[i] < b := h _ (List.getElem_mem hi)
theorem Okd.getD {b : Nat} {xs : List Nat} (h : Okd b xs) (hb : 0 < b) (i : Nat) : xs.getD i 0 < b := by
  by_cases hi : i < xs.length
  · rw [getD_in hi]; exact h.get hi
  · rw [getD_out (by omega)]; exact hb
theorem Okd.replicate {b : Nat} (hb : 0 < b) (n : Nat) : Okd b (List.replicate n 0) := by
  intro y hy
  have := (List.mem_replicate.1 hy).2
  omega
theorem Okd.set {b : Nat} {xs : List Nat} (h : Okd b xs) (i : Nat) {x : Nat} (hx : x < b) : Okd b (xs.set i x) := by
  intro y hy
  rcases List.mem_or_eq_of_mem_set hy with hy | rfl
  · exact h y hy
  · exact hx

theorem vl_nil (b : Nat) : vl b [] = 0 := rfl
theorem vl_cons (b x : Nat) (xs : List Nat) : vl b (x :: xs) = x + b * vl b xs := rfl

theorem vl_append (b : Nat) (xs ys : List Nat) : vl b (xs ++ ys) = vl b xs + b ^ xs.length * vl b ys := by
  induction xs with
  | nil => simp [vl]
  | cons x xs ih =>
    simp only [List.cons_append, vl_cons, ih, List.length_cons, Nat.pow_succ]
    rw [Nat.mul_add, ← Nat.mul_assoc, Nat.mul_comm b (b ^ xs.length), Nat.add_assoc]

theorem vl_lt {b : Nat} {xs : List Nat} (h : Okd b xs) : vl b xs < b ^ xs.length := by
  induction xs with
  | nil => simp [vl]
  | cons x xs ih =>
    have hx := h.cons
    have := ih hx.2
    simp only [vl_cons, List.length_cons, Nat.pow_succ]
    have h1 : b * (vl b xs + 1) ≤ b * b ^ xs.length := Nat.mul_le_mul_left b this
    rw [Nat.mul_add] at h1
    rw [Nat.mul_comm (b ^ xs.length) b]
    omega

theorem vl_replicate (b n : Nat) : vl b (List.replicate n 0) = 0 := by
  induction n with
  | zero => rfl
  | succ n ih => rw [List.replicate_succ, vl_cons, ih]; simp

theorem vl_take_succ {b : Nat} {xs : List Nat} {k : Nat} (h : k < xs.length) : vl b (xs.take (k + 1)) = vl b (xs.take k) + b ^ k * xs[k] := by
  rw [List.take_succ_eq_append_getElem h, vl_append, List.length_take, Nat.min_eq_left (by omega)]
  simp [vl]

theorem vl_take_succ_getD {b : Nat} (xs : List Nat) (k : Nat) : vl b (xs.take (k + 1)) = vl b (xs.take k) + b ^ k * xs.getD k 0 := by
  by_cases h : k < xs.length
  · rw [vl_take_succ h, getD_in h]
  · rw [getD_out (by omega), List.take_of_length_le (by omega), List.take_of_length_le (by omega)]; simp

theorem vl_take_drop (b : Nat) (xs : List Nat) (k : Nat) (h : k ≤ xs.length) : vl b xs = vl b (xs.take k) + b ^ k * vl b (xs.drop k) := by
  conv => lhs; rw [← List.take_append_drop k xs]
  rw [vl_append, List.length_take, Nat.min_eq_left h]

theorem vl_snoc (b : Nat) (xs : List Nat) (x : Nat) : vl b (xs ++ [x]) = vl b xs + b ^ xs.length * x := by
  rw [vl_append]; simp [vl]

/-- the highest digit is not 0 -/
def Nrm (xs : List Nat) : Prop := ∀ h : 0 < xs.length, xs[xs.length - 1] ≠ 0

theorem Nrm.nil : Nrm [] := by intro h; simp at h

theorem Nrm.le {b : Nat} {xs : List Nat} (h : Nrm xs) (hp : 0 < xs.length) : b ^ (xs.length - 1) ≤ vl b xs := by
  have h1 := vl_take_drop b xs (xs.length - 1) (by omega)
  have h2 : xs.drop (xs.length - 1) = [xs[xs.length - 1]] := by
    rw [List.drop_eq_getElem_cons (by omega), List.drop_eq_nil_of_le (by omega)]
  rw [h2] at h1
  have h3 : vl b [xs[xs.length - 1]] = xs[xs.length - 1] := by simp [vl]
  rw [h3] at h1
  have h4 := h hp
  have h5 : b ^ (xs.length - 1) * 1 ≤ b ^ (xs.length - 1) * xs[xs.length - 1] := Nat.mul_le_mul_left _ (by omega)
  omega

theorem Nrm.pos {b : Nat} (hb : 0 < b) {xs : List Nat} (h : Nrm xs) (hp : 0 < xs.length) : 0 < vl b xs := by
  have := h.le (b := b) hp
  have h2 : 0 < b ^ (xs.length - 1) := Nat.pow_pos hb
  omega

theorem Nrm.zero {b : Nat} (hb : 0 < b) {xs : List Nat} (h : Nrm xs) : vl b xs = 0 ↔ xs.length = 0 := by
  constructor
  · intro hz
    by_cases hp : 0 < xs.length
    · have := h.pos hb hp; omega
    · omega
  · intro hz
    rw [List.eq_nil_of_length_eq_zero hz]; rfl

/-- two normal lists of digits: the longer one is greater -/
theorem vl_lt_of_length {b : Nat} {xs ys : List Nat} (hb : 1 < b) (hx : Okd b xs) (hn : Nrm ys) (h : xs.length < ys.length) : vl b xs < vl b ys := by
  have h1 := vl_lt hx
  have h2 := hn.le (b := b) (by omega)
  have h3 : b ^ xs.length ≤ b ^ (ys.length - 1) := Nat.pow_le_pow_right (by omega) (by omega)
  omega

/-- equally long lists with the same digits behind place i, the first one's digit less at place i -/
theorem vl_lt_of_digit {b : Nat} {xs ys : List Nat} (hx : Okd b xs) {i : Nat} (hl : xs.length = ys.length) (hi : i < xs.length)
    (hd : xs.drop (i + 1) = ys.drop (i + 1)) (h : xs[i] < ys[i]) : vl b xs < vl b ys := by
  rw [vl_take_drop b xs (i + 1) (by omega), vl_take_drop b ys (i + 1) (by omega), hd, vl_take_succ (by omega), vl_take_succ (by omega)]
  have h1 := vl_lt (hx.take i)
  rw [List.length_take, Nat.min_eq_left (by omega)] at h1
  have h2 : b ^ i * (xs[i] + 1) ≤ b ^ i * ys[i] := Nat.mul_le_mul_left _ h
  rw [Nat.mul_add] at h2
  omega

theorem digits_unique {b : Nat} (hb : 1 < b) : ∀ {xs ys : List Nat}, Okd b xs → Okd b ys → xs.length = ys.length → vl b xs = vl b ys → xs = ys := by
  intro xs
  induction xs with
  | nil => intro ys _ _ hl _; exact (List.eq_nil_of_length_eq_zero hl.symm).symm
  | cons x xs ih =>
    intro ys hx hy hl hv
    match ys, hl with
    | y :: ys, hl =>
      have h1 := hx.cons
      have h2 := hy.cons
      simp only [vl_cons] at hv
      have e1 : (x + b * vl b xs) % b = x := by rw [Nat.add_mul_mod_self_left, Nat.mod_eq_of_lt h1.1]
      have e2 : (y + b * vl b ys) % b = y := by rw [Nat.add_mul_mod_self_left, Nat.mod_eq_of_lt h2.1]
      have hxy : x = y := by rw [← e1, ← e2, hv]
      subst hxy
      have hv2 : b * vl b xs = b * vl b ys := by omega
      have hv3 := Nat.eq_of_mul_eq_mul_left (by omega) hv2
      rw [ih h1.2 h2.2 (by simpa using hl) hv3]

theorem Nrm.unique {b : Nat} (hb : 1 < b) {xs ys : List Nat} (hx : Okd b xs) (hy : Okd b ys) (nx : Nrm xs) (ny : Nrm ys) (hv : vl b xs = vl b ys) : xs = ys := by
  have hl : xs.length = ys.length := by
    rcases Nat.lt_trichotomy xs.length ys.length with h | h | h
    · have := vl_lt_of_length hb hx ny h; omega
    · exact h
    · have := vl_lt_of_length hb hy nx h; omega
  exact digits_unique hb hx hy hl hv

/-- cutting a digit 0 off the end does not change the number -/
theorem vl_take_pred {b : Nat} {xs : List Nat} {n : Nat} (h0 : 0 < n) (hn : n ≤ xs.length) (hz : xs[n - 1] = 0) : vl b (xs.take (n - 1)) = vl b (xs.take n) := by
  have := vl_take_succ (b := b) (xs := xs) (k := n - 1) (by omega)
  rw [show n - 1 + 1 = n from by omega, hz] at this
  simpa using this.symm

theorem nrm_take {xs : List Nat} {n : Nat} (hn : n ≤ xs.length) (h : ∀ h0 : 0 < n, xs[n - 1] ≠ 0) : Nrm (xs.take n) := by
  intro h0
  have hl : (xs.take n).length = n := by rw [List.length_take]; omega
  have h0' : 0 < n := by omega
  have := h h0'
  rw [List.getElem_take]
  simpa [hl] using this
end Go.Proofs.YtoljffghaklpdaaDoor.Fr.Num


/- Slices of digits in memory: what they read as, and what keeps that. Nothing here speaks of a program's own functions. -/
namespace Go.Proofs.YtoljffghaklpdaaDoor.Fr
open Go.RowKit Num

theorem block_of_add (a : Addr) (n : Nat) : (a.add n).block = a.block := by unfold Addr.add; split <;> rfl
theorem add_of_add (a : Addr) (i j : Nat) : (a.add i).add j = a.add (i + j) := by
  unfold Addr.add
  by_cases hi : i = 0 <;> by_cases hj : j = 0 <;> simp [hi, hj, Nat.add_assoc]

/-- the base of the digits of a kind -/
def bs : IntKind → Nat
  | .u32 => 4294967296
  | .u64 => 18446744073709551616
  | _ => 1

/-- the slice value with address A, length n and capacity c reads as the digits xs of the kind k -/
structure Dg (k : IntKind) (w : World) (A : Option Addr) (n c : Nat) (xs : List Nat) : Prop where
  len : xs.length = n
  cap : n ≤ c
  top : c ≤ 9223372036854775807
  ok : Okd (bs k) xs
  cell : 0 < n → ∃ ad, A = some ad ∧ ∀ (j x : Nat), xs[j]? = some x → w.cell? (ad.add j) = some (.int k (x : Int))

section
variable {k : IntKind} {w w' : World} {A : Option Addr} {n c : Nat} {xs : List Nat}
theorem Dg.at_ (h : Dg k w A n c xs) {j : Nat} (hj : j < n) : ∃ ad x, A = some ad ∧ w.cell? (ad.add j) = some (.int k (x : Nat)) ∧ Hid (xs.getD j 0 = x ∧ x < bs k) := by
  obtain ⟨ad, e, hc⟩ := h.cell (by omega)
  have hl : j < xs.length := by rw [h.len]; exact hj
  exact ⟨ad, xs[j], e, hc j _ (List.getElem?_eq_getElem hl), getD_in hl, h.ok.get hl⟩
theorem Dg.keep (h : Dg k w A n c xs) (hk : ∀ p : Addr, p.block < w.heap.size → w'.cell? p = w.cell? p) : Dg k w' A n c xs :=
  ⟨h.len, h.cap, h.top, h.ok, fun hn => by
    obtain ⟨ad, e, hc⟩ := h.cell hn
    exact ⟨ad, e, fun j x hx => by
      have := hc j x hx
      rw [hk _ (World.block_lt_of_cell? _ _ this)]; exact this⟩⟩
theorem Dg.below (h : Dg k w A n c xs) (hb : Below w.heap.size w w') : Dg k w' A n c xs := h.keep fun _ hp => hb.cell hp
theorem Dg.drew (h : Dg k w A n c xs) : Dg k w.drew A n c xs := ⟨h.len, h.cap, h.top, h.ok, h.cell⟩
theorem Dg.drewN (h : Dg k w A n c xs) (i : Nat) : Dg k (w.drewN i) A n c xs := ⟨h.len, h.cap, h.top, h.ok, h.cell⟩
theorem Dg.alloc (h : Dg k w A n c xs) (o : Obj) : Dg k (w.alloc o) A n c xs := h.keep fun p hp => World.cell?_alloc_lt w o p hp
theorem Dg.take (h : Dg k w A n c xs) {m : Nat} (hm : m ≤ n) : Dg k w A m c (xs.take m) :=
  ⟨by rw [List.length_take, h.len]; omega, by have := h.cap; omega, h.top, h.ok.take m, fun hp => by
    obtain ⟨ad, e, hc⟩ := h.cell (by omega)
    exact ⟨ad, e, fun j x hx => hc j x (by
      rw [List.getElem?_take] at hx
      split at hx
      · exact hx
      · cases hx)⟩⟩
theorem Dg.nil (k : IntKind) (w : World) : Dg k w none 0 0 [] := ⟨rfl, Nat.le_refl _, by decide, Okd.nil _, fun h => absurd h (by omega)⟩
end

/-- the length that is left if the digits 0 at the end of the first k ones are left out -/
def tln (xs : List Nat) : Nat → Nat
  | 0 => 0
  | k + 1 => if xs.getD k 0 = 0 then tln xs k else k + 1
def tl (xs : List Nat) : Nat := tln xs xs.length
/-- the digits without those zeros -/
def tr (xs : List Nat) : List Nat := xs.take (tl xs)

theorem tln_le (xs : List Nat) (k : Nat) : tln xs k ≤ k := by
  induction k with
  | zero => exact Nat.le_refl _
  | succ k ih => unfold tln; split <;> omega
theorem tl_le (xs : List Nat) : tl xs ≤ xs.length := tln_le _ _
theorem tln_zero {xs : List Nat} {k : Nat} (h : xs.getD k 0 = 0) : tln xs (k + 1) = tln xs k := by simp only [tln]; rw [if_pos h]
theorem tln_not {xs : List Nat} {k : Nat} (h : xs.getD k 0 ≠ 0) : tln xs (k + 1) = k + 1 := by simp only [tln]; rw [if_neg h]
theorem vl_tln (b : Nat) (xs : List Nat) (k : Nat) : vl b (xs.take (tln xs k)) = vl b (xs.take k) := by
  induction k with
  | zero => rfl
  | succ k ih =>
    by_cases h : xs.getD k 0 = 0
    · rw [tln_zero h, ih, vl_take_succ_getD, h]; simp
    · rw [tln_not h]
theorem vl_tr (b : Nat) (xs : List Nat) : vl b (tr xs) = vl b xs := by
  unfold tr tl; rw [vl_tln, List.take_length]
theorem nrm_tln (xs : List Nat) (k : Nat) (hk : k ≤ xs.length) : Nrm (xs.take (tln xs k)) := by
  induction k with
  | zero => exact Nrm.nil
  | succ k ih =>
    by_cases h : xs.getD k 0 = 0
    · rw [tln_zero h]; exact ih (by omega)
    · rw [tln_not h]
      refine nrm_take hk fun _ => ?_
      rw [getD_in (by omega)] at h
      simpa using h
theorem nrm_tr (xs : List Nat) : Nrm (tr xs) := nrm_tln xs _ (Nat.le_refl _)
theorem okd_tr {b : Nat} {xs : List Nat} (h : Okd b xs) : Okd b (tr xs) := h.take _
theorem len_tr (xs : List Nat) : (tr xs).length = tl xs := by unfold tr; rw [List.length_take]; have := tl_le xs; omega
theorem tr_nrm {xs : List Nat} (h : Nrm xs) : tr xs = xs := by
  have : tl xs = xs.length := by
    unfold tl
    cases hl : xs.length with
    | zero => rfl
    | succ k =>
      apply tln_not
      have := h (by omega)
      rw [getD_in (by omega)]
      simpa [hl] using this
  unfold tr; rw [this, List.take_length]
theorem Dg.tr {k : IntKind} {w : World} {A : Option Addr} {n c : Nat} {xs : List Nat} (h : Dg k w A n c xs) : Dg k w A (tl xs) c (Go.Proofs.YtoljffghaklpdaaDoor.Fr.tr xs) := h.take (by have := tl_le xs; have := h.len; omega)
theorem len_tl {xs : List Nat} {n : Nat} (h : xs.length = n) : tl xs ≤ n := by rw [← h]; exact tl_le xs

/-- the order of two natural numbers as -1, 0 or 1 -/
def ord (x y : Nat) : Int := if x < y then -1 else if x = y then 0 else 1
theorem ord_lt {x y : Nat} (h : x < y) : ord x y = -1 := if_pos h
theorem ord_eq {x y : Nat} (h : x = y) : ord x y = 0 := by unfold ord; rw [if_neg (by omega), if_pos h]
theorem ord_gt {x y : Nat} (h : y < x) : ord x y = 1 := by unfold ord; rw [if_neg (by omega), if_neg (by omega)]

/-- of two lists of digits without zeros at the end the longer one is greater -/
theorem tr_lt {b : Nat} (hb : 1 < b) {xs ys : List Nat} (hx : Okd b xs) (h : tl xs < tl ys) : vl b xs < vl b ys := by
  rw [← vl_tr b xs, ← vl_tr b ys]
  exact vl_lt_of_length hb (okd_tr hx) (nrm_tr ys) (by rw [len_tr, len_tr]; exact h)
/-- equally long lists, the same digits from place k + 1 on: the digit at place k decides -/
theorem dig_lt {b : Nat} {xs ys : List Nat} {k x y : Nat} (hx : Okd b xs) (hl : xs.length = ys.length) (hd : xs.drop (k + 1) = ys.drop (k + 1)) (hk : k < xs.length)
    (h1 : xs.getD k 0 = x) (h2 : ys.getD k 0 = y) (h : x < y) : vl b xs < vl b ys := by
  refine vl_lt_of_digit hx hl hk hd ?_
  rw [getD_in hk] at h1
  rw [getD_in (by omega)] at h2
  omega
theorem drop_down {xs ys : List Nat} {k x : Nat} (hl : xs.length = ys.length) (hd : xs.drop (k + 1) = ys.drop (k + 1)) (hk : k < xs.length)
    (h1 : xs.getD k 0 = x) (h2 : ys.getD k 0 = x) : xs.drop k = ys.drop k := by
  rw [List.drop_eq_getElem_cons hk, List.drop_eq_getElem_cons (by omega : k < ys.length), hd]
  rw [getD_in hk] at h1
  rw [getD_in (by omega)] at h2
  rw [h1, h2]
theorem one_lt_bs32 : 1 < bs .u32 := by decide
theorem one_lt_bs64 : 1 < bs .u64 := by decide
/-- the cells of digits of a kind -/
def dcs (k : IntKind) (xs : List Nat) : List Value := xs.map fun (x : Nat) => Value.int k (x : Int)
theorem dcs_len (k : IntKind) (xs : List Nat) : (dcs k xs).length = xs.length := by simp [dcs]
theorem dcs_snoc (k : IntKind) (xs : List Nat) (x : Nat) : dcs k (xs ++ [x]) = dcs k xs ++ [.int k (x : Int)] := by simp [dcs]

theorem Dg.of_own {k : IntKind} {w : World} {base e n : Nat} {v : Value} {xs : List Nat} (h : w.ownsRow base e 1 v n (dcs k xs)) (hok : Okd (bs k) xs) :
    ∃ A c, v = .slice A n c ∧ Dg k w A n c xs := by
  obtain ⟨hl, h2⟩ := h
  have hn : xs.length = n := by rw [dcs_len] at hl; omega
  rcases h2 with ⟨rfl, rfl⟩ | ⟨g, cap, cur, rfl, h3, h4, h5, h6, h7, h8⟩
  · exact ⟨none, 0, rfl, hn, Nat.le_refl _, by decide, hok, fun h => absurd h (by omega)⟩
  · refine ⟨some ⟨g, 0, none⟩, cap, rfl, hn, h5, by simpa [maxLen] using h6, hok, fun hp => ⟨_, rfl, fun j x hx => ?_⟩⟩
    have hown : w.ownsRow base e 1 (.slice (some ⟨g, 0, none⟩) n cap) n (dcs k xs) := ⟨hl, .inr ⟨g, cap, cur, rfl, h3, h4, h5, h6, h7, h8⟩⟩
    exact hown.cells (g := g) rfl j _ (by simp [dcs, hx])

/-- the call returned a slice of at most L digits, the highest not 0, with the value x; what was there before is as it was -/
def RetN (k : IntKind) (w : World) (x L : Nat) (e : Ending) (w' : World) : Prop :=
  ∃ A m c ys, e = .returned (.slice A m c) ∧ Dg k w' A m c ys ∧ Nrm ys ∧ Hid (vl (bs k) ys = x) ∧ m ≤ L ∧ Below w.heap.size w w'

theorem RetN.tr {k : IntKind} {w w' : World} {A : Option Addr} {n c : Nat} {xs : List Nat} (h : Dg k w' A n c xs) {x L : Nat} (hx : vl (bs k) xs = x) (hL : n ≤ L) (hb : Below w.heap.size w w') :
    RetN k w x L (.returned (.slice A (tl xs) c)) w' :=
  ⟨A, _, c, _, rfl, h.tr, nrm_tr xs, show _ = _ by rw [vl_tr]; exact hx, Nat.le_trans (len_tl h.len) hL, hb⟩

theorem own_fresh {k : IntKind} {w : World} {base e n c : Nat} {A : Option Addr} {xs : List Nat} (h : w.ownsRow base e 1 (.slice A n c) n (dcs k xs)) : ∀ ad, A = some ad → base ≤ ad.block := by
  intro ad he
  subst he
  exact (h.lt ad.block rfl).1

/-- as RetN; and the digits lie in memory that the call made -/
def RetF (k : IntKind) (w : World) (x L : Nat) (e : Ending) (w' : World) : Prop :=
  ∃ A m c ys, e = .returned (.slice A m c) ∧ Dg k w' A m c ys ∧ Nrm ys ∧ Hid (vl (bs k) ys = x) ∧ m ≤ L ∧ Below w.heap.size w w' ∧ Hid (∀ ad, A = some ad → w.heap.size ≤ ad.block)
theorem RetF.n {k : IntKind} {w w' : World} {x L : Nat} {e : Ending} (h : RetF k w x L e w') : RetN k w x L e w' := by
  obtain ⟨A, m, c, ys, h1, h2, h3, h4, h5, h6, _⟩ := h
  exact ⟨A, m, c, ys, h1, h2, h3, h4, h5, h6⟩
theorem RetF.tr {k : IntKind} {w w' : World} {A : Option Addr} {n c : Nat} {xs : List Nat} (h : Dg k w' A n c xs) {x L : Nat} (hx : vl (bs k) xs = x) (hL : n ≤ L) (hb : Below w.heap.size w w') (hf : ∀ ad, A = some ad → w.heap.size ≤ ad.block) :
    RetF k w x L (.returned (.slice A (tl xs) c)) w' :=
  ⟨A, _, c, _, rfl, h.tr, nrm_tr xs, show _ = _ by rw [vl_tr]; exact hx, Nat.le_trans (len_tl h.len) hL, hb, hf⟩
theorem Dg.far {k : IntKind} {w : World} {A : Option Addr} {n c : Nat} {xs : List Nat} (h : Dg k w A n c xs) {g : Nat} (hf : ∀ ad, A = some ad → g < ad.block) (i : Nat) (u : Value) : Dg k (w.setCell ⟨g, i, none⟩ u) A n c xs :=
  ⟨h.len, h.cap, h.top, h.ok, fun hp => by
    obtain ⟨ad, e, hc⟩ := h.cell hp
    refine ⟨ad, e, fun j x hx => ?_⟩
    rw [World.cell?_setCell_other w _ _ u (fun e2 => by have h2 := congrArg Addr.block e2; rw [block_of_add] at h2; have := hf ad e; simp at h2; omega)]
    exact hc j x hx⟩

/-- one step of adding: a digit and what is carried -/
theorem plus_step {xs ys zs : List Nat} {i cr x y : Nat} (hz : zs.length = i) (hv : vl (bs .u32) zs + bs .u32 ^ i * cr = vl (bs .u32) (xs.take i) + vl (bs .u32) (ys.take i))
    (hx : xs.getD i 0 = x) (hy : ys.getD i 0 = y) :
    vl (bs .u32) (zs ++ [(cr + x + y) % 4294967296]) + bs .u32 ^ (i + 1) * ((cr + x + y) / 4294967296) = vl (bs .u32) (xs.take (i + 1)) + vl (bs .u32) (ys.take (i + 1)) := by
  rw [vl_snoc, hz, vl_take_succ_getD, vl_take_succ_getD, hx, hy, Nat.pow_succ, Nat.mul_assoc]
  have h1 : (cr + x + y) % 4294967296 + bs .u32 * ((cr + x + y) / 4294967296) = cr + x + y := by show _ + 4294967296 * _ = _; omega
  have h2 : bs .u32 ^ i * ((cr + x + y) % 4294967296) + bs .u32 ^ i * (bs .u32 * ((cr + x + y) / 4294967296)) = bs .u32 ^ i * (cr + x + y) := by rw [← Nat.mul_add, h1]
  have h3 : bs .u32 ^ i * (cr + x + y) = bs .u32 ^ i * cr + bs .u32 ^ i * x + bs .u32 ^ i * y := by rw [Nat.mul_add, Nat.mul_add]
  omega
/-- one step of subtracting -/
theorem minus_step {xs ys zs : List Nat} {k br br' x y d : Nat} (hz : zs.length = k) (hv : vl (bs .u32) zs + vl (bs .u32) (ys.take k) = vl (bs .u32) (xs.take k) + bs .u32 ^ k * br)
    (hx : xs.getD k 0 = x) (hy : ys.getD k 0 = y) (hd : d + (br + y) = x + bs .u32 * br') :
    vl (bs .u32) (zs ++ [d]) + vl (bs .u32) (ys.take (k + 1)) = vl (bs .u32) (xs.take (k + 1)) + bs .u32 ^ (k + 1) * br' := by
  rw [vl_snoc, hz, vl_take_succ_getD, vl_take_succ_getD, hx, hy, Nat.pow_succ, Nat.mul_assoc]
  have h2 : bs .u32 ^ k * (d + (br + y)) = bs .u32 ^ k * (x + bs .u32 * br') := by rw [hd]
  rw [Nat.mul_add, Nat.mul_add, Nat.mul_add] at h2
  omega
theorem minus_end {b : Nat} {xs ys zs : List Nat} {n br : Nat} (hxl : xs.length = n) (hzl : zs.length = n) (hzo : Okd b zs) (hle : vl b ys ≤ vl b xs) (hxo : Okd b xs) (hbr : br ≤ 1)
    (hv : vl b zs + vl b (ys.take n) = vl b (xs.take n) + b ^ n * br) : vl b zs = vl b xs - vl b ys := by
  have e1 : xs.take n = xs := List.take_of_length_le (by omega)
  rw [e1] at hv
  have hz := vl_lt hzo
  have hx := vl_lt hxo
  rw [hzl] at hz
  rw [hxl] at hx
  have e2 : vl b (ys.take n) = vl b ys := by
    by_cases hn : n ≤ ys.length
    · have := vl_take_drop b ys n hn
      by_cases h0 : vl b (ys.drop n) = 0
      · rw [h0] at this; omega
      · have : b ^ n * 1 ≤ b ^ n * vl b (ys.drop n) := Nat.mul_le_mul_left _ (by omega)
        omega
    · rw [List.take_of_length_le (by omega)]
  rw [e2] at hv
  have : br = 0 ∨ br = 1 := by omega
  rcases this with rfl | rfl
  · omega
  · rw [Nat.mul_one] at hv
    omega
end Go.Proofs.YtoljffghaklpdaaDoor.Fr

namespace Go.Proofs.YtoljffghaklpdaaDoor.Fr
open Go.RowKit Num

/-- block g begins with the digits xs of the kind k, none frozen -/
def Mk (w : World) (g : Nat) (t : TypeId) (k : IntKind) (xs : List Nat) : Prop := ∃ cs : Array Value, w.heap[g]? = some (.cells cs t (0, 0)) ∧ cs.toList.take xs.length = dcs k xs

section
variable {w w' : World} {g : Nat} {t : TypeId} {k : IntKind} {xs : List Nat}
theorem Mk.lt (h : Mk w g t k xs) : g < w.heap.size := by
  obtain ⟨cs, h, _⟩ := h
  rcases Nat.lt_or_ge g w.heap.size with hlt | hge
  · exact hlt
  · rw [Array.getElem?_eq_none hge] at h; cases h
theorem Mk.cell (h : Mk w g t k xs) {i : Nat} (hi : i < xs.length) : w.cell? ⟨g, i, none⟩ = some (.int k ((xs.getD i 0 : Nat) : Int)) := by
  obtain ⟨cs, h, h2⟩ := h
  rw [cell_of_row w g i _ t (0, 0) h, getD_in hi]
  have h3 : (cs.toList.take xs.length)[i]? = (dcs k xs)[i]? := by rw [h2]
  rw [List.getElem?_take, if_pos hi] at h3
  rw [← Array.getElem?_toList, h3]
  simp [dcs, hi]
theorem Mk.frozen (h : Mk w g t k xs) (i : Nat) : w.frozen? ⟨g, i, none⟩ = false := by
  obtain ⟨cs, h, _⟩ := h
  simp [World.frozen?, h]
theorem Mk.new (w : World) (t : TypeId) (k : IntKind) (xs : List Nat) : Mk (w.alloc (.cells (dcs k xs).toArray t)) w.heap.size t k xs :=
  ⟨_, heap_alloc_new w _, by simp [List.take_of_length_le, dcs_len]⟩
theorem Mk.drew (h : Mk w g t k xs) : Mk w.drew g t k xs := h
theorem Mk.drewN (h : Mk w g t k xs) (n : Nat) : Mk (w.drewN n) g t k xs := h
theorem Mk.alloc (h : Mk w g t k xs) (o : Obj) : Mk (w.alloc o) g t k xs := by
  have hl := h.lt
  obtain ⟨cs, h, h2⟩ := h
  exact ⟨cs, (Below.heap_alloc w o g hl).trans h, h2⟩
theorem Mk.set_ (h : Mk w g t k xs) (i v : Nat) : Mk (w.setCell ⟨g, i, none⟩ (.int k (v : Int))) g t k (xs.set i v) := by
  obtain ⟨cs, h, h2⟩ := h
  refine ⟨cs.setIfInBounds i (.int k (v : Int)), by simp [World.setCell, Array.getElem?_modify, h], ?_⟩
  rw [List.length_set, Array.toList_setIfInBounds, List.take_set, h2]
  simp [dcs, List.map_set]
theorem Mk.far (h : Mk w g t k xs) {p : Addr} (hp : g ≠ p.block) (u : Value) : Mk (w.setCell p u) g t k xs := by
  obtain ⟨cs, h, h2⟩ := h
  exact ⟨cs, (Below.heap_setCell w p u g hp).trans h, h2⟩
theorem Mk.below {B : Nat} (h : Mk w g t k xs) (hb : Below B w w') (hg : g < B) : Mk w' g t k xs := by
  obtain ⟨cs, h, h2⟩ := h
  exact ⟨cs, (hb.block g hg).trans h, h2⟩
theorem Mk.grown {row : Option Nat} (h : Mk w g t k xs) (hb : w.grownBy w' row) (hg : some g ≠ row) : Mk w' g t k xs := by
  have hl := h.lt
  obtain ⟨cs, h, h2⟩ := h
  exact ⟨cs, (hb.block g hl hg).trans h, h2⟩
theorem Mk.dg (h : Mk w g t k xs) {n : Nat} (hn : xs.length = n) (ht : n ≤ 1000000) (hok : Okd (bs k) xs) : Dg k w (some ⟨g, 0, none⟩) n n xs :=
  ⟨hn, Nat.le_refl _, by omega, hok, fun _ => ⟨_, rfl, fun j x hx => by
    have hj : j < xs.length := by
      rcases Nat.lt_or_ge j xs.length with h | h
      · exact h
      · rw [List.getElem?_eq_none h] at hx; cases hx
    have hc := h.cell hj
    rw [getD_in hj] at hc
    rw [List.getElem?_eq_getElem hj] at hx
    injection hx with hx
    subst hx
    have e : (⟨g, 0, none⟩ : Addr).add j = ⟨g, j, none⟩ := by
      unfold Addr.add
      split
      · subst j; rfl
      · simp
    rw [e]; exact hc⟩⟩
end

theorem bel_drewN {B : Nat} {a w : World} (h : Below B a w) (n : Nat) : Below B a (w.drewN n) := ⟨h.os, h.tape, h.output, h.size, h.block⟩

/-- n zeros -/
def zs (n : Nat) : List Nat := List.replicate n 0
theorem zs_len (n : Nat) : (zs n).length = n := List.length_replicate
theorem zs_ok {b : Nat} (hb : 0 < b) (n : Nat) : Okd b (zs n) := Okd.replicate hb n
theorem zs_vl (b n : Nat) : vl b (zs n) = 0 := vl_replicate b n
theorem made_zs (k : IntKind) (n : Nat) : madeCells #[Value.int k 0] n = (dcs k (zs n)).toArray := by
  apply Array.ext
  · simp [size_madeCells, dcs, zs]
  · intro i h1 h2
    simp [madeCells, dcs, zs, Nat.mod_one]

theorem vl_mod (b : Nat) (xs : List Nat) (d : Nat) (hd : b % d = 0) : vl b xs % d = xs.getD 0 0 % d := by
  cases xs with
  | nil => rfl
  | cons x xs =>
    rw [vl_cons, Nat.add_mod, Nat.mul_mod, hd]
    simp
theorem vl_drop_pred {b : Nat} {xs : List Nat} {k x : Nat} (hk : k < xs.length) (hx : xs.getD k 0 = x) : vl b (xs.drop k) = x + b * vl b (xs.drop (k + 1)) := by
  rw [List.drop_eq_getElem_cons hk, vl_cons]
  rw [getD_in hk] at hx
  rw [hx]
theorem vl_drop_set {b : Nat} {xs : List Nat} {k d : Nat} (hk : k < xs.length) : vl b ((xs.set k d).drop k) = d + b * vl b (xs.drop (k + 1)) := by
  have h1 : k < (xs.set k d).length := by rw [List.length_set]; exact hk
  rw [List.drop_eq_getElem_cons h1, vl_cons, List.getElem_set_self, List.drop_set_of_lt (by omega)]
theorem nrm_one {xs : List Nat} {x : Nat} (hn : Nrm xs) (ho : Okd (bs .u32) xs) (h : xs.length = 1) (hx : xs.getD 0 0 = x) : vl (bs .u32) xs = x := by
  match xs, h with
  | [y], _ => simpa [vl] using hx
theorem one_of {b : Nat} (hb : 1 < b) {xs : List Nat} (hn : Nrm xs) (ho : Okd b xs) (h : vl b xs = 1) : xs = [1] :=
  Nrm.unique hb ho (by intro x hx; simp at hx; omega) hn (by intro _; simp) (by rw [h]; simp [vl])

/-- a digit of an argument, read also behind a store into a block that the call made -/
theorem Dg.at2 {k : IntKind} {w wr : World} {A : Option Addr} {n c : Nat} {xs : List Nat} (h : Dg k w A n c xs) (hb : Below w.heap.size w wr) {j : Nat} (hj : j < n) :
    ∃ ad x, A = some ad ∧ wr.cell? (ad.add j) = some (.int k (x : Nat)) ∧ (∀ g i u, w.heap.size ≤ g → (wr.setCell ⟨g, i, none⟩ u).cell? (ad.add j) = some (.int k (x : Nat))) ∧ Hid (xs.getD j 0 = x ∧ x < bs k) := by
  obtain ⟨ad, x, e, hc, hx⟩ := h.at_ hj
  have hlt := World.block_lt_of_cell? _ _ hc
  have hc' : wr.cell? (ad.add j) = some (.int k (x : Nat)) := (hb.cell hlt).trans hc
  refine ⟨ad, x, e, hc', fun g i u hg => ?_, hx⟩
  rw [World.cell?_setCell_other wr _ _ u (fun e => by have := congrArg Addr.block e; simp at this; omega)]
  exact hc'

theorem or_add {a b : Nat} (k : Nat) (h : a < 2 ^ k) : a ||| b * 2 ^ k = a + b * 2 ^ k := by
  rw [Nat.or_comm, Nat.mul_comm, ← Nat.two_pow_add_eq_or_of_lt h b]; omega
theorem u32_half (x c : Nat) (hx : x ≤ 4294967295) (hc : c ≤ 1) : bits .or .u32 ((x : Int) / 2) ((c : Int) * 2147483648) = ((x / 2 + c * 2147483648 : Nat) : Int) := by
  have h := or_add (a := x / 2) (b := c) 31 (by omega)
  have e := u32_or_nat (x / 2) (c * 2147483648) (by omega) (by omega)
  rw [show x / 2 ||| c * 2147483648 = x / 2 + c * 2147483648 from h] at e
  have e1 : ((x / 2 : Nat) : Int) = (x : Int) / 2 := by omega
  have e2 : ((c * 2147483648 : Nat) : Int) = (c : Int) * 2147483648 := by omega
  rw [e1, e2] at e
  exact e

/-- how many binary digits a number has -/
def bl (x : Nat) : Nat := if x = 0 then 0 else x.log2 + 1
theorem bl_zero : bl 0 = 0 := rfl
theorem bl_half {x : Nat} (h : 0 < x) : bl x = bl (x / 2) + 1 := by
  unfold bl
  rw [if_neg (by omega)]
  by_cases h2 : 2 ≤ x
  · rw [if_neg (by omega), Nat.log2_def, if_pos h2]
  · have : x = 1 := by omega
    subst this; rfl
theorem bl_shift {x : Nat} (hx : 0 < x) : ∀ {k y : Nat}, y < 2 ^ k → bl (y + 2 ^ k * x) = k + bl x := by
  intro k
  induction k with
  | zero => intro y hy; have : y = 0 := by omega
            subst this; simp
  | succ k ih =>
    intro y hy
    have hp : 0 < 2 ^ (k + 1) * x := Nat.mul_pos (Nat.two_pow_pos _) hx
    have e : (y + 2 ^ (k + 1) * x) / 2 = y / 2 + 2 ^ k * x := by
      rw [Nat.pow_succ, Nat.mul_comm (2 ^ k) 2, Nat.mul_assoc]; omega
    rw [bl_half (by omega), e, ih (by rw [Nat.pow_succ] at hy; omega)]
    omega
theorem lt_bl (x : Nat) : x < 2 ^ bl x := by
  unfold bl
  split
  · omega
  · exact Nat.lt_log2_self
theorem bl_le {x k : Nat} (h : x < 2 ^ k) : bl x ≤ k := by
  unfold bl
  split
  · omega
  · rename_i h0
    have := (Nat.log2_lt h0).2 h
    omega
theorem bs32_pow (k : Nat) : bs .u32 ^ k = 2 ^ (32 * k) := by rw [Nat.pow_mul]; rfl
theorem bs64_pow (k : Nat) : bs .u64 ^ k = 2 ^ (64 * k) := by rw [Nat.pow_mul]; rfl
theorem bl_vl {xs : List Nat} {n x : Nat} (hl : xs.length = n + 1) (hok : Okd (bs .u32) xs) (hx : xs.getD n 0 = x) (h0 : 0 < x) : bl (vl (bs .u32) xs) = 32 * n + bl x := by
  have h := vl_take_drop (bs .u32) xs n (by omega)
  have h2 := vl_drop_pred (b := bs .u32) (by omega : n < xs.length) hx
  rw [List.drop_eq_nil_of_le (by omega : xs.length ≤ n + 1), vl_nil, Nat.mul_zero, Nat.add_zero] at h2
  have h3 := vl_lt (hok.take n)
  rw [List.length_take, Nat.min_eq_left (by omega), bs32_pow] at h3
  rw [h, h2, bs32_pow]
  exact bl_shift h0 h3
theorem nrm_top {xs : List Nat} {n x : Nat} (hn : Nrm xs) (hl : xs.length = n + 1) (hx : xs.getD n 0 = x) : 0 < x := by
  have := hn (by omega)
  rw [getD_in (by omega)] at hx
  have e : xs[xs.length - 1] = xs[n] := by congr 1; omega
  omega

theorem vl_take_set {b : Nat} {xs : List Nat} {m k d c : Nat} (hk : k < m) (hm : m ≤ xs.length) (hc : xs.getD k 0 = c) : vl b ((xs.set k d).take m) + b ^ k * c = vl b (xs.take m) + b ^ k * d := by
  have h1 := vl_take_drop b (xs.take m) k (by rw [List.length_take]; omega)
  have h2 := vl_take_drop b ((xs.set k d).take m) k (by rw [List.length_take, List.length_set]; omega)
  have e1 : ((xs.set k d).take m).take k = (xs.take m).take k := by
    rw [List.take_take, List.take_take, Nat.min_eq_left (by omega), List.take_set_of_le (by omega)]
  have e2 := vl_drop_pred (b := b) (xs := xs.take m) (k := k) (x := c) (by rw [List.length_take]; omega) (by
    rw [getD_in (by rw [List.length_take]; omega), List.getElem_take]; rw [getD_in (by omega)] at hc; exact hc)
  have e3 := vl_drop_pred (b := b) (xs := (xs.set k d).take m) (k := k) (x := d) (by rw [List.length_take, List.length_set]; omega) (by
    rw [getD_in (by rw [List.length_take, List.length_set]; omega), List.getElem_take, List.getElem_set_self])
  have e4 : ((xs.set k d).take m).drop (k + 1) = (xs.take m).drop (k + 1) := by
    rw [List.drop_take, List.drop_take, List.drop_set_of_lt (by omega)]
  rw [h1, h2, e1, e2, e3, e4]
  simp only [Nat.mul_add]
  omega

/-- the inner loop of 'times': one digit more -/
theorem times_step {b : Nat} {cur ys : List Nat} {P i j m cy c d x y : Nat} (hm : m ≤ cur.length) (hk : i + j < m) (hc : cur.getD (i + j) 0 = c) (hy : ys.getD j 0 = y)
    (hv : vl b (cur.take m) + b ^ (i + j) * cy = P + b ^ i * (x * vl b (ys.take j))) {cy' : Nat} (hd : d + b * cy' = cy + c + x * y) :
    vl b ((cur.set (i + j) d).take m) + b ^ (i + (j + 1)) * cy' = P + b ^ i * (x * vl b (ys.take (j + 1))) := by
  have h1 := vl_take_set (b := b) (d := d) hk hm hc
  rw [vl_take_succ_getD, hy, Nat.mul_add x, Nat.mul_add (b ^ i)]
  have h2 : b ^ (i + j) * (d + b * cy') = b ^ (i + j) * (cy + c + x * y) := by rw [hd]
  simp only [Nat.mul_add] at h2
  have h3 : b ^ (i + (j + 1)) * cy' = b ^ (i + j) * (b * cy') := by rw [← Nat.add_assoc, Nat.pow_succ, Nat.mul_assoc]
  have h4 : b ^ i * (x * (b ^ j * y)) = b ^ (i + j) * (x * y) := by
    rw [Nat.pow_add, Nat.mul_assoc, Nat.mul_left_comm x]
  rw [h3, h4]
  omega
/-- the outer loop of 'times': the digit that is carried is laid down -/
theorem times_next {b : Nat} {cur xs ys : List Nat} {i n' cy x : Nat} (hl : i + n' < cur.length) (hx : xs.getD i 0 = x) (hyl : ys.length = n')
    (hv : vl b (cur.take (i + n')) + b ^ (i + n') * cy = vl b (xs.take i) * vl b ys + b ^ i * (x * vl b (ys.take n'))) :
    vl b ((cur.set (i + n') cy).take (i + 1 + n')) = vl b (xs.take (i + 1)) * vl b ys := by
  rw [show i + 1 + n' = (i + n') + 1 by omega, vl_take_succ (by rw [List.length_set]; exact hl), List.getElem_set_self, List.take_set_of_le (by omega), hv,
    List.take_of_length_le (by omega : ys.length ≤ n'), vl_take_succ_getD, hx, Nat.add_mul, Nat.mul_assoc]
theorem mul_bd {x y : Nat} (hx : x ≤ 4294967295) (hy : y ≤ 4294967295) : x * y ≤ 18446744065119617025 := Nat.mul_le_mul hx hy

theorem odd_gcd_half {u v : Nat} (hu : u % 2 = 0) (ho : (u.gcd v) % 2 = 1) : (u / 2).gcd v = u.gcd v := by
  have e : u = 2 * (u / 2) := by omega
  have hv : v % 2 = 1 := by
    by_cases hv : v % 2 = 0
    · exfalso
      have := Nat.dvd_gcd (Nat.dvd_of_mod_eq_zero hu) (Nat.dvd_of_mod_eq_zero hv)
      have := Nat.mod_eq_zero_of_dvd this
      omega
    · omega
  have hc : Nat.Coprime 2 v := by
    unfold Nat.Coprime
    rw [Nat.gcd_rec, hv]
    rfl
  conv => rhs; rw [e]
  rw [Nat.Coprime.gcd_mul_left_cancel _ hc]
theorem odd_gcd_half' {u v : Nat} (hv : v % 2 = 0) (ho : (u.gcd v) % 2 = 1) : u.gcd (v / 2) = u.gcd v := by
  rw [Nat.gcd_comm u v] at ho ⊢
  rw [Nat.gcd_comm, odd_gcd_half hv ho]
theorem even_gcd {u v : Nat} (hu : u % 2 = 0) (hv : v % 2 = 0) : u.gcd v = 2 * (u / 2).gcd (v / 2) := by
  rw [← Nat.gcd_mul_left]; congr 1 <;> omega
theorem odd_of_left {u v : Nat} (h : u % 2 = 1) : (u.gcd v) % 2 = 1 := by
  have h1 := Nat.gcd_dvd_left u v
  obtain ⟨k, hk⟩ := h1
  by_cases h0 : u.gcd v % 2 = 0
  · exfalso
    have : u % 2 = 0 := by rw [hk, Nat.mul_mod, h0]; simp
    omega
  · omega
theorem odd_of_right {u v : Nat} (h : v % 2 = 1) : (u.gcd v) % 2 = 1 := by rw [Nat.gcd_comm]; exact odd_of_left h
theorem len_le_of {b : Nat} (hb : 1 < b) {xs ys : List Nat} (hy : Okd b ys) (hn : Nrm xs) (h : vl b xs ≤ vl b ys) : xs.length ≤ ys.length := by
  rcases Nat.lt_or_ge ys.length xs.length with hl | hl
  · have := vl_lt_of_length hb hy hn hl; omega
  · exact hl
theorem nz_len {b : Nat} {xs : List Nat} (h : 0 < vl b xs) : 0 < xs.length := by
  cases xs with
  | nil => simp [vl] at h
  | cons x xs => simp
theorem ord_pos {x y : Nat} : (0 < ord x y) ↔ y < x := by
  unfold ord
  split
  · omega
  · split <;> omega
theorem ord_nonneg {x y : Nat} : (0 ≤ ord x y) ↔ y ≤ x := by
  unfold ord
  split
  · omega
  · split <;> omega

/-- the slice value v reads as the natural number x, without zeros at the end, with at most L digits -/
def NV (k : IntKind) (w : World) (v : Value) (x L : Nat) : Prop := ∃ A m c us, v = .slice A m c ∧ Dg k w A m c us ∧ Nrm us ∧ Hid (vl (bs k) us = x) ∧ m ≤ L
theorem NV.below {k : IntKind} {w w' : World} {v : Value} {x L : Nat} (h : NV k w v x L) (hb : Below w.heap.size w w') : NV k w' v x L := by
  obtain ⟨A, m, c, us, e, hD, h2⟩ := h
  exact ⟨A, m, c, us, e, hD.below hb, h2⟩
theorem NV.mk {k : IntKind} {w : World} {A : Option Addr} {m c x L : Nat} {us : List Nat} (hD : Dg k w A m c us) (hn : Nrm us) (hv : Hid (vl (bs k) us = x)) (hL : m ≤ L) : NV k w (.slice A m c) x L := ⟨A, m, c, us, rfl, hD, hn, hv, hL⟩
end Go.Proofs.YtoljffghaklpdaaDoor.Fr

namespace Go.Proofs.YtoljffghaklpdaaDoor.Fr
open Go.RowKit Num

theorem Dg.lit1 (k : IntKind) (w : World) (t : TypeId) (r : Nat) (hr : r < bs k) : Dg k (w.alloc (.cells #[.int k (r : Int)] t)) (some ⟨w.heap.size, 0, none⟩) 1 1 [r] :=
  (Mk.new w t k [r]).dg rfl (by omega) (by intro x hx; simp at hx; omega)

theorem Dg.lit2 (k : IntKind) (w : World) (t : TypeId) (r s : Nat) (hr : r < bs k) (hs : s < bs k) : Dg k (w.alloc (.cells #[.int k (r : Int), .int k (s : Int)] t)) (some ⟨w.heap.size, 0, none⟩) 2 2 [r, s] :=
  (Mk.new w t k [r, s]).dg rfl (by omega) (by intro x hx; simp at hx; omega)

/-- 'rest << 32 | digit' -/
theorem u64_join (r x : Nat) (hr : r ≤ 4294967295) (hx : x ≤ 4294967295) : bits .or .u64 ((r : Int) * 4294967296) (x : Int) = ((r * 4294967296 + x : Nat) : Int) := by
  have h := or_add (a := x) (b := r) 32 (by omega)
  have e := u64_or_nat (r * 4294967296) x (by omega) (by omega)
  rw [Nat.or_comm, show x ||| r * 4294967296 = x + r * 4294967296 from h] at e
  rw [Int.natCast_mul] at e
  rw [show ((r * 4294967296 + x : Nat) : Int) = ((x + r * 4294967296 : Nat) : Int) by omega]
  exact e

/-- one digit more of a division by a number y of one digit -/
theorem div1_step {x y r V : Nat} (hy : 0 < y) (hr : r = V % y) : (x + 4294967296 * V) / y = (r * 4294967296 + x) / y + 4294967296 * (V / y) ∧ (x + 4294967296 * V) % y = (r * 4294967296 + x) % y := by
  subst hr
  have e : x + 4294967296 * V = (V % y * 4294967296 + x) + y * (4294967296 * (V / y)) := by
    have := Nat.div_add_mod V y
    have h2 : 4294967296 * V = 4294967296 * (y * (V / y)) + 4294967296 * (V % y) := by rw [← Nat.mul_add, this]
    rw [h2, Nat.mul_left_comm y]; omega
  constructor
  · rw [e, Nat.add_mul_div_left _ _ hy]
  · rw [e, Nat.add_mul_mod_self_left]
theorem div1_lt {x y r : Nat} (hr : r < y) (hx : x < 4294967296) : (r * 4294967296 + x) / y < 4294967296 := by
  rw [Nat.div_lt_iff_lt_mul (by omega)]
  have : (r + 1) * 4294967296 ≤ y * 4294967296 := Nat.mul_le_mul_right _ hr
  rw [Nat.add_mul] at this
  rw [Nat.mul_comm]
  omega

theorem div1_cast (r x y : Nat) (h : (r * 4294967296 + x) / y < 4294967296) : ((r : Int) * 4294967296 + (x : Int)) / (y : Int) % 4294967296 = (((r * 4294967296 + x) / y : Nat) : Int) := by
  have e : ((r : Int) * 4294967296 + (x : Int)) / (y : Int) = (((r * 4294967296 + x) / y : Nat) : Int) := by
    rw [Int.natCast_ediv, Int.natCast_add, Int.natCast_mul]; rfl
  rw [e]
  generalize (r * 4294967296 + x) / y = q at h
  omega
theorem div1_castm (r x y : Nat) : ((r : Int) * 4294967296 + (x : Int)) % (y : Int) = (((r * 4294967296 + x) % y : Nat) : Int) := by
  rw [Int.natCast_emod, Int.natCast_add, Int.natCast_mul]; rfl

theorem bit_and (x s : Nat) (hx : x ≤ 4294967295) : bits .and .u32 ((x : Int) / 2 ^ s) 1 = ((x / 2 ^ s % 2 : Nat) : Int) := by
  have h1 : x / 2 ^ s ≤ x := Nat.div_le_self _ _
  have e := u32_and_nat (x / 2 ^ s) 1 (by omega) (by omega)
  rw [nat_mask1] at e
  rw [← e, Int.natCast_ediv, Int.natCast_pow]; rfl

/-- a digit of a number -/
theorem getD_vl {b : Nat} {xs : List Nat} (hok : Okd b xs) (hb : 0 < b) (j : Nat) : xs.getD j 0 = vl b xs / b ^ j % b := by
  rcases Nat.lt_or_ge j xs.length with hj | hj
  · have h1 := vl_take_drop b xs j (by omega)
    have h2 := vl_drop_pred (b := b) hj rfl
    have h3 := vl_lt (hok.take j)
    rw [List.length_take, Nat.min_eq_left (by omega)] at h3
    rw [h1, Nat.add_mul_div_left _ _ (Nat.pow_pos hb), Nat.div_eq_of_lt h3, Nat.zero_add, h2, Nat.add_mul_mod_self_left, Nat.mod_eq_of_lt (hok.getD hb j)]
  · have h := vl_lt hok
    have h2 : b ^ xs.length ≤ b ^ j := Nat.pow_le_pow_right hb hj
    rw [getD_out hj, Nat.div_eq_of_lt (by omega), Nat.zero_mod]

/-- bit i of a number is bit i % 32 of its digit i / 32 -/
theorem bit_of_digit {xs : List Nat} (hok : Okd (bs .u32) xs) (i : Nat) : xs.getD (i / 32) 0 / 2 ^ (i % 32) % 2 = vl (bs .u32) xs / 2 ^ i % 2 := by
  rw [getD_vl hok (by decide), bs32_pow]
  generalize vl (bs .u32) xs = X
  have hs : i % 32 < 32 := Nat.mod_lt _ (by decide)
  have e : (2 : Nat) ^ i = 2 ^ (32 * (i / 32)) * 2 ^ (i % 32) := by rw [← Nat.pow_add]; congr 1; omega
  rw [e, ← Nat.div_div_eq_div_mul]
  generalize X / 2 ^ (32 * (i / 32)) = Y
  have e2 : bs .u32 = 2 ^ (i % 32) * (2 * 2 ^ (31 - i % 32)) := by
    rw [← Nat.mul_assoc, Nat.mul_comm _ 2, Nat.mul_assoc, ← Nat.pow_add, ← Nat.pow_succ', show (i % 32 + (31 - i % 32)).succ = 32 by omega]
    rfl
  rw [e2, Nat.mod_mul_right_div_self, Nat.mod_mul_right_mod]

/-- the digit in which bit i is to be set has no bit from i % 32 on down -/
theorem digit_room {xs : List Nat} (hok : Okd (bs .u32) xs) {i q : Nat} (h : vl (bs .u32) xs = q * 2 ^ (i + 1)) : xs.getD (i / 32) 0 % 2 ^ (i % 32 + 1) = 0 := by
  rw [getD_vl hok (by decide), bs32_pow, h]
  have hs : i % 32 < 32 := Nat.mod_lt _ (by decide)
  have e : (2 : Nat) ^ (i + 1) = 2 ^ (32 * (i / 32)) * 2 ^ (i % 32 + 1) := by rw [← Nat.pow_add]; congr 1; omega
  rw [e, Nat.mul_left_comm, Nat.mul_div_cancel_left _ (Nat.two_pow_pos _)]
  have e2 : bs .u32 = 2 ^ (i % 32 + 1) * 2 ^ (31 - i % 32) := by
    rw [← Nat.pow_add, show i % 32 + 1 + (31 - i % 32) = 32 by omega]; rfl
  rw [e2, Nat.mod_mul_right_mod, Nat.mul_mod_left]
theorem or_room {d s : Nat} (h : d % 2 ^ (s + 1) = 0) : d ||| 2 ^ s = d + 2 ^ s := by
  have e : d = 2 ^ (s + 1) * (d / 2 ^ (s + 1)) := by have := Nat.div_add_mod d (2 ^ (s + 1)); omega
  have h2 : 2 ^ s < 2 ^ (s + 1) := Nat.pow_lt_pow_right (by decide) (Nat.lt_succ_self s)
  have h3 := Nat.two_pow_add_eq_or_of_lt h2 (d / 2 ^ (s + 1))
  rw [← e] at h3
  exact h3.symm
theorem room_lt {d s : Nat} (hd : d < 4294967296) (hs : s < 32) (h : d % 2 ^ (s + 1) = 0) : d + 2 ^ s < 4294967296 := by
  have e : d = 2 ^ (s + 1) * (d / 2 ^ (s + 1)) := by have := Nat.div_add_mod d (2 ^ (s + 1)); omega
  have e2 : 4294967296 = 2 ^ (s + 1) * 2 ^ (31 - s) := by rw [← Nat.pow_add, show s + 1 + (31 - s) = 32 by omega]
  rw [e, e2] at hd
  have h3 := Nat.lt_of_mul_lt_mul_left hd
  have h4 : 2 ^ (s + 1) * (d / 2 ^ (s + 1) + 1) ≤ 2 ^ (s + 1) * 2 ^ (31 - s) := Nat.mul_le_mul_left _ h3
  rw [Nat.mul_add, ← e2, ← e] at h4
  have h5 : 2 ^ s < 2 ^ (s + 1) := Nat.pow_lt_pow_right (by decide) (Nat.lt_succ_self s)
  omega

/-- one bit more of a division bit by bit -/
theorem bit_step {X k bit : Nat} (hbit : bit = X / 2 ^ k % 2) : X / 2 ^ k = 2 * (X / 2 ^ (k + 1)) + bit := by
  rw [Nat.pow_succ, ← Nat.div_div_eq_div_mul]; omega
theorem bit_div {Z y bit r q : Nat} (hy : 0 < y) (hb : bit ≤ 1) (hr : r = Z % y) (hq : q = Z / y) :
    (y ≤ 2 * r + bit → (2 * Z + bit) / y = 2 * q + 1 ∧ (2 * Z + bit) % y = 2 * r + bit - y) ∧ (2 * r + bit < y → (2 * Z + bit) / y = 2 * q ∧ (2 * Z + bit) % y = 2 * r + bit) := by
  subst hr hq
  have hlt := Nat.mod_lt Z hy
  have e := Nat.div_add_mod Z y
  have e1 : 2 * Z + bit = (2 * (Z % y) + bit) + y * (2 * (Z / y)) := by rw [Nat.mul_left_comm]; omega
  constructor
  · intro h
    have e2 : 2 * Z + bit = (2 * (Z % y) + bit - y) + y * (2 * (Z / y) + 1) := by rw [Nat.mul_add]; omega
    rw [e2, Nat.add_mul_div_left _ _ hy, Nat.add_mul_mod_self_left, Nat.div_eq_of_lt (by omega), Nat.mod_eq_of_lt (by omega)]
    omega
  · intro h
    rw [e1, Nat.add_mul_div_left _ _ hy, Nat.add_mul_mod_self_left, Nat.div_eq_of_lt h, Nat.mod_eq_of_lt h]
    omega

theorem or_bit {d s : Nat} (hs : s < 32) (hd : d < 4294967296) (h : d % 2 ^ (s + 1) = 0) : bits .or .u32 (d : Int) (2 ^ s % 4294967296) = ((d + 2 ^ s : Nat) : Int) := by
  have hp : 2 ^ s < 4294967296 := Nat.lt_of_lt_of_le (Nat.pow_lt_pow_right (by decide) hs) (by decide : 2 ^ 32 ≤ 4294967296)
  have e := u32_or_nat d (2 ^ s) hd hp
  rw [or_room h] at e
  rw [← e, Int.natCast_pow]
  have e2 : ((2 ^ s : Nat) : Int) = (2 : Int) ^ s := by rw [Int.natCast_pow]; rfl
  have e3 : (2 : Int) ^ s % 4294967296 = 2 ^ s := by rw [← e2]; omega
  rw [e3]; rfl

/-- setting the next bit of the quotient -/
theorem setbit {cur : List Nat} {p j Q d : Nat} (hcl : cur.length = p) (hjp : j / 32 < p) (hco : Okd (bs .u32) cur) (hd : cur.getD (j / 32) 0 = d) (hv : vl (bs .u32) cur = Q * 2 ^ (j + 1)) :
    d + 2 ^ (j % 32) < bs .u32 ∧ bits .or .u32 (d : Int) (2 ^ (j % 32) % 4294967296) = ((d + 2 ^ (j % 32) : Nat) : Int) ∧ vl (bs .u32) (cur.set (j / 32) (d + 2 ^ (j % 32))) = (2 * Q + 1) * 2 ^ j := by
  have hs : j % 32 < 32 := Nat.mod_lt _ (by decide)
  have hroom := digit_room hco (i := j) hv
  rw [hd] at hroom
  have hdb : d < 4294967296 := by rw [← hd]; exact hco.getD (by decide) _
  refine ⟨room_lt hdb hs hroom, or_bit hs hdb hroom, ?_⟩
  have h := vl_take_set (b := bs .u32) (xs := cur) (m := cur.length) (k := j / 32) (d := d + 2 ^ (j % 32)) (c := d) (by omega) (Nat.le_refl _) hd
  rw [List.take_of_length_le (by rw [List.length_set]; omega), List.take_of_length_le (Nat.le_refl _), Nat.mul_add, hv] at h
  have e : bs .u32 ^ (j / 32) * 2 ^ (j % 32) = 2 ^ j := by rw [bs32_pow, ← Nat.pow_add]; congr 1; omega
  rw [e] at h
  have e2 : (2 * Q + 1) * 2 ^ j = Q * 2 ^ (j + 1) + 2 ^ j := by rw [Nat.add_mul, Nat.pow_succ, Nat.mul_comm 2 Q, Nat.mul_assoc, Nat.mul_comm 2 (2 ^ j)]; omega
  omega
theorem nobit {Q j V : Nat} (hv : V = Q * 2 ^ (j + 1)) : V = (2 * Q) * 2 ^ j := by
  rw [hv, Nat.pow_succ, Nat.mul_comm 2 Q, Nat.mul_assoc, Nat.mul_comm 2 (2 ^ j)]
end Go.Proofs.YtoljffghaklpdaaDoor.Fr

namespace Go.Proofs.YtoljffghaklpdaaDoor.Fr
open Go.RowKit Num

/-- the struct value v is the number with the sign neg, the numerator N and the denominator D (0: none is written), without zeros at the ends, with at most L digits in each part -/
def FV (w : World) (v : Value) (neg : Bool) (N D L : Nat) : Prop := ∃ v1 v2, v = .agg #[.bool neg, v1, v2] ∧ NV .u32 w v1 N L ∧ NV .u32 w v2 D L
theorem FV.below {w w' : World} {v : Value} {neg : Bool} {N D L : Nat} (h : FV w v neg N D L) (hb : Below w.heap.size w w') : FV w' v neg N D L := by
  obtain ⟨v1, v2, e, h1, h2⟩ := h
  exact ⟨v1, v2, e, h1.below hb, h2.below hb⟩

/-- the canonical sign, numerator and denominator (0 for 1) of N / D, where D is not 0 -/
def cneg (neg : Bool) (N : Nat) : Bool := neg && decide (N ≠ 0)
def cnum (N D : Nat) : Nat := N / N.gcd D
def cden (N D : Nat) : Nat := if N = 0 then 0 else if D / N.gcd D = 1 then 0 else D / N.gcd D

/-- the call returned the canonical number of neg, N, D, in lists of at most L digits; what was there before is as it was -/
def RetQ (w : World) (neg : Bool) (N D L : Nat) (e : Ending) (w' : World) : Prop :=
  ∃ v, e = .returned v ∧ FV w' v (cneg neg N) (cnum N D) (cden N D) L ∧ Below w.heap.size w w'

/-- a denominator of 0 stands for 1 -/
def dn (D : Nat) : Nat := if D = 0 then 1 else D
theorem dn_zero : dn 0 = 1 := rfl
theorem dn_pos {D : Nat} (h : 0 < D) : dn D = D := by unfold dn; rw [if_neg (by omega)]

/-- block g holds just these cells, none frozen -/
def Blk (w : World) (g : Nat) (t : TypeId) (cs : Array Value) : Prop := w.heap[g]? = some (.cells cs t (0, 0))
section
variable {w w' : World} {g : Nat} {t : TypeId} {cs : Array Value}
theorem Blk.lt (h : Blk w g t cs) : g < w.heap.size := by
  rcases Nat.lt_or_ge g w.heap.size with hlt | hge
  · exact hlt
  · unfold Blk at h; rw [Array.getElem?_eq_none hge] at h; cases h
theorem Blk.cell (h : Blk w g t cs) (i : Nat) : w.cell? ⟨g, i, none⟩ = cs[i]? := cell_of_row w g i cs t (0, 0) h
theorem Blk.frozen (h : Blk w g t cs) (i : Nat) : w.frozen? ⟨g, i, none⟩ = false := by
  unfold Blk at h
  simp [World.frozen?, h]
theorem Blk.new (w : World) (t : TypeId) (cs : Array Value) : Blk (w.alloc (.cells cs t)) w.heap.size t cs := heap_alloc_new w _
theorem Blk.drew (h : Blk w g t cs) : Blk w.drew g t cs := h
theorem Blk.drewN (h : Blk w g t cs) (n : Nat) : Blk (w.drewN n) g t cs := h
theorem Blk.alloc (h : Blk w g t cs) (o : Obj) : Blk (w.alloc o) g t cs := (Below.heap_alloc w o g h.lt).trans h
theorem Blk.set_ (h : Blk w g t cs) (i : Nat) (u : Value) : Blk (w.setCell ⟨g, i, none⟩ u) g t (cs.setIfInBounds i u) := by
  unfold Blk at h ⊢
  simp [World.setCell, Array.getElem?_modify, h]
theorem Blk.far (h : Blk w g t cs) {p : Addr} (hp : g ≠ p.block) (u : Value) : Blk (w.setCell p u) g t cs := (Below.heap_setCell w p u g hp).trans h
theorem Blk.below (h : Blk w g t cs) (hb : Below w.heap.size w w') : Blk w' g t cs := (hb.block g h.lt).trans h
theorem Blk.grown {row : Option Nat} (h : Blk w g t cs) (hb : w.grownBy w' row) (hg : some g ≠ row) : Blk w' g t cs := (hb.block g h.lt hg).trans h
end
theorem bel_grown {w w' : World} (h : w.grownBy w' none) : Below w.heap.size w w' := ⟨h.os, h.tape, h.output, h.size, fun k hk => h.block k hk (by simp)⟩

theorem cnum_zero (D : Nat) : cnum 0 D = 0 := by unfold cnum; simp
theorem cden_zero (D : Nat) : cden 0 D = 0 := by unfold cden; simp
theorem cneg_zero (neg : Bool) : cneg neg 0 = false := by unfold cneg; simp
theorem cneg_pos (neg : Bool) {N : Nat} (h : 0 < N) : cneg neg N = neg := by
  unfold cneg
  have : decide (N ≠ 0) = true := by rw [decide_eq_true_iff]; omega
  rw [this, Bool.and_true]
theorem cden_one {N D : Nat} (h : 0 < N) (h1 : D / N.gcd D = 1) : cden N D = 0 := by unfold cden; rw [if_neg (by omega), if_pos h1]
theorem cden_not {N D : Nat} (h : 0 < N) (h1 : D / N.gcd D ≠ 1) : cden N D = D / N.gcd D := by unfold cden; rw [if_neg (by omega), if_neg h1]
theorem cden_two {N D : Nat} (h : cden N D ≠ 0) : 1 < cden N D ∨ cden N D = 1 := by omega
theorem oneCell_dcs (k : IntKind) (xs : List Nat) : ∀ u ∈ dcs k xs, u.oneCell' = true := by
  intro u hu
  simp only [dcs, List.mem_map] at hu
  obtain ⟨x, _, rfl⟩ := hu
  rfl
theorem Dg.news {k : IntKind} {w : World} {ad : Addr} {n c : Nat} {xs : List Nat} (h : Dg k w (some ad) n c xs) (hn : 0 < n) : ∀ j u, (dcs k xs)[j]? = some u → w.cell? (ad.add j) = some u := by
  obtain ⟨ad', e, hc⟩ := h.cell hn
  injection e with e
  subst e
  intro j u hu
  simp only [dcs, List.getElem?_map, Option.map_eq_some_iff] at hu
  obtain ⟨x, hx, rfl⟩ := hu
  exact hc j x hx

theorem Dg.lit_one (w : World) (t : TypeId) : Dg .u32 (w.alloc (.cells #[.int .u32 1] t)) (some ⟨w.heap.size, 0, none⟩) 1 1 [1] := Dg.lit1 .u32 w t 1 (by decide)
theorem nrm_lit1 : Nrm [1] := by intro _; simp
theorem vl_lit1 (b : Nat) : vl b [1] = 1 := by simp [vl]
theorem gcd_div_pos {N E : Nat} (h : 0 < E) : 0 < E / N.gcd E := Nat.div_pos (Nat.le_of_dvd h (Nat.gcd_dvd_right N E)) (Nat.gcd_pos_of_pos_right N h)
theorem gcd_div_pos' {N E : Nat} (h : 0 < N) : 0 < N / N.gcd E := Nat.div_pos (Nat.le_of_dvd h (Nat.gcd_dvd_left N E)) (Nat.gcd_pos_of_pos_left E h)

theorem nv_far3 {w : World} {A : Option Addr} {m c x L : Nat} {us : List Nat} (hD : Dg .u32 w A m c us) (hn : Nrm us) (hv : Hid (vl (bs .u32) us = x)) (hL : m ≤ L) {g : Nat} (hf : ∀ ad, A = some ad → g < ad.block) (a b d : Value) :
    NV .u32 (((w.setCell ⟨g, 0, none⟩ a).setCell ⟨g, 1, none⟩ b).setCell ⟨g, 2, none⟩ d) (.slice A m c) x L :=
  NV.mk (((hD.far hf 0 a).far hf 1 b).far hf 2 d) hn hv hL
theorem bel_set3 {B : Nat} {w w' : World} (h : Below B w w') {g : Nat} (hg : B ≤ g) (a b d : Value) : Below B w (((w'.setCell ⟨g, 0, none⟩ a).setCell ⟨g, 1, none⟩ b).setCell ⟨g, 2, none⟩ d) :=
  ((h.setCell (p := ⟨g, 0, none⟩) hg a).setCell (p := ⟨g, 1, none⟩) hg b).setCell (p := ⟨g, 2, none⟩) hg d

theorem Dg.farn {k : IntKind} {w : World} {A : Option Addr} {n c : Nat} {xs : List Nat} (h : Dg k w A n c xs) {g : Nat} (hf : ∀ ad, A = some ad → ad.block ≠ g) (i : Nat) (u : Value) : Dg k (w.setCell ⟨g, i, none⟩ u) A n c xs :=
  ⟨h.len, h.cap, h.top, h.ok, fun hp => by
    obtain ⟨ad, e, hc⟩ := h.cell hp
    refine ⟨ad, e, fun j x hx => ?_⟩
    rw [World.cell?_setCell_other w _ _ u (fun e2 => by have h2 := congrArg Addr.block e2; rw [block_of_add] at h2; exact hf ad e h2.symm)]
    exact hc j x hx⟩
theorem Dg.blt {k : IntKind} {w : World} {A : Option Addr} {n c : Nat} {xs : List Nat} (h : Dg k w A n c xs) (hn : 0 < n) : ∀ ad, A = some ad → ad.block < w.heap.size := by
  intro ad he
  obtain ⟨ad', x, e, hc, _⟩ := h.at_ hn
  rw [he] at e
  injection e with e
  subst e
  have := World.block_lt_of_cell? _ _ hc
  rwa [block_of_add] at this
end Go.Proofs.YtoljffghaklpdaaDoor.Fr

namespace Go.Proofs.YtoljffghaklpdaaDoor.Fr
open Go.RowKit Num

/-- only block g may have turned -/
def Onl (g : Nat) (w w' : World) : Prop := w.grownBy w' (some g) ∧ w'.heap.size = w.heap.size
theorem Onl.refl (g : Nat) (w : World) : Onl g w w := ⟨⟨rfl, rfl, rfl, Nat.le_refl _, fun _ _ _ => rfl⟩, rfl⟩
theorem Onl.trans {g : Nat} {a b c : World} (h : Onl g a b) (k : Onl g b c) : Onl g a c :=
  ⟨⟨k.1.os.trans h.1.os, k.1.tape.trans h.1.tape, k.1.output.trans h.1.output, Nat.le_trans h.1.size k.1.size, fun i hi hne => (k.1.block i (by rw [h.2]; exact hi) hne).trans (h.1.block i hi hne)⟩, k.2.trans h.2⟩
theorem Onl.drewN {g : Nat} {a b : World} (h : Onl g a b) (n : Nat) : Onl g a (b.drewN n) := ⟨⟨h.1.os, h.1.tape, h.1.output, h.1.size, h.1.block⟩, h.2⟩
theorem Onl.set_ {g : Nat} {a b : World} (h : Onl g a b) (i : Nat) (u : Value) : Onl g a (b.setCell ⟨g, i, none⟩ u) :=
  ⟨⟨h.1.os, h.1.tape, h.1.output, by simpa [World.setCell] using h.1.size, fun k hk hne => (Below.heap_setCell b _ u k (by intro e; simp at e; exact hne (by rw [e]))).trans (h.1.block k hk hne)⟩, by simpa [World.setCell] using h.2⟩
theorem Onl.below {g B : Nat} {a b : World} (h : Onl g a b) (hB : B ≤ g) : Below B a b :=
  ⟨h.1.os, h.1.tape, h.1.output, h.1.size, fun k hk => by
    rcases Nat.lt_or_ge k a.heap.size with hl | hl
    · exact h.1.block k hl (fun e => by injection e with e; omega)
    · rw [Array.getElem?_eq_none hl, Array.getElem?_eq_none (by rw [h.2]; exact hl)]⟩
theorem Onl.dg {g : Nat} {w w' : World} (h : Onl g w w') {k : IntKind} {A : Option Addr} {n c : Nat} {xs : List Nat} (hD : Dg k w A n c xs) (hne : 0 < n → ∀ ad, A = some ad → ad.block ≠ g) : Dg k w' A n c xs :=
  ⟨hD.len, hD.cap, hD.top, hD.ok, fun hn => by
    obtain ⟨ad, e, hc⟩ := hD.cell hn
    refine ⟨ad, e, fun j x hx => ?_⟩
    have h1 := hc j x hx
    have h2 := World.block_lt_of_cell? _ _ h1
    rw [block_of_add] at h2
    have h3 : w'.heap[(ad.add j).block]? = w.heap[(ad.add j).block]? := by
      rw [block_of_add]
      exact h.1.block _ h2 (fun e2 => by injection e2 with e2; exact hne hn ad e e2)
    exact (World.cell?_of_block h3).trans h1⟩
theorem Onl.mk_ {g g' : Nat} {w w' : World} (h : Onl g w w') {t : TypeId} {k : IntKind} {xs : List Nat} (hm : Mk w g' t k xs) (hne : g' ≠ g) : Mk w' g' t k xs :=
  hm.grown h.1 (fun e => by injection e with e; exact hne e)

theorem vl_set {b : Nat} {xs : List Nat} {k d c : Nat} (hk : k < xs.length) (hc : xs.getD k 0 = c) : vl b (xs.set k d) + b ^ k * c = vl b xs + b ^ k * d := by
  have h := vl_take_set (b := b) (d := d) hk (Nat.le_refl _) hc
  rw [List.take_of_length_le (by rw [List.length_set]; omega), List.take_of_length_le (Nat.le_refl _)] at h
  exact h

/-- one digit more of 'add a product with a digit' -/
theorem inct_step {b : Nat} {cur cur0 ys : List Nat} {o j cy dg s y digit cy' : Nat} (hk : o + j < cur.length) (hdg : cur.getD (o + j) 0 = dg) (hy : ys.getD j 0 = y)
    (hv : vl b cur + b ^ (o + j) * cy = vl b cur0 + b ^ o * (vl b (ys.take j) * digit)) (hs : s + b * cy' = dg + cy + y * digit) :
    vl b (cur.set (o + j) s) + b ^ (o + (j + 1)) * cy' = vl b cur0 + b ^ o * (vl b (ys.take (j + 1)) * digit) := by
  have h1 := vl_set (b := b) (d := s) hk hdg
  rw [vl_take_succ_getD, hy, Nat.add_mul, Nat.mul_add (b ^ o)]
  have h2 : b ^ (o + j) * (s + b * cy') = b ^ (o + j) * (dg + cy + y * digit) := by rw [hs]
  simp only [Nat.mul_add] at h2
  have h3 : b ^ (o + (j + 1)) * cy' = b ^ (o + j) * (b * cy') := by rw [← Nat.add_assoc, Nat.pow_succ, Nat.mul_assoc]
  have h4 : b ^ o * (b ^ j * y * digit) = b ^ (o + j) * (y * digit) := by rw [Nat.pow_add, Nat.mul_assoc, Nat.mul_assoc]
  rw [h3, h4]
  omega
theorem mul_bd64 {x y : Nat} (hx : x ≤ 18446744073709551615) (hy : y ≤ 18446744073709551615) : x * y ≤ 340282366920938463426481119284349108225 := Nat.mul_le_mul hx hy

theorem zs_cons {n : Nat} (h : 0 < n) : zs n = 0 :: zs (n - 1) := by
  unfold zs
  rw [← List.replicate_succ]; congr 1; omega
theorem drop_zs {xs : List Nat} {k m : Nat} (h : xs.drop k = zs m) (hm : 0 < m) : xs.getD k 0 = 0 ∧ xs.drop (k + 1) = zs (m - 1) := by
  rw [zs_cons hm] at h
  have hl : k < xs.length := by
    rcases Nat.lt_or_ge k xs.length with hl | hl
    · exact hl
    · rw [List.drop_eq_nil_of_le hl] at h; cases h
  rw [List.drop_eq_getElem_cons hl] at h
  injection h with h1 h2
  exact ⟨by rw [getD_in hl]; exact h1, h2⟩
theorem mul_next {b : Nat} {cur cur' ys : List Nat} {n k X y cy : Nat} (hl : k + n < cur'.length) (h0 : cur'.getD (k + n) 0 = 0) (hy : ys.getD k 0 = y) (hv : vl b cur = X * vl b (ys.take k))
    (hv' : vl b cur' + b ^ (k + n) * cy = vl b cur + b ^ k * (X * y)) : vl b (cur'.set (k + n) cy) = X * vl b (ys.take (k + 1)) := by
  have h := vl_set (b := b) (d := cy) hl h0
  rw [vl_take_succ_getD, hy, Nat.mul_add, ← hv, ← Nat.mul_assoc, Nat.mul_comm X (b ^ k), Nat.mul_assoc]
  omega

theorem bitLenAux_bl : ∀ f x : Nat, x < 2 ^ f → Lib.bitLenAux f x = bl x := by
  intro f
  induction f with
  | zero => intro x hx; have : x = 0 := by omega
            subst this; rfl
  | succ f ih =>
    intro x hx
    unfold Lib.bitLenAux
    by_cases h0 : x = 0
    · rw [if_pos h0, h0]; rfl
    · have hb := bl_half (x := x) (by omega)
      rw [if_neg h0, ih (x / 2) (by rw [Nat.pow_succ] at hx; omega), hb]; omega
theorem bitLen_bl {x : Nat} (h : x ≤ 18446744073709551615) : Lib.bitLen x = bl x := bitLenAux_bl 64 x (Nat.lt_of_le_of_lt h (by decide))
theorem bl_vl64 {xs : List Nat} {n x : Nat} (hl : xs.length = n + 1) (hok : Okd (bs .u64) xs) (hx : xs.getD n 0 = x) (h0 : 0 < x) : bl (vl (bs .u64) xs) = 64 * n + bl x := by
  have h := vl_take_drop (bs .u64) xs n (by omega)
  have h2 := vl_drop_pred (b := bs .u64) (by omega : n < xs.length) hx
  rw [List.drop_eq_nil_of_le (by omega : xs.length ≤ n + 1), vl_nil, Nat.mul_zero, Nat.add_zero] at h2
  have h3 := vl_lt (hok.take n)
  rw [List.length_take, Nat.min_eq_left (by omega), bs64_pow] at h3
  rw [h, h2, bs64_pow]
  exact bl_shift h0 h3

/-- from digits of 32 bits to digits of 64 bits: one digit more -/
theorem from_step {xs cur : List Nat} {k d c : Nat} (hco : Okd (bs .u64) cur) (hk : k / 2 < cur.length) (hc : cur.getD (k / 2) 0 = c) (hxo : Okd (bs .u32) xs) (hkl : k < xs.length) (hd : xs.getD k 0 = d)
    (hv : vl (bs .u64) cur = vl (bs .u32) (xs.take k)) :
    c + d * 2 ^ (32 * (k % 2)) < bs .u64 ∧ bits .or .u64 (c : Int) ((d : Int) * 2 ^ (32 * (k % 2)) % 18446744073709551616) = ((c + d * 2 ^ (32 * (k % 2)) : Nat) : Int) ∧
      vl (bs .u64) (cur.set (k / 2) (c + d * 2 ^ (32 * (k % 2)))) = vl (bs .u32) (xs.take (k + 1)) := by
  have hcv := getD_vl hco (by decide) (k / 2)
  have hlt := vl_lt (hxo.take k)
  rw [List.length_take, Nat.min_eq_left (by omega)] at hlt
  have hdb : d < 4294967296 := by rw [← hd]; exact hxo.getD (by decide) k
  have hp : bs .u32 ^ k = bs .u64 ^ (k / 2) * 2 ^ (32 * (k % 2)) := by rw [bs32_pow, bs64_pow, ← Nat.pow_add]; congr 1; omega
  have hcs : c < 2 ^ (32 * (k % 2)) := by
    rw [← hc, hcv, hv]
    have : vl (bs .u32) (xs.take k) / bs .u64 ^ (k / 2) < 2 ^ (32 * (k % 2)) := by
      rw [Nat.div_lt_iff_lt_mul (Nat.pow_pos (by decide)), Nat.mul_comm, ← hp]; exact hlt
    exact Nat.lt_of_le_of_lt (Nat.mod_le _ _) this
  have hsum : c + d * 2 ^ (32 * (k % 2)) < 18446744073709551616 := by
    rcases (show k % 2 = 0 ∨ k % 2 = 1 by omega) with h | h <;> rw [h] at hcs ⊢ <;> simp at hcs ⊢ <;> omega
  refine ⟨hsum, ?_, ?_⟩
  · have hor := or_add (b := d) _ hcs
    have e := u64_or_nat c (d * 2 ^ (32 * (k % 2))) (by omega) (by omega)
    rw [hor] at e
    rw [← e]
    congr 1
    have e2 : ((d * 2 ^ (32 * (k % 2)) : Nat) : Int) = (d : Int) * 2 ^ (32 * (k % 2)) := by rw [Int.natCast_mul, Int.natCast_pow]; rfl
    rw [← e2]
    omega
  · have h := vl_set (b := bs .u64) (d := c + d * 2 ^ (32 * (k % 2))) hk hc
    rw [vl_take_succ_getD, hd, ← hv, hp, Nat.mul_assoc, Nat.mul_comm _ d]
    rw [Nat.mul_add] at h
    omega
end Go.Proofs.YtoljffghaklpdaaDoor.Fr

namespace Go.Proofs.YtoljffghaklpdaaDoor.Fr
open Go.RowKit Num

theorem half_digit {xs : List Nat} (hok : Okd (bs .u64) xs) (k : Nat) : xs.getD (k / 2) 0 / 2 ^ (32 * (k % 2)) % bs .u32 = vl (bs .u64) xs / bs .u32 ^ k % bs .u32 := by
  rw [getD_vl hok (by decide), bs64_pow, bs32_pow]
  generalize vl (bs .u64) xs = X
  have e : (2 : Nat) ^ (32 * k) = 2 ^ (64 * (k / 2)) * 2 ^ (32 * (k % 2)) := by rw [← Nat.pow_add]; congr 1; omega
  rw [e, ← Nat.div_div_eq_div_mul]
  generalize X / 2 ^ (64 * (k / 2)) = Y
  rcases (show k % 2 = 0 ∨ k % 2 = 1 by omega) with h | h
  · rw [h]
    show Y % 18446744073709551616 / 1 % 4294967296 = Y / 1 % 4294967296
    omega
  · rw [h]
    show Y % 18446744073709551616 / 4294967296 % 4294967296 = Y / 4294967296 % 4294967296
    omega
theorem dig_step {cur : List Nat} {k d X : Nat} (hk : k < cur.length) (hv : vl (bs .u32) (cur.take k) = X % bs .u32 ^ k) (hd : d = X / bs .u32 ^ k % bs .u32) :
    vl (bs .u32) ((cur.set k d).take (k + 1)) = X % bs .u32 ^ (k + 1) := by
  rw [vl_take_succ (by rw [List.length_set]; exact hk), List.take_set_of_le (Nat.le_refl _), List.getElem_set_self, hv, Nat.pow_succ, Nat.mod_mul, hd]
theorem dig_top {cur : List Nat} {X m : Nat} (hm : m = (bl X + 31) / 32) (hl : cur.length = m) (hok : Okd (bs .u32) cur) (hv : vl (bs .u32) (cur.take m) = X % bs .u32 ^ m) : vl (bs .u32) cur = X ∧ Nrm cur := by
  have h1 := lt_bl X
  have h2 : X < bs .u32 ^ m := by
    rw [bs32_pow]
    exact Nat.lt_of_lt_of_le h1 (Nat.pow_le_pow_right (by decide) (by omega))
  rw [List.take_of_length_le (by omega), Nat.mod_eq_of_lt h2] at hv
  refine ⟨hv, fun hp h0 => ?_⟩
  have h3 := vl_take_pred (b := bs .u32) (xs := cur) (n := cur.length) hp (Nat.le_refl _) h0
  rw [List.take_length, hv] at h3
  have h4 := vl_lt (hok.take (cur.length - 1))
  rw [h3, List.length_take, Nat.min_eq_left (by omega), bs32_pow] at h4
  have := bl_le h4
  omega
theorem u64_shr_cast (y s : Nat) : ((y : Int) / 2 ^ s) % 4294967296 = ((y / 2 ^ s % 4294967296 : Nat) : Int) := by
  rw [Int.natCast_emod, Int.natCast_ediv, Int.natCast_pow]; rfl
end Go.Proofs.YtoljffghaklpdaaDoor.Fr

namespace Go.Proofs.YtoljffghaklpdaaDoor.Fr
open Go.RowKit Num

theorem div1_step_b {b x y r V : Nat} (hy : 0 < y) (hr : r = V % y) : (x + b * V) / y = (r * b + x) / y + b * (V / y) ∧ (x + b * V) % y = (r * b + x) % y := by
  subst hr
  have e : x + b * V = (V % y * b + x) + y * (b * (V / y)) := by
    have := Nat.div_add_mod V y
    have h2 : b * V = b * (y * (V / y)) + b * (V % y) := by rw [← Nat.mul_add, this]
    rw [h2, Nat.mul_left_comm y, Nat.mul_comm (V % y) b]; omega
  constructor
  · rw [e, Nat.add_mul_div_left _ _ hy]
  · rw [e, Nat.add_mul_mod_self_left]
theorem div1_lt_b {b x y r : Nat} (hr : r < y) (hx : x < b) : (r * b + x) / y < b := by
  rw [Nat.div_lt_iff_lt_mul (by omega)]
  have : (r + 1) * b ≤ y * b := Nat.mul_le_mul_right _ hr
  rw [Nat.add_mul] at this
  rw [Nat.mul_comm b y]
  omega
/-- one place of the division by a digit: the quotient's digits from place j on -/
theorem shrink_step {cur cur0 : List Nat} {j x y r n : Nat} (hl : cur.length = n) (hl0 : cur0.length = n) (hj : j < n) (hx : cur0.getD j 0 = x) (hy : 0 < y) (hr : r = vl (bs .u64) (cur0.drop (j + 1)) % y)
    (hv : vl (bs .u64) (cur.drop (j + 1)) = vl (bs .u64) (cur0.drop (j + 1)) / y) :
    vl (bs .u64) ((cur.set j ((r * bs .u64 + x) / y)).drop j) = vl (bs .u64) (cur0.drop j) / y ∧ (r * bs .u64 + x) % y = vl (bs .u64) (cur0.drop j) % y := by
  have hd := vl_drop_pred (b := bs .u64) (by omega : j < cur0.length) hx
  have hs := div1_step_b (b := bs .u64) (x := x) (V := vl (bs .u64) (cur0.drop (j + 1))) hy hr
  exact ⟨by rw [vl_drop_set (by omega), hv, hd, hs.1], by rw [hd, hs.2]⟩
theorem take_set_getD {cur cur0 : List Nat} {j d : Nat} (h : cur.take (j + 1) = cur0.take (j + 1)) (hl : j < cur.length) (hl0 : j < cur0.length) : cur.getD j 0 = cur0.getD j 0 ∧ (cur.set j d).take j = cur0.take j := by
  constructor
  · rw [List.take_succ_eq_append_getElem hl, List.take_succ_eq_append_getElem hl0] at h
    have h2 := List.append_inj_right' h rfl
    injection h2 with h3
    rw [getD_in hl, getD_in hl0, h3]
  · rw [List.take_set_of_le (Nat.le_refl _)]
    have := congrArg (List.take j) h
    simpa [List.take_take] using this
end Go.Proofs.YtoljffghaklpdaaDoor.Fr


/- General lemmas: returns, indices, makes, structs as results. -/
namespace Go.Proofs.YtoljffghaklpdaaDoor.Fr
open Go.RowKit Num

theorem ret_sl {A : Option Addr} {a b c : Nat} (h : a = b) : Ending.returned (.slice A a c) = .returned (.slice A b c) := by rw [h]

theorem ret_i64 {a b : Int} (h : a = b) : Ending.returned (.int .i64 a) = .returned (.int .i64 b) := by rw [h]

/-- what holds at the head of the loop of 'order': the places from i + 1 on have the same digits -/
def OrdRel (xs ys : List Nat) (i : Value) : Prop := (∃ k : Nat, i = .int .i64 k ∧ k < xs.length ∧ xs.drop (k + 1) = ys.drop (k + 1)) ∨ (i = .int .i64 (-1) ∧ xs = ys)
theorem ordRel_start {xs ys : List Nat} (n : Nat) (h1 : xs.length = n) (h2 : ys.length = n) : OrdRel xs ys (.int .i64 ((n : Int) - 1)) := by
  cases n with
  | zero => exact .inr ⟨by simp, by rw [List.eq_nil_of_length_eq_zero h1, List.eq_nil_of_length_eq_zero h2]⟩
  | succ n => exact .inl ⟨n, by congr 1; omega, by omega, by rw [List.drop_eq_nil_of_le (by omega), List.drop_eq_nil_of_le (by omega)]⟩
theorem ordRel_next {xs ys : List Nat} {k : Nat} (h : xs.drop k = ys.drop k) (hk : k < xs.length) : OrdRel xs ys (.int .i64 ((k : Int) - 1)) := by
  cases k with
  | zero => exact .inr ⟨by simp, by simpa using h⟩
  | succ n => exact .inl ⟨n, by congr 1; omega, by omega, h⟩

theorem ret_bool {a b : Bool} (h : a = b) : Ending.returned (.bool a) = .returned (.bool b) := by rw [h]

theorem info_u32 : (Tryd.prog.info? 110).map (fun i => (i.zero, i.size, i.bytes)) = some (some (.int .u32 0), 1, 4) := by kernel_rfl
theorem make_u32 (n : Nat) (hn : n ≤ 1000000) (w : World) :
    (Instr.makeSlice 73 (.int .i64 (n : Int)) (.int .i64 (n : Int))).run Tryd.prog w = .ok (.slice (some ⟨w.heap.size, 0, none⟩) n n) (w.alloc (.cells (dcs .u32 (zs n)).toArray 110)) := by
  obtain ⟨i0, hi, hz0, hz1, hz2⟩ := info_parts info_u32
  have := run_make (P := Tryd.prog) w 73 110 i0 (.int .u32 0) Tryd.underlying73 hi hz0 .i64 .i64 n n (by omega) (by omega) (by rw [hz2]; omega) (by omega)
  rw [this, hz1]
  have e : Value.cells (Value.int .u32 0) = #[Value.int .u32 0] := rfl
  rw [e, made_zs]
  simp

/-- a counter that goes down to -1: k rounds are left -/
theorem idx_cases {i : Value} {k : Nat} (h : i = .int .i64 ((k : Int) - 1)) : (k = 0 ∧ i = .int .i64 (-1)) ∨ (∃ j : Nat, k = j + 1 ∧ i = .int .i64 (j : Int)) := by
  cases k with
  | zero => exact .inl ⟨rfl, by rw [h]; rfl⟩
  | succ j => exact .inr ⟨j, rfl, by rw [h]; congr 1; omega⟩

theorem u64_negneg (n : Int) (h : -9223372036854775808 ≤ n ∧ n < 0) : IntKind.u64.wrap (-IntKind.u64.wrap n) = (n.natAbs : Int) := by
  have e : ∀ m : Int, IntKind.u64.wrap m = m % 18446744073709551616 := fun m => by simp [IntKind.wrap, IntKind.bits, IntKind.signed]
  rw [e, e]; omega
theorem load_frac {g : Nat} {W : World} {a b c : Value} (h : Blk W g 75 #[a, b, c]) : (loadVar 75 ⟨g, 0, none⟩).run Tryd.prog W = .ok (.agg #[a, b, c]) W := by
  have q0 : W.cell? ⟨g, 0, none⟩ = some a := h.cell 0
  have q1 : W.cell? ⟨g, 1, none⟩ = some b := h.cell 1
  have q2 : W.cell? ⟨g, 2, none⟩ = some c := h.cell 2
  simp [go_sem, q0, q1, q2]

theorem results_cell {fn : Func} {p : Tmp} {ty : TypeId} (h : fn.results = #[.cell p ty]) (tmps : Array Value) (P : Program) (w : World) :
    (results fn tmps).run P w = ((asAddr (tmps.getD p undef)).run P w).andThen fun a w₁ => (loadVar ty a).run P w₁ := by
  simp only [results, h]
  simp [Sem.run_bind, Result.andThen]
/-- a return of a number -/
theorem ret_frac {fn : Func} {R : Ending → World → Prop} {act : Act} {W : World} {g p : Nat} {a b c : Value} (hr : fn.results = #[.cell p 75]) (hs : act.tmps.getD p undef = .pointer (some ⟨g, 0, none⟩))
    (hB : Blk W g 75 #[a, b, c]) (hd : act.defers = []) (hR : R (.returned (.agg #[a, b, c])) W) : bodyPost Tryd.prog fn R .ret act W :=
  bodyPost_ret (v := .agg #[a, b, c]) (by rw [results_cell hr, hs]; simp [asAddr, load_frac hB]) hd hR
end Go.Proofs.YtoljffghaklpdaaDoor.Fr


/- The program's natural numbers (digits of 64 bits): each function returns what its Lean counterpart says. -/
namespace Go.Proofs.YtoljffghaklpdaaDoor.Fr
open Go.RowKit Num

set_option maxHeartbeats 400000 in
theorem trim64_any (A : Option Addr) (n c : Nat) (xs : List Nat) (w : World) (h : Dg .u64 w A n c xs) :
    Calls Tryd.prog 113 #[.slice A n c] w fun e w' => e = .returned (.slice A (tl xs) c) ∧ w = w' := by
  have hn := h.cap
  have hc := h.top
  have HT : Hid (tln xs n = tl xs) := by rw [tl, h.len]; rfl
  go_enter Tryd.func113, Tryd.ntmps113
  go_wp2
  go_loop [3] (fun i => ∃ k : Nat, k ≤ n ∧ i = .int .i64 k ∧ Hid (tln xs k = tl xs)) (fun i => (intOf i).toNat)
  case atStart => exact ⟨n, Nat.le_refl _, rfl, HT⟩
  case round =>
    obtain ⟨k, hk, rfl, hr⟩ := hrel
    cases k with
    | zero =>
      go_wp2
      go_ret
      exact ⟨ret_sl hr.out, rfl⟩
    | succ k =>
      obtain ⟨ad, x, rfl, hcell, hx⟩ := h.at_ (j := k) (by omega)
      by_cases h0 : x = 0
      · have HS : Hid (tln xs (k + 1) = tln xs k) := tln_zero (hx.out.1.trans h0)
        have hb : ((x : Int) == 0) = true := by rw [h0]; rfl
        clear h0
        go_wp2
        go_round
        case rel => exact ⟨k, by omega, rfl, HS.out.symm.trans hr.out⟩
        case measure => simp [intOf]
      · have HS : Hid (tln xs (k + 1) = k + 1) := tln_not (by rw [hx.out.1]; exact h0)
        have hb : ((x : Int) == 0) = false := by rw [beq_eq_false_iff_ne]; omega
        clear h0
        go_wp2
        go_ret
        exact ⟨ret_sl (HS.out.symm.trans hr.out), rfl⟩

theorem nrm_one64 {xs : List Nat} {x : Nat} (h : xs.length = 1) (hx : xs.getD 0 0 = x) : vl (bs .u64) xs = x := by
  match xs, h with
  | [y], _ => simpa [vl] using hx

theorem isOne_any (A : Option Addr) (n c : Nat) (xs : List Nat) (w : World) (h : Dg .u64 w A n c xs) (hn : Nrm xs) (x : Nat) (hx : Hid (vl (bs .u64) xs = x)) (b : Bool) (hb : decide (x = 1) = b) :
    Calls Tryd.prog 107 #[.slice A n c] w fun e w' => e = .returned (.bool b) ∧ w = w' := by
  by_cases h0 : n = 1
  · subst h0
    obtain ⟨ad, y, rfl, hcx, hy⟩ := h.at_ (j := 0) (by omega)
    have hcx : w.cell? ad = some (.int .u64 y) := hcx
    have hv := nrm_one64 h.len hy.out.1
    have hxy : x = y := hx.out.symm.trans hv
    by_cases h2 : y = 1
    · have ht : ((y : Int) == 1) = true := by rw [beq_iff_eq]; omega
      have hf := Lib.hid (show true = b by rw [← hb, hxy]; exact (decide_eq_true h2).symm)
      clear h2 hv hxy hb
      go_enter Tryd.func107, Tryd.ntmps107
      go_wp2
      go_ret
      exact ⟨ret_bool hf.out, rfl⟩
    · have ht : ((y : Int) == 1) = false := by rw [beq_eq_false_iff_ne]; omega
      have hf := Lib.hid (show false = b by rw [← hb, hxy]; exact (decide_eq_false h2).symm)
      clear h2 hv hxy hb
      go_enter Tryd.func107, Tryd.ntmps107
      go_wp2
      go_ret
      exact ⟨ret_bool hf.out, rfl⟩
  · have ht : ((n : Int) == 1) = false := by rw [beq_eq_false_iff_ne]; omega
    have hf := Lib.hid (show false = b by
      rw [← hb]
      refine (decide_eq_false fun hv => ?_).symm
      have := one_of one_lt_bs64 hn h.ok (hx.out.trans hv)
      have hl := h.len
      rw [this] at hl
      exact h0 hl.symm)
    clear h0 hb
    go_enter Tryd.func107, Tryd.ntmps107
    go_wp2
    go_ret
    exact ⟨ret_bool hf.out, rfl⟩

theorem one64_any (w : World) : Calls Tryd.prog 106 #[] w fun e w' => e = .returned (.slice (some ⟨w.heap.size, 0, none⟩) 1 1) ∧ w' = w.alloc (.cells #[.int .u64 1] 107) := by
  go_enter Tryd.func106, Tryd.ntmps106
  go_wp2
  go_ret
  exact ⟨rfl, rfl⟩

end Go.Proofs.YtoljffghaklpdaaDoor.Fr

namespace Go.Proofs.YtoljffghaklpdaaDoor.Fr
open Go.RowKit Num

/-- math/bits.Add64: an equation of the call -/
theorem add64_run (x y c : Nat) (hc : c ≤ 1) (w : World) : (callFunc 140 #[.int .u64 (x : Int), .int .u64 (y : Int), .int .u64 (c : Int)]).run Tryd.prog w =
    .ok (.value (.tuple #[.int .u64 (((x + y + c) % 18446744073709551616 : Nat) : Int), .int .u64 (((x + y + c) / 18446744073709551616 : Nat) : Int)])) w := by
  rw [run_callFunc_extern Tryd.func140 (by kernel_rfl) (by kernel_rfl) (by kernel_rfl) (e := add64Entry) (by kernel_rfl), run_add64 x y c (by omega) (by omega) (by omega) (by omega)]
  simp only [Result.andThen]
  congr 5 <;> omega

/-- a sum of two digits, without a carry that comes in -/
theorem add64_two (x y : Nat) (hx : x ≤ 18446744073709551615) (hy : y ≤ 18446744073709551615) : ∃ s c : Nat, (∀ w, (callFunc 140 #[.int .u64 (x : Int), .int .u64 (y : Int), .int .u64 0]).run Tryd.prog w = .ok (.value (.tuple #[.int .u64 (s : Int), .int .u64 (c : Int)])) w) ∧
    Hid (s + bs .u64 * c = x + y) ∧ s ≤ 18446744073709551615 ∧ c ≤ 1 :=
  ⟨_, _, fun w => add64_run x y 0 (by omega) w, by show _ + 18446744073709551616 * _ = _; omega, by omega, by omega⟩

theorem mul64_two (x y : Nat) (hx : x ≤ 18446744073709551615) (hy : y ≤ 18446744073709551615) (w : World) :
    Calls Tryd.prog 139 #[.int .u64 (x : Int), .int .u64 (y : Int)] w fun e w' => ∃ hi lo : Nat, e = .returned (.tuple #[.int .u64 (hi : Int), .int .u64 (lo : Int)]) ∧ Hid (lo + bs .u64 * hi = x * y) ∧ lo ≤ 18446744073709551615 ∧ hi ≤ 18446744073709551614 ∧ w = w' :=
  (Tryd.bits_Mul64 x y (by omega) (by omega) w).mono fun e w' ⟨he, hw⟩ => by
    have hb := mul_bd64 hx hy
    exact ⟨_, _, he, by show _ + 18446744073709551616 * _ = _; omega, by omega, by omega, hw.symm⟩

structure IncRel (w : World) (g o n : Nat) (cur0 ys : List Nat) (d : Nat) (cv iv : Value) (wr : World) (j cy : Nat) (cur : List Nat) : Prop where
  i : iv = .int .i64 j
  cv : cv = .int .u64 cy
  jb : j ≤ n
  cb : cy ≤ 18446744073709551615
  len : Hid (cur.length = cur0.length)
  ok : Okd (bs .u64) cur
  own : Mk wr g 107 .u64 cur
  val : Hid (vl (bs .u64) cur + bs .u64 ^ (o + j) * cy = vl (bs .u64) cur0 + bs .u64 ^ o * (vl (bs .u64) (ys.take j) * d))
  drop : Hid (cur.drop (o + j) = cur0.drop (o + j))
  onl : Onl g w wr

theorem incRel_next {w wr : World} {g o n j cy dg y d s c1 c2 lo hi : Nat} {cur0 cur ys : List Nat} (hj : j < n) (hk : o + n ≤ cur.length) (hy : ys.getD j 0 = y) (hdg : cur.getD (o + j) 0 = dg) (s1 : Nat)
    (hm : lo + bs .u64 * hi = y * d) (ha : s1 + bs .u64 * c1 = lo + cy) (hb : s + bs .u64 * c2 = dg + s1) (hs : s ≤ 18446744073709551615) (hcb : hi + c1 + c2 ≤ 18446744073709551615)
    (hcl : cur.length = cur0.length) (hco : Okd (bs .u64) cur) (hown : Mk wr g 107 .u64 cur)
    (hval : vl (bs .u64) cur + bs .u64 ^ (o + j) * cy = vl (bs .u64) cur0 + bs .u64 ^ o * (vl (bs .u64) (ys.take j) * d)) (hdrop : cur.drop (o + j) = cur0.drop (o + j)) (hon : Onl g w wr) :
    ∃ j' cy' cur', IncRel w g o n cur0 ys d (.int .u64 ((hi : Int) + c1 + c2)) (.int .i64 ((j : Int) + 1)) (wr.setCell ⟨g, o + j, none⟩ (.int .u64 s)) j' cy' cur' := by
  refine ⟨j + 1, hi + c1 + c2, cur.set (o + j) s, rfl, by congr 1, by omega, hcb, by simpa [Hid] using hcl, hco.set _ (Nat.lt_succ_of_le hs), hown.set_ _ _, ?_, ?_, hon.set_ _ _⟩
  · refine inct_step (by omega) hdg hy hval ?_
    have e : bs .u64 * (hi + c1 + c2) = bs .u64 * hi + bs .u64 * c1 + bs .u64 * c2 := by rw [Nat.mul_add, Nat.mul_add]
    omega
  · show _ = _
    rw [← Nat.add_assoc, List.drop_set_of_lt (by omega)]
    have := congrArg (List.drop 1) hdrop
    simpa [List.drop_drop] using this

set_option maxHeartbeats 1600000 in
set_option maxRecDepth 100000 in
theorem increaseTimes_any (g o n ca : Nat) (B : Option Addr) (cb : Nat) (cur0 ys : List Nat) (d : Nat) (w : World) (hM : Mk w g 107 .u64 cur0) (hok : Okd (bs .u64) cur0) (hk : o + n ≤ cur0.length) (hca : n ≤ ca)
    (hB : Dg .u64 w B n cb ys) (hne : Hid (0 < n → ∀ ad, B = some ad → ad.block ≠ g)) (hd : d ≤ 18446744073709551615) :
    Calls Tryd.prog 136 #[.slice (some ⟨g, o, none⟩) n ca, .slice B n cb, .int .u64 (d : Int)] w fun e w' => ∃ cy cur : _, e = .returned (.int .u64 ((cy : Nat) : Int)) ∧
      Mk w' g 107 .u64 cur ∧ Okd (bs .u64) cur ∧ Hid (cur.length = cur0.length) ∧ Hid (vl (bs .u64) cur + bs .u64 ^ (o + n) * cy = vl (bs .u64) cur0 + bs .u64 ^ o * (vl (bs .u64) ys * d)) ∧ Hid (cur.drop (o + n) = cur0.drop (o + n)) ∧ cy ≤ 18446744073709551615 ∧ Onl g w w' := by
  have hk := Lib.hid hk
  have hcb1 := hB.cap
  have hcb2 := hB.top
  have hyl := Lib.hid hB.len
  go_enter Tryd.func136, Tryd.ntmps136
  go_wp2
  go_loopw [7, 14] (fun cv iv wr => ∃ j cy cur, IncRel w g o n cur0 ys d cv iv wr j cy cur) (fun _ iv _ => n - (intOf iv).toNat)
  case atStart => exact ⟨0, 0, cur0, rfl, rfl, by omega, by omega, rfl, hok, hM, by show _ = _; simp [vl], rfl, Onl.refl _ _⟩
  case round =>
    clear hM hok
    obtain ⟨j, cy, cur, rfl, rfl, hjb, hcb, hcl, hco, hown, hval, hdrop, hon⟩ := hrel
    by_cases hjn : j < n
    · have hBr := hon.dg hB hne.out
      obtain ⟨ad, y, rfl, hcy, hy⟩ := hBr.at_ hjn
      have hyb : y ≤ 18446744073709551615 := Nat.le_of_lt_succ hy.out.2
      have hlen : Hid (o + j < cur.length) := by show _ < _; have := hk.out; have := hcl.out; omega
      have hcc := hown.cell (i := o + j) hlen.out
      have hcf := hown.frozen (o + j)
      obtain ⟨dg, hdg⟩ : ∃ dg, cur.getD (o + j) 0 = dg := ⟨_, rfl⟩
      rw [hdg] at hcc
      have hdb : dg ≤ 18446744073709551615 := by rw [← hdg]; exact Nat.le_of_lt_succ (hco.getD (by decide) _)
      have Hdg := Lib.hid hdg
      clear hdg
      go_wp2_with fail
      refine (mul64_two y d hyb hd wr).mono ?_
      rintro e w' ⟨hi, lo, rfl, hm, hlo, hhi, rfl⟩
      obtain ⟨s1, c1, hadd1, hs1, hsb1, hc1⟩ := add64_two lo cy hlo hcb
      obtain ⟨s2, c2, hadd2, hs2, hsb2, hc2⟩ := add64_two dg s1 hdb hsb1
      have hcarry : hi + c1 + c2 ≤ 18446744073709551615 := by
        have h1 := hm.out
        have h2 := hs1.out
        have h3 := hs2.out
        have h4 := mul_bd64 hyb hd
        have e : bs .u64 = 18446744073709551616 := rfl
        rw [e] at h1 h2 h3
        omega
      have R := incRel_next (w := w) hjn (by have := hk.out; have := hcl.out; omega) hy.out.1 Hdg.out s1 hm.out hs1.out hs2.out hsb2 hcarry hcl.out hco hown hval.out hdrop.out hon
      go_wp2
      go_roundw
      case rel => exact R
      case measure => simp [intOf]; omega
    · obtain rfl : j = n := by omega
      have hv := hval.out
      rw [List.take_of_length_le (by rw [hyl.out]; omega)] at hv
      have Hv := Lib.hid hv
      clear hv
      go_wp2
      go_ret
      exact ⟨cy, cur, rfl, hown, hco, hcl, Hv.out, hdrop, hcb, hon⟩
end Go.Proofs.YtoljffghaklpdaaDoor.Fr

namespace Go.Proofs.YtoljffghaklpdaaDoor.Fr
open Go.RowKit Num

theorem info_u64 : (Tryd.prog.info? 107).map (fun i => (i.zero, i.size, i.bytes)) = some (some (.int .u64 0), 1, 8) := by kernel_rfl
theorem make_u64 (n : Nat) (hn : n ≤ 2000000) (w : World) :
    (Instr.makeSlice 87 (.int .i64 (n : Int)) (.int .i64 (n : Int))).run Tryd.prog w = .ok (.slice (some ⟨w.heap.size, 0, none⟩) n n) (w.alloc (.cells (dcs .u64 (zs n)).toArray 107)) := by
  obtain ⟨i0, hi, hz0, hz1, hz2⟩ := info_parts info_u64
  have := run_make (P := Tryd.prog) w 87 107 i0 (.int .u64 0) Tryd.underlying87 hi hz0 .i64 .i64 n n (by omega) (by omega) (by rw [hz2]; omega) (by omega)
  rw [this, hz1]
  have e : Value.cells (Value.int .u64 0) = #[Value.int .u64 0] := rfl
  rw [e, made_zs]
  simp

theorem Mk.dg64 {w : World} {g : Nat} {t : TypeId} {k : IntKind} {xs : List Nat} (h : Mk w g t k xs) {n : Nat} (hn : xs.length = n) (ht : n ≤ 9223372036854775807) (hok : Okd (bs k) xs) : Dg k w (some ⟨g, 0, none⟩) n n xs :=
  ⟨hn, Nat.le_refl _, ht, hok, fun _ => ⟨_, rfl, fun j x hx => by
    have hj : j < xs.length := by
      rcases Nat.lt_or_ge j xs.length with h | h
      · exact h
      · rw [List.getElem?_eq_none h] at hx; cases hx
    have hc := h.cell hj
    rw [getD_in hj] at hc
    rw [List.getElem?_eq_getElem hj] at hx
    injection hx with hx
    subst hx
    have e : (⟨g, 0, none⟩ : Addr).add j = ⟨g, j, none⟩ := by
      unfold Addr.add
      split
      · subst j; rfl
      · simp
    rw [e]; exact hc⟩⟩

structure MulRel (w : World) (n n' : Nat) (xs ys : List Nat) (iv : Value) (wr : World) (k : Nat) (cur : List Nat) : Prop where
  i : iv = .int .i64 k
  kb : k ≤ n'
  len : Hid (cur.length = n + n')
  ok : Okd (bs .u64) cur
  own : Mk wr w.heap.size 107 .u64 cur
  val : Hid (vl (bs .u64) cur = vl (bs .u64) xs * vl (bs .u64) (ys.take k))
  drop : Hid (cur.drop (n + k) = zs (n' - k))
  bel : Below w.heap.size w wr

set_option maxHeartbeats 1600000 in
set_option maxRecDepth 100000 in
theorem mulPlain_any (A A' : Option Addr) (n c n' c' : Nat) (xs ys : List Nat) (w : World) (h : Dg .u64 w A n c xs) (h' : Dg .u64 w A' n' c' ys) (hn : n ≤ 1000000) (hn' : n' ≤ 1000000) :
    Calls Tryd.prog 128 #[.slice A n c, .slice A' n' c'] w (RetF .u64 w (vl (bs .u64) xs * vl (bs .u64) ys) (n + n')) := by
  have hmk := make_u64 (n + n') (by omega)
  have e0 : (((n + n' : Nat) : Int)) = (n : Int) + (n' : Int) := by omega
  rw [e0] at hmk
  clear e0
  have hyl := Lib.hid h'.len
  go_enter Tryd.func128, Tryd.ntmps128
  go_wp2
  go_loopw [16] (fun iv wr => ∃ k cur, MulRel w n n' xs ys iv wr k cur) (fun iv _ => n' - (intOf iv).toNat)
  case atStart =>
    exact ⟨0, zs (n + n'), rfl, by omega, zs_len _, zs_ok (by decide) _, Mk.new _ _ _ _, show _ = _ by rw [zs_vl]; simp [vl], show _ = _ by unfold zs; rw [List.drop_replicate]; congr 1; omega, (Below.refl _ _).alloc (Nat.le_refl _) _⟩
  case round =>
    obtain ⟨k, cur, rfl, hkb, hcl, hco, hown, hval, hdrop, hbel⟩ := hrel
    by_cases hkn : k < n'
    · obtain ⟨ad', y, rfl, hcy, _, hy⟩ := h'.at2 hbel hkn
      have hyb : y ≤ 18446744073709551615 := Nat.le_of_lt_succ hy.out.2
      go_wp2_with fail
      refine (increaseTimes_any w.heap.size k n _ A c cur xs y wr hown hco (by rw [hcl.out]; omega) (by omega) (h.below hbel) (fun hp ad he => by have := h.blt hp ad he; omega) hyb).mono ?_
      rintro e w2 ⟨cy, cur', rfl, hM2, hok2, hl2, hv2, hd2, hcyb, hon2⟩
      have hlen : Hid (k + n < cur'.length) := by show _ < _; rw [hl2.out, hcl.out]; omega
      have hz := Lib.hid (drop_zs (show cur'.drop (k + n) = zs (n' - k) by rw [hd2.out, Nat.add_comm]; exact hdrop.out) (by omega))
      have hcc := hM2.cell hlen.out
      rw [hz.out.1] at hcc
      have hcf := hM2.frozen (k + n)
      have hbel2 := hbel.trans (hon2.below (Nat.le_refl _))
      go_wp2
      go_roundw
      case rel =>
        exact ⟨k + 1, cur'.set (k + n) cy, by go_num, hkn, show _ = _ by rw [List.length_set, hl2.out, hcl.out], hok2.set _ (Nat.lt_succ_of_le hcyb), hM2.set_ _ _, show _ = _ from mul_next hlen.out hz.out.1 hy.out.1 hval.out hv2.out,
          show _ = _ by rw [show n + (k + 1) = k + n + 1 by omega, List.drop_set_of_lt (by omega), hz.out.2]; congr 1, hbel2.setCell (Nat.le_refl _) _⟩
      case measure => simp [intOf]; omega
    · obtain rfl : k = n' := by omega
      have hD := hown.dg64 hcl.out (by omega) hco
      have hv := hval.out
      rw [List.take_of_length_le (by rw [hyl.out]; omega)] at hv
      have Hv := Lib.hid hv
      clear hv
      go_wp2_with fail
      refine (trim64_any _ _ _ _ _ hD).mono ?_
      rintro e w' ⟨rfl, rfl⟩
      go_wp2
      go_ret
      exact RetF.tr hD Hv.out (Nat.le_refl _) hbel (fun ad he => by injection he with he; subst he; exact Nat.le_refl _)
end Go.Proofs.YtoljffghaklpdaaDoor.Fr

namespace Go.Proofs.YtoljffghaklpdaaDoor.Fr
open Go.RowKit Num

/-- the product of two numbers of which the shorter one has fewer than 40 digits -/
theorem mul_any (A A' : Option Addr) (n c n' c' : Nat) (xs ys : List Nat) (w : World) (h : Dg .u64 w A n c xs) (h' : Dg .u64 w A' n' c' ys) (hn : n ≤ 1000000) (hn' : n' ≤ 1000000) (hm : min n n' < 40) :
    Calls Tryd.prog 111 #[.slice A n c, .slice A' n' c'] w (RetF .u64 w (vl (bs .u64) xs * vl (bs .u64) ys) (n + n')) := by
  by_cases hl : n < n'
  · have hlt : n < 40 := by omega
    go_enter Tryd.func111, Tryd.ntmps111
    go_wp2_with fail
    refine (mulPlain_any _ _ _ _ _ _ _ _ _ h' h hn' hn).mono ?_
    rintro e w' ⟨A1, m1, c1, us, rfl, hD, hN, hv, hm1, hb, hf⟩
    go_wp2
    go_ret
    exact ⟨A1, m1, c1, us, rfl, hD, hN, show _ = _ by rw [hv.out, Nat.mul_comm], by omega, hb, hf⟩
  · have hlt : n' < 40 := by omega
    go_enter Tryd.func111, Tryd.ntmps111
    go_wp2_with fail
    refine (mulPlain_any _ _ _ _ _ _ _ _ _ h h' hn hn').mono ?_
    rintro e w' ⟨A1, m1, c1, us, rfl, hD, hN, hv, hm1, hb, hf⟩
    go_wp2
    go_ret
    exact ⟨A1, m1, c1, us, rfl, hD, hN, hv, hm1, hb, hf⟩

set_option maxHeartbeats 800000 in
theorem cmp64_any (A A' : Option Addr) (n c n' c' : Nat) (us vs : List Nat) (w : World) (k1 : Dg .u64 w A n c us) (k2 : Dg .u64 w A' n' c' vs) (hN1 : Nrm us) (hN2 : Nrm vs) (x y : Nat) (hx : Hid (vl (bs .u64) us = x)) (hy : Hid (vl (bs .u64) vs = y)) :
    Calls Tryd.prog 117 #[.slice A n c, .slice A' n' c'] w fun e w' => ∃ m, e = .returned (.int .i64 (ord x y)) ∧ w' = w.drewN m := by
  have lt1 := fun hl => Lib.hid (vl_lt_of_length (ys := vs) one_lt_bs64 k1.ok hN2 hl)
  have lt2 := fun hl => Lib.hid (vl_lt_of_length (ys := us) one_lt_bs64 k2.ok hN1 hl)
  rw [k1.len, k2.len] at lt1 lt2
  have hc1 := k1.cap
  have hc2 := k2.cap
  have ht1 := k1.top
  have ht2 := k2.top
  rcases Nat.lt_trichotomy n n' with hpq | hpq | hpq
  · have hne : ((n : Int) != (n' : Int)) = true := by rw [bne_iff_ne]; omega
    go_enter Tryd.func117, Tryd.ntmps117
    go_wp2
    go_ret
    exact ⟨0, ret_i64 (ord_lt (by rw [← hx.out, ← hy.out]; exact (lt1 hpq).out)).symm, rfl⟩
  · subst hpq
    clear lt1 lt2
    go_enter Tryd.func117, Tryd.ntmps117
    go_wp2
    go_loopw [5] (fun i wr => OrdRel us vs i ∧ ∃ m, wr = w.drewN m) (fun i _ => (intOf i + 1).toNat)
    case atStart => exact ⟨ordRel_start n k1.len k2.len, 0, rfl⟩
    case round =>
      obtain ⟨hor, m, rfl⟩ := hrel
      rcases hor with ⟨k, rfl, hk, hd⟩ | ⟨rfl, he⟩
      · have hkp : k < n := by have := k1.len; omega
        have Hd := Lib.hid hd
        clear hd hk
        obtain ⟨ad, a, rfl, hcx, ha⟩ := k1.at_ (j := k) hkp
        obtain ⟨ad', b, rfl, hcy, hb⟩ := k2.at_ (j := k) hkp
        have hcx' : (w.drewN m).cell? (ad.add k) = some (.int .u64 a) := hcx
        have hcy' : (w.drewN m).cell? (ad'.add k) = some (.int .u64 b) := hcy
        rcases Nat.lt_trichotomy a b with hxy | hxy | hxy
        · have HF := Lib.hid (dig_lt k1.ok (k1.len.trans k2.len.symm) Hd.out (by rw [k1.len]; exact hkp) ha.out.1 hb.out.1 hxy)
          go_wp2
          go_quiet (fail)
          go_wp2
          go_ret
          exact ⟨_, ret_i64 (ord_lt (by rw [← hx.out, ← hy.out]; exact HF.out)).symm, by rw [World.drewN_drewN]⟩
        · subst hxy
          have HF := Lib.hid (drop_down (k1.len.trans k2.len.symm) Hd.out (by rw [k1.len]; exact hkp) ha.out.1 hb.out.1)
          have hkl := Lib.hid (show k < us.length by rw [k1.len]; exact hkp)
          go_wp2
          go_quiet (fail)
          go_wp2
          go_quiet (fail)
          go_wp2
          go_roundw
          case rel => exact ⟨ordRel_next HF.out hkl.out, _, rfl⟩
          case measure => simp [intOf]
        · have HF := Lib.hid (dig_lt k2.ok (k2.len.trans k1.len.symm) Hd.out.symm (by rw [k2.len]; exact hkp) hb.out.1 ha.out.1 hxy)
          have hnl : ¬ (a : Int) < (b : Int) := by omega
          go_wp2
          go_quiet (fail)
          go_wp2
          go_quiet (fail)
          go_wp2
          go_ret
          exact ⟨_, ret_i64 (ord_gt (by rw [← hx.out, ← hy.out]; exact HF.out)).symm, by rw [World.drewN_drewN, World.drewN_drewN]⟩
      · have he' := Lib.hid he
        clear he
        go_wp2
        go_ret
        exact ⟨m, ret_i64 (ord_eq (by rw [← hx.out, ← hy.out, he'.out])).symm, rfl⟩
  · have hne : ((n : Int) != (n' : Int)) = true := by rw [bne_iff_ne]; omega
    go_enter Tryd.func117, Tryd.ntmps117
    go_wp2
    go_ret
    exact ⟨0, ret_i64 (ord_gt (by rw [← hx.out, ← hy.out]; exact (lt2 hpq).out)).symm, rfl⟩
end Go.Proofs.YtoljffghaklpdaaDoor.Fr

namespace Go.Proofs.YtoljffghaklpdaaDoor.Fr
open Go.RowKit Num

theorem size64_any (A : Option Addr) (n c : Nat) (xs : List Nat) (w : World) (h : Dg .u64 w A n c xs) (hN : Nrm xs) (hn : n ≤ 1000000) (x : Nat) (hx : Hid (vl (bs .u64) xs = x)) :
    Calls Tryd.prog 98 #[.slice A n c] w fun e w' => e = .returned (.int .i64 (bl x)) ∧ w = w' := by
  have hc2 := h.top
  cases n with
  | zero =>
    have hz : Hid (bl x = 0) := by rw [← hx.out, List.eq_nil_of_length_eq_zero h.len]; rfl
    go_enter Tryd.func98, Tryd.ntmps98
    go_wp2
    go_ret
    exact ⟨ret_i64 (by rw [hz.out]; rfl), rfl⟩
  | succ p =>
    obtain ⟨ad, y, rfl, hcx, hy⟩ := h.at_ (j := p) (by omega)
    have hyb : y ≤ 18446744073709551615 := Nat.le_of_lt_succ hy.out.2
    have hb := bl_vl64 h.len h.ok hy.out.1 (nrm_top hN h.len hy.out.1)
    rw [hx.out] at hb
    have Hb := Lib.hid hb
    clear hb
    have hbl : bl y ≤ 64 := bl_le (Nat.lt_of_le_of_lt hyb (by decide))
    have hne : (((p + 1 : Nat) : Int) == 0) = false := by rw [beq_eq_false_iff_ne]; omega
    have hL := bitLen_bl hyb
    have hlen : ∀ w, Calls Tryd.prog 114 #[.int .u64 (y : Int)] w fun e w' => e = .returned (.int .i64 ((bl y : Nat) : Int)) ∧ w = w' := fun w =>
      (Tryd.bits_Len64 (y : Int) w (by omega) (by omega)).mono fun e w' ⟨he, hw⟩ => ⟨by rw [he, Int.toNat_natCast, hL], hw.symm⟩
    have Hlen := Lib.hid hlen
    clear hlen hL
    go_enter Tryd.func98, Tryd.ntmps98
    go_wp2_with fail
    refine (Hlen.out _).mono ?_
    rintro e w' ⟨rfl, rfl⟩
    go_wp2
    go_ret
    exact ⟨ret_i64 (by rw [Hb.out]; omega), rfl⟩

structure FromRel (w : World) (n L : Nat) (xs : List Nat) (iv : Value) (wr : World) (k : Nat) (cur : List Nat) : Prop where
  i : iv = .int .i64 k
  kb : k ≤ n
  len : Hid (cur.length = L)
  ok : Okd (bs .u64) cur
  own : Mk wr w.heap.size 107 .u64 cur
  val : Hid (vl (bs .u64) cur = vl (bs .u32) (xs.take k))
  bel : Below w.heap.size w wr

set_option maxHeartbeats 1600000 in
set_option maxRecDepth 100000 in
theorem fromDigits_any (A : Option Addr) (n c : Nat) (xs : List Nat) (w : World) (h : Dg .u32 w A n c xs) (hn : n ≤ 1000000) :
    Calls Tryd.prog 105 #[.slice A n c] w (RetF .u64 w (vl (bs .u32) xs) ((n + 1) / 2)) := by
  have hc2 := h.top
  have hmk := make_u64 ((n + 1) / 2) (by omega)
  have e0 : ((((n + 1) / 2 : Nat) : Int)) = ((n : Int) + 1) / 2 := by omega
  rw [e0] at hmk
  clear e0
  have hxl := Lib.hid h.len
  go_enter Tryd.func105, Tryd.ntmps105
  go_wp2
  go_loopw [13] (fun iv wr => ∃ k cur, FromRel w n ((n + 1) / 2) xs iv wr k cur) (fun iv _ => n - (intOf iv).toNat)
  case atStart => exact ⟨0, zs ((n + 1) / 2), rfl, by omega, zs_len _, zs_ok (by decide) _, Mk.new _ _ _ _, show _ = _ by rw [zs_vl]; simp [vl], (Below.refl _ _).alloc (Nat.le_refl _) _⟩
  case round =>
    obtain ⟨k, cur, rfl, hkb, hcl, hco, hown, hval, hbel⟩ := hrel
    by_cases hkn : k < n
    · obtain ⟨ad, d, rfl, hcd, _, hd⟩ := h.at2 hbel hkn
      have hdb : d ≤ 4294967295 := Nat.le_of_lt_succ hd.out.2
      have hlen : Hid (k / 2 < cur.length) := by show _ < _; rw [hcl.out]; omega
      have hcc := hown.cell hlen.out
      have hcf := hown.frozen (k / 2)
      obtain ⟨cg, hcg⟩ : ∃ cg, cur.getD (k / 2) 0 = cg := ⟨_, rfl⟩
      rw [hcg] at hcc
      have F := from_step hco hlen.out hcg h.ok (by rw [hxl.out]; exact hkn) hd.out.1 hval.out
      have HF := Lib.hid F
      clear F hcg
      go_wp2_with fail
      go_region
      go_wp2
      go_roundw
      case rel =>
        have hw : IntKind.u64.wrap ((d : Int) * 2 ^ (32 * (k % 2))) = (d : Int) * 2 ^ (32 * (k % 2)) % 18446744073709551616 := by simp [IntKind.wrap, IntKind.bits, IntKind.signed]
        rw [hw, HF.out.2.1]
        exact ⟨k + 1, cur.set (k / 2) (cg + d * 2 ^ (32 * (k % 2))), by go_num, hkn, show _ = _ by rw [List.length_set]; exact hcl.out, hco.set _ HF.out.1, (hown.set_ _ _).drew, HF.out.2.2, (hbel.setCell (Nat.le_refl _) _).drew⟩
      case measure => simp [intOf]; omega
    · obtain rfl : k = n := by omega
      have hD := hown.dg64 hcl.out (by omega) hco
      have hv := hval.out
      rw [List.take_of_length_le (by rw [hxl.out]; omega)] at hv
      have Hv := Lib.hid hv
      clear hv
      go_wp2_with fail
      refine (trim64_any _ _ _ _ _ hD).mono ?_
      rintro e w' ⟨rfl, rfl⟩
      go_wp2
      go_ret
      exact RetF.tr hD Hv.out (Nat.le_refl _) hbel (fun ad he => by injection he with he; subst he; exact Nat.le_refl _)
end Go.Proofs.YtoljffghaklpdaaDoor.Fr

namespace Go.Proofs.YtoljffghaklpdaaDoor.Fr
open Go.RowKit Num

structure DigRel (w : World) (m X : Nat) (iv : Value) (wr : World) (k : Nat) (cur : List Nat) : Prop where
  i : iv = .int .i64 k
  kb : k ≤ m
  len : Hid (cur.length = m)
  ok : Okd (bs .u32) cur
  own : Mk wr w.heap.size 110 .u32 cur
  val : Hid (vl (bs .u32) (cur.take k) = X % bs .u32 ^ k)
  bel : Below w.heap.size w wr

set_option maxHeartbeats 1600000 in
set_option maxRecDepth 100000 in
theorem digits_any (A : Option Addr) (n c : Nat) (xs : List Nat) (w : World) (h : Dg .u64 w A n c xs) (hN : Nrm xs) (hn : n ≤ 400000) (X : Nat) (hX : Hid (vl (bs .u64) xs = X)) :
    Calls Tryd.prog 112 #[.slice A n c] w (RetF .u32 w X (2 * n)) := by
  have hc2 := h.top
  cases n with
  | zero =>
    have hz : Hid (X = 0) := by show _ = _; rw [← hX.out, List.eq_nil_of_length_eq_zero h.len]; rfl
    go_enter Tryd.func112, Tryd.ntmps112
    go_wp2
    go_ret
    exact ⟨none, 0, 0, [], rfl, Dg.nil _ _, Nrm.nil, show _ = _ by rw [hz.out]; rfl, by omega, Below.refl _ _, fun ad he => by cases he⟩
  | succ p =>
    have hbl : bl X ≤ 64 * (p + 1) := by
      have := vl_lt h.ok
      rw [bs64_pow, h.len, hX.out] at this
      exact bl_le this
    obtain ⟨m, hm⟩ : ∃ m, m = (bl X + 31) / 32 := ⟨_, rfl⟩
    have hmn : m ≤ 2 * (p + 1) := by omega
    have hmk := make_u32 m (by omega)
    rw [show (m : Int) = ((bl X : Int) + 31) / 32 by rw [hm]; omega] at hmk
    have hmk2 : ∀ w : World, Sem.run Tryd.prog (Instr.makeSlice 73 (.int .i64 (((bl X : Int) + 31) / 32)) (.int .i64 (((bl X : Int) + 31) / 32))) w = .ok (.slice (some ⟨w.heap.size, 0, none⟩) m m) (w.alloc (.cells (dcs .u32 (zs m)).toArray 110)) := hmk
    have Hm := Lib.hid hm
    clear hm hmk
    have hne : (((p + 1 : Nat) : Int) == 0) = false := by rw [beq_eq_false_iff_ne]; omega
    go_enter Tryd.func112, Tryd.ntmps112
    go_wp2_with fail
    refine (size64_any _ _ _ _ _ h hN (by omega) X hX).mono ?_
    rintro e w' ⟨rfl, rfl⟩
    go_wp2
    go_loopw [15] (fun iv wr => ∃ k cur, DigRel w m X iv wr k cur) (fun iv _ => m - (intOf iv).toNat)
    case atStart => exact ⟨0, zs m, rfl, by omega, zs_len _, zs_ok (by decide) _, Mk.new _ _ _ _, show _ = _ by rw [Nat.pow_zero, Nat.mod_one]; rfl, (Below.refl _ _).alloc (Nat.le_refl _) _⟩
    case round =>
      obtain ⟨k, cur, rfl, hkb, hcl, hco, hown, hval, hbel⟩ := hrel
      by_cases hkn : k < m
      · obtain ⟨ad, y, rfl, hcy, _, hy⟩ := h.at2 hbel (j := k / 2) (by omega)
        have hyb : y ≤ 18446744073709551615 := Nat.le_of_lt_succ hy.out.2
        have hlen : Hid (k < cur.length) := by show _ < _; rw [hcl.out]; exact hkn
        have hcc := hown.cell hlen.out
        have hcf := hown.frozen k
        generalize cur.getD k 0 = z at hcc
        have hd := half_digit h.ok k
        rw [hy.out.1, hX.out] at hd
        have Hd := Lib.hid hd
        clear hd
        have hcast := Lib.hid (u64_shr_cast y (32 * (k % 2)))
        go_wp2
        go_roundw
        case rel =>
          rw [hcast.out]
          exact ⟨k + 1, cur.set k (y / 2 ^ (32 * (k % 2)) % 4294967296), by go_num, hkn, show _ = _ by rw [List.length_set]; exact hcl.out, hco.set _ (Nat.mod_lt _ (by decide)), hown.set_ _ _, dig_step hlen.out hval.out Hd.out, hbel.setCell (Nat.le_refl _) _⟩
        case measure => simp [intOf]; omega
      · obtain rfl : k = m := by omega
        have hD := hown.dg hcl.out (by omega) hco
        have HT := Lib.hid (dig_top Hm.out hcl.out hco hval.out)
        go_wp2
        go_ret
        exact ⟨_, _, _, _, rfl, hD, HT.out.2, HT.out.1, hmn, hbel, fun ad he => by injection he with he; subst he; exact Nat.le_refl _⟩
end Go.Proofs.YtoljffghaklpdaaDoor.Fr
