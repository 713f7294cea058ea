/- Plain facts on lists of digits. Nothing here speaks of a program. -/
namespace Go.Proofs.YtjpdgnbdbpgnmaaDoor.Fr.Num

/-- the number with the digits xs (least significant first) in base b -/
def vl (b : Nat) : List Nat → Nat
  | [] => 0
  | x :: xs => x + b * vl b xs

theorem getD_in {xs : List Nat} {i : Nat} (h : i < xs.length) : xs.getD i 0 = xs[i] := by simp [List.getD_eq_getElem?_getD, h]
theorem getD_out {xs : List Nat} {i : Nat} (h : xs.length ≤ i) : xs.getD i 0 = 0 := by simp [List.getD_eq_getElem?_getD, List.getElem?_eq_none h]

/-- all digits are less than the base -/
def Okd (b : Nat) (xs : List Nat) : Prop := ∀ x ∈ xs, x < b

theorem Okd.nil (b : Nat) : Okd b [] := by intro x hx; cases hx
theorem Okd.cons {b x : Nat} {xs : List Nat} (h : Okd b (x :: xs)) : x < b ∧ Okd b xs :=
  ⟨h x (by simp), fun y hy => h y (by simp [hy])⟩
theorem Okd.mk {b x : Nat} {xs : List Nat} (hx : x < b) (h : Okd b xs) : Okd b (x :: xs) := by
  intro y hy
  rcases List.mem_cons.1 hy with rfl | hy
  · exact hx
  · exact h y hy
theorem Okd.append {b : Nat} {xs ys : List Nat} (h : Okd b xs) (k : Okd b ys) : Okd b (xs ++ ys) := by
  intro y hy
  rcases List.mem_append.1 hy with hy | hy
  · exact h y hy
  · exact k y hy
theorem Okd.take {b : Nat} {xs : List Nat} (h : Okd b xs) (n : Nat) : Okd b (xs.take n) := fun y hy => h y (List.mem_of_mem_take hy)
theorem Okd.drop {b : Nat} {xs : List Nat} (h : Okd b xs) (n : Nat) : Okd b (xs.drop n) := fun y hy => h y (List.mem_of_mem_drop hy)
theorem Okd.get {b : Nat} {xs : List Nat} (h : Okd b xs) {i : Nat} (hi : i < xs.length) : xs[i] < b := h _ (List.getElem_mem hi)
theorem Okd.getD {b : Nat} {xs : List Nat} (h : Okd b xs) (hb : 0 < b) (i : Nat) : xs.getD i 0 < b := by
  by_cases hi : i < xs.length
  · rw [getD_in hi]; exact h.get hi
  · rw [getD_out (by omega)]; exact hb
theorem Okd.replicate {b : Nat} (hb : 0 < b) (n : Nat) : Okd b (List.replicate n 0) := by
  intro y hy
  have := (List.mem_replicate.1 hy).2
  omega
theorem Okd.set {b : Nat} {xs : List Nat} (h : Okd b xs) (i : Nat) {x : Nat} (hx : x < b) : Okd b (xs.set i x) := by
  intro y hy
  rcases List.mem_or_eq_of_mem_set hy with hy | rfl
  · exact h y hy
  · exact hx

theorem vl_nil (b : Nat) : vl b [] = 0 := rfl
theorem vl_cons (b x : Nat) (xs : List Nat) : vl b (x :: xs) = x + b * vl b xs := rfl

theorem vl_append (b : Nat) (xs ys : List Nat) : vl b (xs ++ ys) = vl b xs + b ^ xs.length * vl b ys := by
  induction xs with
  | nil => simp [vl]
  | cons x xs ih =>
    simp only [List.cons_append, vl_cons, ih, List.length_cons, Nat.pow_succ]
    rw [Nat.mul_add, ← Nat.mul_assoc, Nat.mul_comm b (b ^ xs.length), Nat.add_assoc]

theorem vl_lt {b : Nat} {xs : List Nat} (h : Okd b xs) : vl b xs < b ^ xs.length := by
  induction xs with
  | nil => simp [vl]
  | cons x xs ih =>
    have hx := h.cons
    have := ih hx.2
    simp only [vl_cons, List.length_cons, Nat.pow_succ]
    have h1 : b * (vl b xs + 1) ≤ b * b ^ xs.length := Nat.mul_le_mul_left b this
    rw [Nat.mul_add] at h1
    rw [Nat.mul_comm (b ^ xs.length) b]
    omega

theorem vl_replicate (b n : Nat) : vl b (List.replicate n 0) = 0 := by
  induction n with
  | zero => rfl
  | succ n ih => rw [List.replicate_succ, vl_cons, ih]; simp

theorem vl_take_succ {b : Nat} {xs : List Nat} {k : Nat} (h : k < xs.length) : vl b (xs.take (k + 1)) = vl b (xs.take k) + b ^ k * xs[k] := by
  rw [List.take_succ_eq_append_getElem h, vl_append, List.length_take, Nat.min_eq_left (by omega)]
  simp [vl]

theorem vl_take_succ_getD {b : Nat} (xs : List Nat) (k : Nat) : vl b (xs.take (k + 1)) = vl b (xs.take k) + b ^ k * xs.getD k 0 := by
  by_cases h : k < xs.length
  · rw [vl_take_succ h, getD_in h]
  · rw [getD_out (by omega), List.take_of_length_le (by omega), List.take_of_length_le (by omega)]; simp

theorem vl_take_drop (b : Nat) (xs : List Nat) (k : Nat) (h : k ≤ xs.length) : vl b xs = vl b (xs.take k) + b ^ k * vl b (xs.drop k) := by
  conv => lhs; rw [← List.take_append_drop k xs]
  rw [vl_append, List.length_take, Nat.min_eq_left h]

theorem vl_snoc (b : Nat) (xs : List Nat) (x : Nat) : vl b (xs ++ [x]) = vl b xs + b ^ xs.length * x := by
  rw [vl_append]; simp [vl]

/-- the highest digit is not 0 -/
def Nrm (xs : List Nat) : Prop := ∀ h : 0 < xs.length, xs[xs.length - 1] ≠ 0

theorem Nrm.nil : Nrm [] := by intro h; simp at h

theorem Nrm.le {b : Nat} {xs : List Nat} (h : Nrm xs) (hp : 0 < xs.length) : b ^ (xs.length - 1) ≤ vl b xs := by
  have h1 := vl_take_drop b xs (xs.length - 1) (by omega)
  have h2 : xs.drop (xs.length - 1) = [xs[xs.length - 1]] := by
    rw [List.drop_eq_getElem_cons (by omega), List.drop_eq_nil_of_le (by omega)]
  rw [h2] at h1
  have h3 : vl b [xs[xs.length - 1]] = xs[xs.length - 1] := by simp [vl]
  rw [h3] at h1
  have h4 := h hp
  have h5 : b ^ (xs.length - 1) * 1 ≤ b ^ (xs.length - 1) * xs[xs.length - 1] := Nat.mul_le_mul_left _ (by omega)
  omega

theorem Nrm.pos {b : Nat} (hb : 0 < b) {xs : List Nat} (h : Nrm xs) (hp : 0 < xs.length) : 0 < vl b xs := by
  have := h.le (b := b) hp
  have h2 : 0 < b ^ (xs.length - 1) := Nat.pow_pos hb
  omega

theorem Nrm.zero {b : Nat} (hb : 0 < b) {xs : List Nat} (h : Nrm xs) : vl b xs = 0 ↔ xs.length = 0 := by
  constructor
  · intro hz
    by_cases hp : 0 < xs.length
    · have := h.pos hb hp; omega
    · omega
  · intro hz
    rw [List.eq_nil_of_length_eq_zero hz]; rfl

/-- two normal lists of digits: the longer one is greater -/
theorem vl_lt_of_length {b : Nat} {xs ys : List Nat} (hb : 1 < b) (hx : Okd b xs) (hn : Nrm ys) (h : xs.length < ys.length) : vl b xs < vl b ys := by
  have h1 := vl_lt hx
  have h2 := hn.le (b := b) (by omega)
  have h3 : b ^ xs.length ≤ b ^ (ys.length - 1) := Nat.pow_le_pow_right (by omega) (by omega)
  omega

/-- equally long lists with the same digits behind place i, the first one's digit less at place i -/
theorem vl_lt_of_digit {b : Nat} {xs ys : List Nat} (hx : Okd b xs) {i : Nat} (hl : xs.length = ys.length) (hi : i < xs.length)
    (hd : xs.drop (i + 1) = ys.drop (i + 1)) (h : xs[i] < ys[i]) : vl b xs < vl b ys := by
  rw [vl_take_drop b xs (i + 1) (by omega), vl_take_drop b ys (i + 1) (by omega), hd, vl_take_succ (by omega), vl_take_succ (by omega)]
  have h1 := vl_lt (hx.take i)
  rw [List.length_take, Nat.min_eq_left (by omega)] at h1
  have h2 : b ^ i * (xs[i] + 1) ≤ b ^ i * ys[i] := Nat.mul_le_mul_left _ h
  rw [Nat.mul_add] at h2
  omega

theorem digits_unique {b : Nat} (hb : 1 < b) : ∀ {xs ys : List Nat}, Okd b xs → Okd b ys → xs.length = ys.length → vl b xs = vl b ys → xs = ys := by
  intro xs
  induction xs with
  | nil => intro ys _ _ hl _; exact (List.eq_nil_of_length_eq_zero hl.symm).symm
  | cons x xs ih =>
    intro ys hx hy hl hv
    match ys, hl with
    | y :: ys, hl =>
      have h1 := hx.cons
      have h2 := hy.cons
      simp only [vl_cons] at hv
      have e1 : (x + b * vl b xs) % b = x := by rw [Nat.add_mul_mod_self_left, Nat.mod_eq_of_lt h1.1]
      have e2 : (y + b * vl b ys) % b = y := by rw [Nat.add_mul_mod_self_left, Nat.mod_eq_of_lt h2.1]
      have hxy : x = y := by rw [← e1, ← e2, hv]
      subst hxy
      have hv2 : b * vl b xs = b * vl b ys := by omega
      have hv3 := Nat.eq_of_mul_eq_mul_left (by omega) hv2
      rw [ih h1.2 h2.2 (by simpa using hl) hv3]

theorem Nrm.unique {b : Nat} (hb : 1 < b) {xs ys : List Nat} (hx : Okd b xs) (hy : Okd b ys) (nx : Nrm xs) (ny : Nrm ys) (hv : vl b xs = vl b ys) : xs = ys := by
  have hl : xs.length = ys.length := by
    rcases Nat.lt_trichotomy xs.length ys.length with h | h | h
    · have := vl_lt_of_length hb hx ny h; omega
    · exact h
    · have := vl_lt_of_length hb hy nx h; omega
  exact digits_unique hb hx hy hl hv

/-- cutting a digit 0 off the end does not change the number -/
theorem vl_take_pred {b : Nat} {xs : List Nat} {n : Nat} (h0 : 0 < n) (hn : n ≤ xs.length) (hz : xs[n - 1] = 0) : vl b (xs.take (n - 1)) = vl b (xs.take n) := by
  have := vl_take_succ (b := b) (xs := xs) (k := n - 1) (by omega)
  rw [show n - 1 + 1 = n from by omega, hz] at this
  simpa using this.symm

theorem nrm_take {xs : List Nat} {n : Nat} (hn : n ≤ xs.length) (h : ∀ h0 : 0 < n, xs[n - 1] ≠ 0) : Nrm (xs.take n) := by
  intro h0
  have hl : (xs.take n).length = n := by rw [List.length_take]; omega
  have h0' : 0 < n := by omega
  have := h h0'
  rw [List.getElem_take]
  simpa [hl] using this
end Go.Proofs.YtjpdgnbdbpgnmaaDoor.Fr.Num
