/- Bytes: what is packed is read back, and no change of a single byte is overlooked. -/
import Derived.Test.YtobobbhifajhmaaB9
namespace Go.Proofs.Ytobobbhifajhmaa
open Go.RowKit

theorem rd_mod {x : Int} {k : Nat} {rest : List Int} : ∀ j, j ≤ k → rd (le x k ++ rest) j = x % 256 ^ j := by
  intro j
  induction j with
  | zero => intro _; show (0 : Int) = x % 1; omega
  | succ j ih =>
    intro hj
    show rd (le x k ++ rest) j + (le x k ++ rest).getD j 0 * 256 ^ j = _
    rw [ih (by omega)]
    have hg : (le x k ++ rest).getD j 0 = byt x j := by
      rw [← tab_getD (f := byt x) (show j < k by omega)]
      simp [List.getD_eq_getElem?_getD, List.getElem?_append, le, tab_len, show j < k by omega]
    rw [hg]
    unfold byt
    have hp := pow256 j
    rw [Int.pow_succ]
    have e2 := Int.mul_ediv_add_emod x (256 ^ j)
    have e1 := Int.mul_ediv_add_emod x (256 ^ j * 256)
    have e3 := Int.mul_ediv_add_emod (x / 256 ^ j) 256
    have e4 : x / 256 ^ j / 256 = x / (256 ^ j * 256) := by rw [← Int.pow_succ]; exact shift256 x j
    rw [e4] at e3
    generalize x / (256 ^ j * 256) = q at *
    generalize x / 256 ^ j = y at *
    generalize y % 256 = z at *
    rw [← e3] at e2
    have e5 : 256 ^ j * (256 * q + z) = 256 ^ j * 256 * q + z * 256 ^ j := by rw [Int.mul_add, ← Int.mul_assoc, Int.mul_comm _ z]
    rw [e5] at e2
    omega

/-- two sums that are equal begin with equal ones -/
theorem ckS_inj {c c' b : Int} (h0 : 0 ≤ c) (h1 : c ≤ 4294967295) (h2 : 0 ≤ c') (h3 : c' ≤ 4294967295) (h : ckS c b = ckS c' b) : c = c' := by
  unfold ckS at h
  have e1 := Int.mul_ediv_add_emod (65599 * c + b + 1) 4294967296
  have e2 := Int.mul_ediv_add_emod (65599 * c' + b + 1) 4294967296
  rw [h] at e1
  generalize (65599 * c + b + 1) / 4294967296 = p at e1
  generalize (65599 * c' + b + 1) / 4294967296 = p' at e2
  generalize (65599 * c' + b + 1) % 4294967296 = r at e1 e2
  clear h
  have hk : 65599 * c - 65599 * c' = 4294967296 * (p - p') := by rw [Int.mul_sub]; omega
  generalize p - p' = k at hk
  clear e1 e2
  have hd : (4294967296 : Int) ∣ 65599 * (c - c') := ⟨k, by rw [Int.mul_sub]; exact hk⟩
  clear hk
  have hn := Int.natAbs_dvd_natAbs.2 hd
  rw [Int.natAbs_mul] at hn
  have hn2 : (4294967296 : Int) ∣ c - c' := Int.natAbs_dvd_natAbs.1 (Nat.Coprime.dvd_of_dvd_mul_left (by decide) hn)
  obtain ⟨Z, hZ⟩ := hn2
  clear hd hn
  omega
theorem ckS_byte {c a b : Int} (ha : 0 ≤ a ∧ a ≤ 255) (hb : 0 ≤ b ∧ b ≤ 255) (h : ckS c a = ckS c b) : a = b := by
  unfold ckS at h
  omega
theorem fold_inj : ∀ {bs : List Int} {c c' : Int}, 0 ≤ c → c ≤ 4294967295 → 0 ≤ c' → c' ≤ 4294967295 → bs.foldl ckS c = bs.foldl ckS c' → c = c'
  | [], _, _, _, _, _, _, h => h
  | b :: bs, c, c', h0, h1, h2, h3, h => by
    have k1 := ckS_bd c b
    have k2 := ckS_bd c' b
    exact ckS_inj h0 h1 h2 h3 (fold_inj (bs := bs) k1.1 k1.2 k2.1 k2.2 h)
theorem ck_byte {l1 l2 : List Int} {a b : Int} (ha : 0 ≤ a ∧ a ≤ 255) (hb : 0 ≤ b ∧ b ≤ 255) (h : ck (l1 ++ a :: l2) = ck (l1 ++ b :: l2)) : a = b := by
  unfold ck at h
  rw [List.foldl_append, List.foldl_append] at h
  have k1 := ckS_bd (l1.foldl ckS 1) a
  have k2 := ckS_bd (l1.foldl ckS 1) b
  exact ckS_byte ha hb (fold_inj (bs := l2) k1.1 k1.2 k2.1 k2.2 h)

/-- no change of a single byte is overlooked -/
theorem wf_set {bs : List Int} (hb : byB bs) (h : wfB bs = true) {i : Nat} (hi : i < bs.length) {v : Int} (hv : 0 ≤ v ∧ v ≤ 255) (hne : v ≠ bs.getD i 0) : wfB (bs.set i v) = false := by
  cases hw : wfB (bs.set i v) with
  | false => rfl
  | true =>
    exfalso
    obtain ⟨q, hq, _, _, h1⟩ := wf_len h
    obtain ⟨q2, hq2, _, _, h2⟩ := wf_len hw
    rw [List.length_set] at h2
    have hx := byB_get hb hi rfl
    have hb2 : byB (bs.set i v) := fun b hb3 => by
      rcases List.mem_or_eq_of_mem_set hb3 with h4 | h4
      · exact hb b h4
      · rw [h4]; exact hv
    generalize hN : bs.length - 4 = N at *
    rcases Nat.lt_or_ge i N with hlt | hge
    · rw [List.drop_set_of_lt (by omega), h1, List.take_set] at h2
      have hiN : i < (bs.take N).length := by rw [List.length_take]; omega
      have e2 : (bs.take N).set i v = (bs.take N).take i ++ v :: (bs.take N).drop (i + 1) := by
        rw [List.set_eq_take_append_cons_drop, if_pos hiN]
      have e : bs.take N = (bs.take N).take i ++ bs.getD i 0 :: (bs.take N).drop (i + 1) := by
        conv => lhs; rw [← List.take_append_drop i (bs.take N), List.drop_eq_getElem_cons hiN]
        rw [getD_in hi, List.getElem_take]
      rw [e2] at h2
      exact hne (ck_byte hv hx (h2.symm.trans (congrArg ck e)))
    · have e1 : (bs.set i v).take N = bs.take N := by rw [List.take_set_of_le hge]
      rw [e1, ← h1] at h2
      have l1 := le_rd (byB_drop hb N) (k := 4) (by rw [List.length_drop]; omega)
      have l2 := le_rd (byB_drop hb2 N) (k := 4) (by rw [List.length_drop, List.length_set]; omega)
      rw [h2, l1, List.take_of_length_le (by rw [List.length_drop]; omega), List.take_of_length_le (by rw [List.length_drop, List.length_set]; omega)] at l2
      have l3 := congrArg (fun l : List Int => l.getD (i - N) 0) l2
      simp only [List.getD_eq_getElem?_getD, List.getElem?_drop, show N + (i - N) = i by omega, List.getElem?_set_self hi, Option.getD_some] at l3
      exact hne (by rw [List.getD_eq_getElem?_getD]; exact l3.symm)
end Go.Proofs.Ytobobbhifajhmaa
