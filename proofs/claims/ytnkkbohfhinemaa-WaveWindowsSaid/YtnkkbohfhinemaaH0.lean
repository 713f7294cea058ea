/- What the weights of a window are like. -/
import Derived.Test.YtnkkbohfhinemaaG0
import Derived.Test.YtnkkbohfhinemaaF0
import Derived.Test.YtnkkbohfhinemaaK3
namespace Go.Proofs.Ytnkkbohfhinemaa
open Go.RowKit

theorem wFn_sym {kind : Int} (hk1 : 1 ≤ kind) (hk2 : kind ≤ 3) (d e : Int) : wFn kind (-d) e = wFn kind d e := by
  rcases (show kind = 1 ∨ kind = 2 ∨ kind = 3 by omega) with rfl | rfl | rfl
  · rw [wFn1, wFn1]
  · rw [wFn2, wFn2]; unfold wTri; rw [Int.neg_neg, show max (-d) d = max d (-d) by omega]
  · rw [wFn3, wFn3]; unfold wWel; rw [Int.neg_mul_neg]
theorem rnd_mono {a b c : Int} (ha : 0 ≤ a) (hab : a ≤ b) (hc : 1 ≤ c) : rnd a c ≤ rnd b c := by
  rw [rnd_pos ha, rnd_pos (by omega)]
  exact Int.ediv_le_ediv (by omega) (by omega)
theorem wFn_up {kind : Int} (hk1 : 1 ≤ kind) (hk2 : kind ≤ 3) {c d e : Int} (h1 : -e ≤ c) (h2 : c ≤ d) (h3 : d ≤ 0) (he : 1 ≤ e) : wFn kind c e ≤ wFn kind d e := by
  rcases (show kind = 1 ∨ kind = 2 ∨ kind = 3 by omega) with rfl | rfl | rfl
  · rw [wFn1, wFn1]; exact Int.le_refl _
  · rw [wFn2, wFn2]; unfold wTri; exact rnd_mono (by omega) (by omega) he
  · rw [wFn3, wFn3]; unfold wWel
    have hc := sq_bd (x := c) (m := e) h1 (by omega)
    have hd := sq_bd (x := d) (m := -c) (by omega) (by omega)
    rw [Int.neg_mul_neg] at hd
    have hee : 1 * 1 ≤ e * e := Int.mul_le_mul he he (by omega) (by omega)
    exact rnd_mono (by omega) (by omega) (by omega)
theorem rnd_one {a b : Int} (ha : 0 ≤ a) (hb : 1 ≤ b) (h : b ≤ 2 * a) : 1 ≤ rnd a b := by
  rw [rnd_pos ha]
  exact (Int.le_ediv_iff_mul_le (by omega)).2 (by omega)
theorem wAt_one {kind : Int} {n i : Nat} (hk1 : 1 ≤ kind) (hk2 : kind ≤ 3) (hn : n ≤ 4096) (hi : i < n) : 1 ≤ wAt kind n i := by
  unfold wAt
  generalize hd : 2 * (i : Int) - ((n : Int) - 1) = d
  generalize he : (n : Int) + 1 = e
  have h1 : -(e - 2) ≤ d := by omega
  have h2 : d ≤ e - 2 := by omega
  have he1 : 2 ≤ e := by omega
  have he2 : e ≤ 4097 := by omega
  rcases (show kind = 1 ∨ kind = 2 ∨ kind = 3 by omega) with rfl | rfl | rfl
  · rw [wFn1]; omega
  · rw [wFn2]; unfold wTri; exact rnd_one (by omega) (by omega) (by omega)
  · rw [wFn3]; unfold wWel
    have hs := sq_bd h1 h2
    have hm : (e - 2) * (e - 2) = e * e - 4 * e + 4 := by rw [Int.sub_mul, Int.mul_sub, Int.mul_comm e 2]; omega
    have hee : e * e ≤ 4097 * e := Int.mul_le_mul_of_nonneg_right he2 (by omega)
    have hee1 : 1 * 1 ≤ e * e := Int.mul_le_mul (by omega) (by omega) (by omega) (by omega)
    exact rnd_one (by omega) (by omega) (by omega)
theorem wAt_sym {kind : Int} {n i j : Nat} (hk1 : 1 ≤ kind) (hk2 : kind ≤ 3) (h : i + j + 1 = n) : wAt kind n j = wAt kind n i := by
  unfold wAt
  rw [show 2 * (j : Int) - ((n : Int) - 1) = -(2 * (i : Int) - ((n : Int) - 1)) by omega]
  exact wFn_sym hk1 hk2 _ _
theorem wAt_up {kind : Int} {n i : Nat} (hk1 : 1 ≤ kind) (hk2 : kind ≤ 3) (h : 2 * (i + 1) + 1 ≤ n) : wAt kind n i ≤ wAt kind n (i + 1) := by
  unfold wAt
  exact wFn_up hk1 hk2 (by omega) (by omega) (by omega) (by omega)
theorem w_all {kind : Int} {n : Nat} (hk1 : 1 ≤ kind) (hk2 : kind ≤ 3) (hn : n ≤ 4096) : allB 1 4096 (tab n (wAt kind n)) = true := by
  refine List.all_eq_true.2 fun y hy => ?_
  unfold tab at hy
  obtain ⟨i, hi, rfl⟩ := List.mem_map.1 hy
  have hi := List.mem_range.1 hi
  exact okB_mk (wAt_one hk1 hk2 hn hi) (wAt_bd hk1 hk2 hi).2
end Go.Proofs.Ytnkkbohfhinemaa
