import Derived.Test.YtjpdgnbdbpgnmaaDoorPD
namespace Go.Proofs.YtjpdgnbdbpgnmaaDoor.Fr
open Go.RowKit Num

def RetDiv64 (w : World) (x y L : Nat) (e : Ending) (w' : World) : Prop :=
  ∃ v v', e = .returned (.tuple #[v, v']) ∧ NV .u64 w' v (x / y) L ∧ NV .u64 w' v' (x % y) L ∧ Below w.heap.size w w' ∧ Hid (∀ A m c, v = .slice A m c → ∀ ad, A = some ad → w.heap.size ≤ ad.block)

theorem ord_neg {x y : Nat} (h : x < y) : (ord x y : Int) < 0 := by rw [ord_lt h]; decide
theorem ord_nn {x y : Nat} (h : y ≤ x) : ¬ (ord x y : Int) < 0 := by
  have := ord_nonneg.2 h; omega

set_option maxHeartbeats 1600000 in
set_option maxRecDepth 100000 in
theorem divide_small (HD : Hid DivSaid) (A A' : Option Addr) (n c n' c' : Nat) (xs ys : List Nat) (w : World) (h : Dg .u64 w A n c xs) (h' : Dg .u64 w A' n' c' ys) (hN : Nrm xs) (hN' : Nrm ys) (X Y : Nat) (hX : Hid (vl (bs .u64) xs = X)) (hY : Hid (vl (bs .u64) ys = Y))
    (hn : n ≤ 2000000) (hs : X < Y ∨ n' = 1) :
    Calls Tryd.prog 109 #[.slice A n c, .slice A' n' c'] w (RetDiv64 w X Y (n + 1)) := by
  by_cases hlt : X < Y
  · have ho := ord_neg hlt
    have Hd := Lib.hid (show X / Y = 0 ∧ X % Y = X from ⟨Nat.div_eq_of_lt hlt, Nat.mod_eq_of_lt hlt⟩)
    clear hs hlt
    go_enter Tryd.func109, Tryd.ntmps109
    go_wp2_with fail
    refine (cmp64_any _ _ _ _ _ _ _ _ _ h h' hN hN' X Y hX hY).mono ?_
    rintro e w2 ⟨m, rfl, rfl⟩
    go_wp2
    go_ret2
    exact ⟨_, _, rfl, by rw [Hd.out.1]; exact NV.mk (Dg.nil _ _) Nrm.nil rfl (Nat.zero_le _), by rw [Hd.out.2]; exact NV.mk (h.drewN m) hN hX (by omega), bel_drewN (Below.refl _ _) m, fun A m c he ad ha => by injection he with h1; rw [← h1] at ha; cases ha⟩
  · obtain rfl : n' = 1 := by omega
    have ho := ord_nn (Nat.le_of_not_lt hlt)
    obtain ⟨ad', y, rfl, hcy, hy⟩ := h'.at_ (j := 0) (by omega)
    have hyv := nrm_one64 h'.len hy.out.1
    rw [hY.out] at hyv
    have hyb : y ≤ 18446744073709551615 := Nat.le_of_lt_succ hy.out.2
    have hy1 : 1 ≤ y := by
      have := nrm_top hN' h'.len hy.out.1
      omega
    have hp : 0 < n := by
      have := nz_len (b := bs .u64) (xs := xs) (by rw [hX.out]; omega)
      rw [h.len] at this; exact this
    have Hyv := Lib.hid hyv
    clear hyv hs hlt
    have hcy : w.cell? ad' = some (.int .u64 y) := hcy
    have hbY := World.block_lt_of_cell? _ _ hcy
    go_enter Tryd.func109, Tryd.ntmps109
    go_wp2_with fail
    refine (cmp64_any _ _ _ _ _ _ _ _ _ h h' hN hN' X Y hX hY).mono ?_
    rintro e w2 ⟨m, rfl, rfl⟩
    go_wp2_with fail
    refine (clone_any _ _ _ _ _ (h.drewN m) hn hp).mono ?_
    rintro e w3 ⟨g, ca, rfl, hM, hca, hca2, hge, hb3⟩
    have hw3 := (bel_drewN (Below.refl w.heap.size w) m).trans hb3
    have hcy3 : w3.cell? ad' = some (.int .u64 y) := (hw3.cell hbY).trans hcy
    go_wp2_with fail
    refine (shrink_any HD g n ca y xs _ hM h.ok h.len hn hy1 hyb).mono ?_
    rintro e w4 ⟨r, cur, rfl, hr, hry, hM4, hok4, hl4, hv4, hon⟩
    have hw4 := hw3.trans (hon.below (show w.heap.size ≤ g from hge))
    have hDq : Dg .u64 w4 (some ⟨g, 0, none⟩) n ca cur := ⟨hl4.out, hca, hca2, hok4, (hM4.dg64 hl4.out (by omega) hok4).cell⟩
    have hDr := Dg.lit1_64 w4 107 r (by omega)
    have hDq2 := hDq.alloc (.cells #[.int .u64 (r : Int)] 107)
    go_wp2_with fail
    refine (trim64_any _ _ _ _ _ hDq2).mono ?_
    rintro e w' ⟨rfl, rfl⟩
    go_wp2_with fail
    refine (trim64_any _ _ _ _ _ hDr).mono ?_
    rintro e w' ⟨rfl, rfl⟩
    go_wp2
    go_ret2
    exact ⟨_, _, rfl, NV.mk hDq2.tr (nrm_tr _) (show _ = _ by rw [vl_tr, hv4.out, hX.out, Hyv.out]) (by have := len_tl hl4.out; omega), NV.mk hDr.tr (nrm_tr _) (show _ = _ by rw [vl_tr]; simp only [vl, Nat.mul_zero, Nat.add_zero]; rw [hr.out, hX.out, Hyv.out]) (Nat.le_trans (tl_le _) (by simp)), hw4.alloc hw4.size _, fun A m c he ad ha => by injection he with h1; rw [← h1] at ha; injection ha with ha; subst ha; exact hge⟩
end Go.Proofs.YtjpdgnbdbpgnmaaDoor.Fr
