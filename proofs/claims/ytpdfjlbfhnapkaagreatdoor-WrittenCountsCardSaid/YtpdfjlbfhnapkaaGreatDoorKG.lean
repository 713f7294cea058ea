/- The document's words of cardinals and ordinals. -/
import Derived.Test.YtpdfjlbfhnapkaaGreatDoorKD
namespace Go.Proofs.YtpdfjlbfhnapkaaGreatDoor
open Go.RowKit
set_option linter.unusedSimpArgs false
set_option linter.unusedVariables false
set_option maxRecDepth 100000

/-- the words of numbers -/
def allW : List Str := smallL ++ tensL ++ [[104, 117, 110, 100, 114, 101, 100], [97, 110, 100], [98, 105, 108, 108, 105, 111, 110], [109, 105, 108, 108, 105, 111, 110], [116, 104, 111, 117, 115, 97, 110, 100]]
theorem two_mem : ∀ n, n < 100 → ∀ x ∈ twoW n, x ∈ allW := by decide +kernel
theorem small_mem : ∀ d, d < 20 → smallN d ∈ allW := by decide +kernel
theorem lastW_mem {pre : List Str} {n : Nat} (hn : n < 100) (h : ∀ x ∈ pre, x ∈ allW) : ∀ x ∈ lastW pre n, x ∈ allW := by
  unfold lastW
  split
  · exact two_mem n hn
  · split
    · exact h
    · intro x hx
      rw [List.mem_append, List.mem_append] at hx
      rcases hx with (hx | hx) | hx
      · exact h x hx
      · rw [List.mem_singleton] at hx; subst hx; decide
      · exact two_mem n hn x hx
theorem tailW_mem {pre : List Str} {n : Nat} (hn : n < 1000) (h : ∀ x ∈ pre, x ∈ allW) : ∀ x ∈ tailW pre n, x ∈ allW := by
  unfold tailW
  split
  · refine lastW_mem (by omega) (fun x hx => ?_)
    rw [List.mem_append] at hx
    rcases hx with hx | hx
    · exact h x hx
    · simp only [List.mem_cons, List.not_mem_nil, or_false] at hx
      rcases hx with rfl | rfl
      · exact small_mem _ (by omega)
      · decide
  · exact lastW_mem (by omega) h
theorem gW_mem (n j : Nat) (hj : j < 3) : ∀ x ∈ gW n j, x ∈ allW := by
  unfold gW
  split
  · intro x hx
    rw [List.mem_append] at hx
    rcases hx with hx | hx
    · exact tailW_mem (pre := []) (by omega) (by simp) x hx
    · rw [List.mem_singleton] at hx
      subst hx
      rcases (show j = 0 ∨ j = 1 ∨ j = 2 by omega) with rfl | rfl | rfl <;> decide
  · simp
theorem cntW_mem {n : Nat} (hn : n < 1000000000000) : ∀ x ∈ cntW n, x ∈ allW := by
  rw [cnt_gW hn]
  refine tailW_mem (by omega) (fun x hx => ?_)
  rw [List.mem_append, List.mem_append] at hx
  rcases hx with (hx | hx) | hx
  · exact gW_mem n 0 (by decide) x hx
  · exact gW_mem n 1 (by decide) x hx
  · exact gW_mem n 2 (by decide) x hx
theorem allW_ok : ∀ x ∈ allW, x ≠ [] ∧ x.length ≤ 20 ∧ (∀ c ∈ x, c ≠ 32) ∧ x ≠ ordW x ∧ (ordW x).length ≤ 30 := by decide +kernel
theorem spl_join {ws : List Str} (hne : ws ≠ []) (h : ∀ x ∈ ws, ∀ c ∈ x, c ≠ 32) : spl (joinW ws) = ws := by
  induction ws with
  | nil => exact absurd rfl hne
  | cons x xs ih =>
    cases xs with
    | nil => rw [joinW_one]; exact spl_nosp (h x List.mem_cons_self)
    | cons y ys =>
      rw [joinW_cons x _ (by simp), spl_hit _ (h x List.mem_cons_self), ih (by simp) (fun z hz => h z (List.mem_cons_of_mem _ hz))]
theorem spl_cnt {n : Nat} (hn : n < 1000000000000) : spl (joinW (cntW n)) = cntW n := spl_join (cntW_ne n) (fun x hx => (allW_ok x (cntW_mem hn x hx)).2.2.1)
theorem joinW_last {p : List Str} {x y : Str} (h : joinW (p ++ [x]) = joinW (p ++ [y])) : x = y := by
  by_cases hp : p = []
  · subst hp
    rw [List.nil_append, List.nil_append, joinW_one, joinW_one] at h
    exact h
  · rw [joinW_snoc _ _ hp, joinW_snoc _ _ hp] at h
    exact List.append_cancel_left h
/-- cardinals are no ordinals -/
theorem card_ord {n : Nat} (hn : n < 1000000000000) : joinW (cntW n) ≠ joinW (sordW n) := by
  intro h
  have hm := cntW_mem hn
  unfold sordW at h
  rcases List.eq_nil_or_concat (cntW n) with h1 | ⟨p, l, h1⟩
  · exact cntW_ne n h1
  · rw [List.concat_eq_append] at h1
    rw [h1] at h hm
    have e : (p ++ [l]).length - 1 = p.length := by simp
    rw [e, List.getD_eq_getElem?_getD, List.getElem?_append_right (Nat.le_refl _), Nat.sub_self, List.set_append_right _ _ (Nat.le_refl _), Nat.sub_self] at h
    exact (allW_ok l (hm l (by simp))).2.2.2.1 (joinW_last h)
theorem negW_join {ws : List Str} (h : ws ≠ []) : joinW (negW ws) = [109, 105, 110, 117, 115, 32] ++ joinW ws := by
  unfold negW
  rw [if_neg h, joinW_cons _ _ h]
  rfl
/-- whether there is a cardinal -/
def okC (n : Int) : Bool := decide (-999999999999 ≤ n ∧ n ≤ 999999999999)
def okO (n : Int) : Bool := decide (1 ≤ n ∧ n ≤ 999999999999)
set_option maxHeartbeats 8000000 in
theorem rcard_any (n : Int) (hr : -9223372036854775808 ≤ n ∧ n ≤ 9223372036854775807) (w : World) : Calls Tryz.prog 27 #[.int .i64 n] w fun e w' => e = .returned (.tuple #[.string ⟨(crdF n).1.toArray⟩, .bool (okC n)]) ∧ Below w.heap.size w w' := by
  by_cases h1 : n < -999999999999
  · have c1 : crdF n = ([], 2) := if_neg (by omega)
    have c2 : okC n = false := decide_eq_false (by omega)
    have h1d : decide (n < -999999999999) = true := decide_eq_true h1
    rw [c1, c2]
    go_enter Tryz.func27, Tryz.ntmps27
    go_wp2
    go_ret2
    exact ⟨rfl, Below.refl _ _⟩
  · have h1d : decide (n < -999999999999) = false := decide_eq_false h1
    by_cases h2 : 999999999999 < n
    · have c1 : crdF n = ([], 2) := if_neg (by omega)
      have c2 : okC n = false := decide_eq_false (by omega)
      have h2d : decide (999999999999 < n) = true := decide_eq_true h2
      rw [c1, c2]
      go_enter Tryz.func27, Tryz.ntmps27
      go_wp2
      go_ret2
      exact ⟨rfl, Below.refl _ _⟩
    · have h2d : decide (999999999999 < n) = false := decide_eq_false h2
      have c2 : okC n = true := decide_eq_true (by omega)
      have c1 : crdF n = (joinW (if n < 0 then negW (cntW n.natAbs) else cntW n.toNat), 0) := if_pos (by omega)
      rw [c2, c1]
      by_cases h3 : n < 0
      · have h3d : decide (n < 0) = true := decide_eq_true h3
        obtain ⟨m, hm⟩ : ∃ m : Nat, n = -(m : Int) := ⟨n.natAbs, by omega⟩
        have e1 : n.natAbs = m := by omega
        have hk := Lib.hid (rnat_any m (by omega) w)
        have lx := cnt_len (show m < 1000000000000 by omega)
        rw [if_pos h3, e1, negW_join (cntW_ne m)]
        have hB := Lib.hid (bstr [109, 105, 110, 117, 115, 32] (joinW (cntW m)))
        have w1 : IntKind.i64.wrap (-n) = (m : Int) := by rw [IntWalk.i64_in _ (by omega)]; omega
        have w2 : -n = (m : Int) := by omega
        generalize joinW (cntW m) = X at *
        go_enter Tryz.func27, Tryz.ntmps27
        go_wp2_with fail
        refine hk.out.mono ?_
        rintro e w' ⟨rfl, hb⟩
        go_wp2
        go_ret2
        exact ⟨congrArg (fun z => Ending.returned (.tuple #[.string z, .bool true])) hB.out.symm, hb⟩
      · have h3d : decide (n < 0) = false := decide_eq_false h3
        obtain ⟨m, rfl⟩ : ∃ m : Nat, n = (m : Int) := ⟨n.toNat, by omega⟩
        have hk := Lib.hid (rnat_any m (by omega) w)
        rw [if_neg h3, Int.toNat_natCast]
        generalize joinW (cntW m) = X at *
        go_enter Tryz.func27, Tryz.ntmps27
        go_wp2_with fail
        refine hk.out.mono ?_
        rintro e w' ⟨rfl, hb⟩
        go_wp2
        go_ret2
        exact ⟨rfl, hb⟩
set_option maxHeartbeats 8000000 in
theorem rord_any (n : Int) (w : World) : Calls Tryz.prog 28 #[.int .i64 n] w fun e w' => e = .returned (.tuple #[.string ⟨(odlF n).1.toArray⟩, .bool (okO n)]) ∧ Below w.heap.size w w' := by
  by_cases h1 : n < 1
  · have c1 : odlF n = ([], 2) := if_neg (by omega)
    have c2 : okO n = false := decide_eq_false (by omega)
    have h1d : decide (n < 1) = true := decide_eq_true h1
    rw [c1, c2]
    go_enter Tryz.func28, Tryz.ntmps28
    go_wp2
    go_ret2
    exact ⟨rfl, Below.refl _ _⟩
  · have h1d : decide (n < 1) = false := decide_eq_false h1
    by_cases h2 : 999999999999 < n
    · have c1 : odlF n = ([], 2) := if_neg (by omega)
      have c2 : okO n = false := decide_eq_false (by omega)
      have h2d : decide (999999999999 < n) = true := decide_eq_true h2
      rw [c1, c2]
      go_enter Tryz.func28, Tryz.ntmps28
      go_wp2
      go_ret2
      exact ⟨rfl, Below.refl _ _⟩
    · have h2d : decide (999999999999 < n) = false := decide_eq_false h2
      have c2 : okO n = true := decide_eq_true (by omega)
      obtain ⟨k, rfl⟩ : ∃ k : Nat, n = (k : Int) := ⟨n.toNat, by omega⟩
      have hk9 : k < 1000000000000 := by omega
      have c1 : odlF (k : Int) = (joinW (sordW k), 0) := by
        unfold odlF
        rw [if_pos (by omega), Int.toNat_natCast]
      rw [c2, c1]
      have hnat := Lib.hid (rnat_any k hk9 w)
      have hlj := cnt_len hk9
      have hsp := Lib.hid (fun w9 => rsplit_any (joinW (cntW k)) (by omega) w9)
      rw [spl_cnt hk9] at hsp
      have hmem := cntW_mem hk9
      have hsw := Lib.hid (show sordW k = (cntW k).set ((cntW k).length - 1) (ordW ((cntW k).getD ((cntW k).length - 1) [])) from rfl)
      have hne := cntW_ne k
      have hll := cntW_len k
      generalize joinW (cntW k) = T at *
      generalize cntW k = Y at *
      obtain ⟨m, hm⟩ : ∃ m, Y.length = m + 1 := ⟨Y.length - 1, by have : Y.length ≠ 0 := (fun e => hne (List.length_eq_zero_iff.1 e)); omega⟩
      obtain ⟨x, hx⟩ : ∃ x, Y[m]? = some x := ⟨_, List.getElem?_eq_getElem (by omega)⟩
      have hxm := allW_ok x (hmem x (List.mem_of_getElem? hx))
      have hsw2 := Lib.hid (show sordW k = Y.set m (ordW x) by rw [hsw.out, hm, Nat.add_sub_cancel, List.getD_eq_getElem?_getD, hx]; rfl)
      have hwl : ∀ y ∈ Y.set m (ordW x), y.length ≤ 30 := fun y hy => by
        rcases List.mem_or_eq_of_mem_set hy with h9 | h9
        · have := (allW_ok y (hmem y h9)).2.1; omega
        · rw [h9]; exact hxm.2.2.2.2
      have hnth := Lib.hid (fun w9 => rnth_any x hxm.1 (by omega) w9)
      have hjn := Lib.hid (fun (A : Option Addr) (c : Nat) (w9 : World) (h9 : Ss w9 A (m + 1) c (Y.set m (ordW x))) => rjoin_any (Y.set m (ordW x)) A (m + 1) c w9 h9 (by rw [List.length_set]; omega) (fun y hy => by have := hwl y hy; omega))
      rw [hsw2.out]
      have hml := Lib.hid hm
      rw [hm] at hll
      clear hsw hne hwl hmem hxm
      generalize ordW x = X at *
      go_enter Tryz.func28, Tryz.ntmps28
      go_wp2_with fail
      refine hnat.out.mono ?_
      rintro e w1 ⟨rfl, hb1⟩
      go_wp2_with fail
      refine (hsp.out w1).mono ?_
      rintro e w2 ⟨V, rfl, hO, hb2⟩
      rw [hm] at hO
      rcases hO.2 with ⟨_, h⟩ | ⟨g, cap, cur, rfl, hg, hgc, hgl, hgm, _⟩
      · omega
      have hb := hb1.trans (hb2.mono hb1.size)
      have hv0 : w2.cell? ⟨g, m, none⟩ = some (.string ⟨x.toArray⟩) := by
        have h9 := hO.cells (g := g) rfl m (.string ⟨x.toArray⟩) (by simp [svs, hx])
        rw [add_new] at h9
        exact h9
      have hfz : w2.frozen? ⟨g, m, none⟩ = false := Blk.frozen (show Blk w2 g 9 cur from hgc) m
      have dm2 : (m : Int) + 1 - 1 = (m : Int) := by omega
      have hm9 : m ≤ 3000 := by omega
      have hlen : (Builtin.len_ #[32] 3 #[.slice (some ⟨g, 0, none⟩) (m + 1) cap]).run Tryz.prog w2 = .ok (.int .i64 ((m + 1 : Nat) : Int)) w2 := by go_simp
      have hgw : w.heap.size ≤ g := Nat.le_trans hb1.size hg
      clear hgc hx hm hb1 hb2
      go_wp2_with fail
      refine (hnth.out w2).mono ?_
      rintro e w3 ⟨rfl, rfl⟩
      go_wp2_with fail
      have hset := own_set hO (i := m) (by omega) (.string ⟨X.toArray⟩)
      have hb5 : Below w.heap.size w (w2.setCell ⟨g, m, none⟩ (.string ⟨X.toArray⟩)) := bel_grown2 hb (grown_set w2 g m (.string ⟨X.toArray⟩)) (fun k9 e => by injection e with e; omega)
      rw [show (svs Y).set m (.string ⟨X.toArray⟩) = svs (Y.set m X) by simp [svs, List.map_set]] at hset
      obtain ⟨A9, c9, hv9, hS9, _⟩ := Ss.of_own hset
      injection hv9 with a9 b9 d9
      subst a9
      subst d9
      generalize w2.setCell ⟨g, m, none⟩ (.string ⟨X.toArray⟩) = w5 at *
      refine (hjn.out _ _ w5 hS9).mono ?_
      rintro e w6 ⟨rfl, rfl⟩
      go_wp2
      go_ret2
      exact ⟨rfl, hb5⟩
end Go.Proofs.YtpdfjlbfhnapkaaGreatDoor

/- WrittenNumbers returns true. -/
namespace Go.Proofs.YtpdfjlbfhnapkaaGreatDoor
open Go.RowKit
set_option linter.unusedSimpArgs false
set_option linter.unusedVariables false
set_option maxRecDepth 100000

set_option maxHeartbeats 8000000 in
theorem numbers_law (n : Int) (w : World) (h1 : -9223372036854775808 ≤ n ∧ n ≤ 9223372036854775807) (hT : WT w) :
    Calls Tryz.prog 7 #[.int .i64 n] w fun e w' => e = .returned (.bool true) ∧ Below w.heap.size w w' := by
  have hkn := Lib.hid (fun (w9 : World) (h9 : WT w9) => known_any w9 h9)
  have k1 := Lib.hid (fun (w9 : World) (h9 : WT w9) => Cardinal_any n w9 h9)
  have k2 := Lib.hid (fun (w9 : World) (h9 : WT w9) => Ordinal_any n w9 h9)
  have k3 := Lib.hid (fun (w9 : World) => rcard_any n h1 w9)
  have k4 := Lib.hid (fun (w9 : World) => rord_any n w9)
  by_cases hc : -999999999999 ≤ n ∧ n ≤ 999999999999
  · by_cases ho : 1 ≤ n
    · obtain ⟨k, rfl⟩ : ∃ k : Nat, n = (k : Int) := ⟨n.toNat, by omega⟩
      have hne := card_ord (n := k) (by omega)
      have c1 : crdF (k : Int) = (joinW (cntW k), 0) := by
        unfold crdF
        rw [if_pos hc, if_neg (by omega), Int.toNat_natCast]
      have c2 : odlF (k : Int) = (joinW (sordW k), 0) := by
        unfold odlF
        rw [if_pos (by omega), Int.toNat_natCast]
      have c3 : okC (k : Int) = true := decide_eq_true hc
      have c4 : okO (k : Int) = true := decide_eq_true (by omega)
      rw [c1] at k1
      rw [c2] at k2
      rw [c1, c3] at k3
      rw [c2, c4] at k4
      clear c1 c2 c3 c4
      generalize joinW (cntW k) = X at *
      generalize joinW (sordW k) = Y at *
      have hb : (X == Y) = false := beq_eq_false_iff_ne.2 hne
      clear hne
      go_enter Tryz.func7, Tryz.ntmps7
      go_wp2_with fail
      refine (k1.out w hT).mono ?_
      rintro e x1 ⟨rfl, b1⟩
      go_wp2_with fail
      refine (k2.out x1 (hT.below b1)).mono ?_
      rintro e x2 ⟨rfl, hx2⟩
      have b2 := b1.trans (hx2.mono b1.size)
      go_wp2_with fail
      refine (k3.out x2).mono ?_
      rintro e x3 ⟨rfl, hx3⟩
      have b3 := b2.trans (hx3.mono b2.size)
      go_wp2_with fail
      refine (k4.out x3).mono ?_
      rintro e x4 ⟨rfl, hx4⟩
      have b4 := b3.trans (hx4.mono b3.size)
      go_wp2_with fail
      refine (hkn.out x4 (hT.below b4)).mono ?_
      rintro e x5 ⟨rfl, hx5⟩
      go_wp2
      go_ret
      exact ⟨rfl, b4.trans (hx5.mono b4.size)⟩
    · have c2 : odlF n = ([], 2) := if_neg (by omega)
      have c1 : (crdF n).2 = 0 := by unfold crdF; rw [if_pos hc]
      have c3 : okC n = true := decide_eq_true hc
      have c4 : okO n = false := decide_eq_false (by omega)
      rw [c1] at k1
      rw [c2] at k2
      rw [c3] at k3
      rw [c2, c4] at k4
      clear c1 c2 c3 c4
      generalize (crdF n).1 = X at *
      go_enter Tryz.func7, Tryz.ntmps7
      go_wp2_with fail
      refine (k1.out w hT).mono ?_
      rintro e x1 ⟨rfl, b1⟩
      go_wp2_with fail
      refine (k2.out x1 (hT.below b1)).mono ?_
      rintro e x2 ⟨rfl, hx2⟩
      have b2 := b1.trans (hx2.mono b1.size)
      go_wp2_with fail
      refine (k3.out x2).mono ?_
      rintro e x3 ⟨rfl, hx3⟩
      have b3 := b2.trans (hx3.mono b2.size)
      go_wp2_with fail
      refine (k4.out x3).mono ?_
      rintro e x4 ⟨rfl, hx4⟩
      have b4 := b3.trans (hx4.mono b3.size)
      go_wp2_with fail
      refine (hkn.out x4 (hT.below b4)).mono ?_
      rintro e x5 ⟨rfl, hx5⟩
      go_wp2
      go_ret
      exact ⟨rfl, b4.trans (hx5.mono b4.size)⟩
  · have c1 : crdF n = ([], 2) := if_neg hc
    have c2 : odlF n = ([], 2) := if_neg (by omega)
    have c3 : okC n = false := decide_eq_false hc
    have c4 : okO n = false := decide_eq_false (by omega)
    rw [c1] at k1
    rw [c2] at k2
    rw [c1, c3] at k3
    rw [c2, c4] at k4
    clear c1 c2 c3 c4
    go_enter Tryz.func7, Tryz.ntmps7
    go_wp2_with fail
    refine (k1.out w hT).mono ?_
    rintro e x1 ⟨rfl, b1⟩
    go_wp2_with fail
    refine (k2.out x1 (hT.below b1)).mono ?_
    rintro e x2 ⟨rfl, hx2⟩
    have b2 := b1.trans (hx2.mono b1.size)
    go_wp2_with fail
    refine (k3.out x2).mono ?_
    rintro e x3 ⟨rfl, hx3⟩
    have b3 := b2.trans (hx3.mono b2.size)
    go_wp2_with fail
    refine (k4.out x3).mono ?_
    rintro e x4 ⟨rfl, hx4⟩
    have b4 := b3.trans (hx4.mono b3.size)
    go_wp2_with fail
    refine (hkn.out x4 (hT.below b4)).mono ?_
    rintro e x5 ⟨rfl, hx5⟩
    go_wp2
    go_ret
    exact ⟨rfl, b4.trans (hx5.mono b4.size)⟩
end Go.Proofs.YtpdfjlbfhnapkaaGreatDoor
