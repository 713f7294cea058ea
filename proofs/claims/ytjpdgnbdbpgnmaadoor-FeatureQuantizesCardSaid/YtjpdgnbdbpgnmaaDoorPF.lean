import Derived.Test.YtjpdgnbdbpgnmaaDoorPE
namespace Go.Proofs.YtjpdgnbdbpgnmaaDoor.Fr
open Go.RowKit Num

theorem modulo_val (HD : Hid DivSaid) (A : Option Addr) (n c y : Nat) (xs : List Nat) (w : World) (h : Dg .u64 w A n c xs) (hn : n ≤ 2000000) (hy : 1 ≤ y) (hyb : y ≤ 18446744073709551615) (r : Nat) (hr : Hid (r = vl (bs .u64) xs % y)) :
    Calls Tryd.prog 120 #[.slice A n c, .int .u64 (y : Int)] w fun e w' => e = .returned (.int .u64 (r : Int)) ∧ ∃ m, w' = w.drewN m :=
  (modulo_any HD A n c y xs w h hn hy hyb).mono fun e w' ⟨r', m, he, h1, _, h2⟩ => ⟨by rw [he, h1.out, hr.out], m, h2⟩

theorem quiet_more {P : Program} {f : FuncId} {args : Array Value} {w : World} {a n : Nat} {v : Value}
    (h : Calls P f args (w.drewN (a + n)) fun e w' => e = .returned v ∧ ∃ m, w' = (w.drewN (a + n)).drewN m) : Calls P f args (w.drewN (a + n)) fun e w'' => e = .returned v ∧ ∃ m, w'' = w.drewN (a + m) :=
  h.mono fun _ _ ⟨he, m, hm⟩ => ⟨he, n + m, by rw [hm, World.drewN_drewN, Nat.add_assoc]⟩

set_option maxHeartbeats 1600000 in
set_option maxRecDepth 100000 in
theorem gcd64_ge (HD : Hid DivSaid) (A A' : Option Addr) (n c n' c' : Nat) (xs ys : List Nat) (w : World) (h : Dg .u64 w A n c xs) (h' : Dg .u64 w A' n' c' ys) (hN : Nrm xs) (hN' : Nrm ys) (X Y : Nat) (hX : Hid (vl (bs .u64) xs = X)) (hY : Hid (vl (bs .u64) ys = Y))
    (hn : n ≤ 2000000) (hle : Y ≤ X) (hs : n' ≤ 1) :
    Calls Tryd.prog 107 #[.slice A n c, .slice A' n' c'] w (RetN .u64 w (X.gcd Y) (max n 1)) := by
  have ho := ord_nn hle
  clear hle
  rcases (show n' = 0 ∨ n' = 1 by omega) with hn0 | hn0
  · have hG : Hid (X.gcd Y = X) := by
      have : Y = 0 := by rw [← hY.out, List.eq_nil_of_length_eq_zero (show ys.length = 0 by rw [h'.len]; exact hn0)]; rfl
      show _ = _; rw [this, Nat.gcd_zero_right]
    subst hn0
    go_enter Tryd.func107, Tryd.ntmps107
    go_wp2_with fail
    refine (cmp64_any _ _ _ _ _ _ _ _ _ h h' hN hN' X Y hX hY).mono ?_
    rintro e w2 ⟨m, rfl, rfl⟩
    go_wp2
    go_ret
    exact ⟨_, _, _, _, rfl, h.drewN m, hN, show _ = _ by rw [hX.out, hG.out], by omega, bel_drewN (Below.refl _ _) m⟩
  · subst hn0
    obtain ⟨ad', y, rfl, hcy, hy⟩ := h'.at_ (j := 0) (by omega)
    have hyv := nrm_one64 h'.len hy.out.1
    rw [hY.out] at hyv
    have hyb : y ≤ 18446744073709551615 := Nat.le_of_lt_succ hy.out.2
    have hy1 : 1 ≤ y := nrm_top hN' h'.len hy.out.1
    have Hyv := Lib.hid hyv
    clear hyv hs
    have hcy : w.cell? ad' = some (.int .u64 y) := hcy
    obtain ⟨r, hr⟩ : ∃ r, r = X % y := ⟨_, rfl⟩
    have hry : r < y := by rw [hr]; exact Nat.mod_lt _ hy1
    have Hr : Hid (r = vl (bs .u64) xs % y) := by rw [hX.out]; exact hr
    have HG : Hid (X.gcd Y = y.gcd r) := by
      show _ = _
      rw [Hyv.out, hr, Nat.gcd_comm X y, Nat.gcd_rec, Nat.gcd_comm]
    clear hr
    go_enter Tryd.func107, Tryd.ntmps107
    go_wp2_with fail
    refine (cmp64_any _ _ _ _ _ _ _ _ _ h h' hN hN' X Y hX hY).mono ?_
    rintro e w2 ⟨m, rfl, rfl⟩
    have hcy2 : (w.drewN m).cell? ad' = some (.int .u64 y) := hcy
    go_wp2
    go_quiet ((go_at_call 120; exact quiet_more (modulo_val HD _ _ _ _ _ _ (h.drewN _) hn hy1 hyb r Hr)))
    go_wp2
    go_loopw [5, 6] (fun xv yv wr => ∃ a b m : Nat, xv = .int .u64 a ∧ yv = .int .u64 b ∧ 1 ≤ a ∧ a ≤ 18446744073709551615 ∧ b ≤ 18446744073709551615 ∧ Hid (X.gcd Y = a.gcd b) ∧ wr = w.drewN m) (fun _ yv _ => (intOf yv).toNat)
    case atStart => exact ⟨y, r, _, rfl, rfl, hy1, hyb, by omega, HG.out, by first | rfl | exact World.drewN_drewN _ _ _⟩
    case round =>
      obtain ⟨a, b, m3, rfl, rfl, ha1, hab, hbb, hG, rfl⟩ := hrel
      by_cases hb0 : 0 < b
      · have hG2 := Lib.hid (show X.gcd Y = b.gcd (a % b) by rw [hG.out, Nat.gcd_comm a b, Nat.gcd_rec, Nat.gcd_comm])
        have hmod : ((a : Int)).tmod (b : Int) = (a : Int) % (b : Int) := Int.tmod_eq_emod_of_nonneg (by omega)
        have hlt : (a : Int) % (b : Int) < (b : Int) := Int.emod_lt_of_pos _ (by omega)
        have hnn : 0 ≤ (a : Int) % (b : Int) := Int.emod_nonneg _ (by omega)
        have hcast := Lib.hid (show (a : Int) % (b : Int) = ((a % b : Nat) : Int) by rw [Int.natCast_emod])
        have hltn : a % b < b := Nat.mod_lt _ hb0
        go_wp2
        go_quiet (fail)
        go_wp2
        go_roundw
        case rel => exact ⟨b, a % b, _, rfl, by rw [hcast.out], hb0, hbb, by omega, hG2.out, by first | rfl | exact World.drewN_drewN _ _ _⟩
        case measure => simp [intOf]; omega
      · obtain rfl : b = 0 := by omega
        have hD := Dg.lit1_64 (w.drewN m3) 107 a hab
        go_wp2
        go_ret
        exact ⟨_, _, _, _, rfl, hD, by intro _; simp; omega, show _ = _ by rw [hG.out, Nat.gcd_zero_right]; simp [vl], by omega, (bel_drewN (Below.refl _ _) m3).alloc (Nat.le_refl _) _⟩
set_option maxHeartbeats 1600000 in
set_option maxRecDepth 100000 in
theorem gcd64_lt (HD : Hid DivSaid) (A A' : Option Addr) (n c n' c' : Nat) (xs ys : List Nat) (w : World) (h : Dg .u64 w A n c xs) (h' : Dg .u64 w A' n' c' ys) (hN : Nrm xs) (hN' : Nrm ys) (X Y : Nat) (hX : Hid (vl (bs .u64) xs = X)) (hY : Hid (vl (bs .u64) ys = Y))
    (hn : n' ≤ 2000000) (hle : X < Y) (hs : n ≤ 1) :
    Calls Tryd.prog 107 #[.slice A n c, .slice A' n' c'] w (RetN .u64 w (Y.gcd X) (max n' 1)) := by
  have ho := ord_neg hle
  clear hle
  rcases (show n = 0 ∨ n = 1 by omega) with hn0 | hn0
  · have hG : Hid (Y.gcd X = Y) := by
      have : X = 0 := by rw [← hX.out, List.eq_nil_of_length_eq_zero (show xs.length = 0 by rw [h.len]; exact hn0)]; rfl
      show _ = _; rw [this, Nat.gcd_zero_right]
    subst hn0
    go_enter Tryd.func107, Tryd.ntmps107
    go_wp2_with fail
    refine (cmp64_any _ _ _ _ _ _ _ _ _ h h' hN hN' X Y hX hY).mono ?_
    rintro e w2 ⟨m, rfl, rfl⟩
    go_wp2
    go_ret
    exact ⟨_, _, _, _, rfl, h'.drewN m, hN', show _ = _ by rw [hY.out, hG.out], by omega, bel_drewN (Below.refl _ _) m⟩
  · subst hn0
    obtain ⟨ad', y, rfl, hcy, hy⟩ := h.at_ (j := 0) (by omega)
    have hyv := nrm_one64 h.len hy.out.1
    rw [hX.out] at hyv
    have hyb : y ≤ 18446744073709551615 := Nat.le_of_lt_succ hy.out.2
    have hy1 : 1 ≤ y := nrm_top hN h.len hy.out.1
    have Hyv := Lib.hid hyv
    clear hyv hs
    have hcy : w.cell? ad' = some (.int .u64 y) := hcy
    obtain ⟨r, hr⟩ : ∃ r, r = Y % y := ⟨_, rfl⟩
    have hry : r < y := by rw [hr]; exact Nat.mod_lt _ hy1
    have Hr : Hid (r = vl (bs .u64) ys % y) := by rw [hY.out]; exact hr
    have HG : Hid (Y.gcd X = y.gcd r) := by
      show _ = _
      rw [Hyv.out, hr, Nat.gcd_comm Y y, Nat.gcd_rec, Nat.gcd_comm]
    clear hr
    go_enter Tryd.func107, Tryd.ntmps107
    go_wp2_with fail
    refine (cmp64_any _ _ _ _ _ _ _ _ _ h h' hN hN' X Y hX hY).mono ?_
    rintro e w2 ⟨m, rfl, rfl⟩
    have hcy2 : (w.drewN m).cell? ad' = some (.int .u64 y) := hcy
    go_wp2
    go_quiet ((go_at_call 120; exact quiet_more (modulo_val HD _ _ _ _ _ _ (h'.drewN _) hn hy1 hyb r Hr)))
    go_wp2
    go_loopw [5, 6] (fun xv yv wr => ∃ a b m : Nat, xv = .int .u64 a ∧ yv = .int .u64 b ∧ 1 ≤ a ∧ a ≤ 18446744073709551615 ∧ b ≤ 18446744073709551615 ∧ Hid (Y.gcd X = a.gcd b) ∧ wr = w.drewN m) (fun _ yv _ => (intOf yv).toNat)
    case atStart => exact ⟨y, r, _, rfl, rfl, hy1, hyb, by omega, HG.out, by first | rfl | exact World.drewN_drewN _ _ _⟩
    case round =>
      obtain ⟨a, b, m3, rfl, rfl, ha1, hab, hbb, hG, rfl⟩ := hrel
      by_cases hb0 : 0 < b
      · have hG2 := Lib.hid (show Y.gcd X = b.gcd (a % b) by rw [hG.out, Nat.gcd_comm a b, Nat.gcd_rec, Nat.gcd_comm])
        have hmod : ((a : Int)).tmod (b : Int) = (a : Int) % (b : Int) := Int.tmod_eq_emod_of_nonneg (by omega)
        have hlt : (a : Int) % (b : Int) < (b : Int) := Int.emod_lt_of_pos _ (by omega)
        have hnn : 0 ≤ (a : Int) % (b : Int) := Int.emod_nonneg _ (by omega)
        have hcast := Lib.hid (show (a : Int) % (b : Int) = ((a % b : Nat) : Int) by rw [Int.natCast_emod])
        have hltn : a % b < b := Nat.mod_lt _ hb0
        go_wp2
        go_quiet (fail)
        go_wp2
        go_roundw
        case rel => exact ⟨b, a % b, _, rfl, by rw [hcast.out], hb0, hbb, by omega, hG2.out, by first | rfl | exact World.drewN_drewN _ _ _⟩
        case measure => simp [intOf]; omega
      · obtain rfl : b = 0 := by omega
        have hD := Dg.lit1_64 (w.drewN m3) 107 a hab
        go_wp2
        go_ret
        exact ⟨_, _, _, _, rfl, hD, by intro _; simp; omega, show _ = _ by rw [hG.out, Nat.gcd_zero_right]; simp [vl], by omega, (bel_drewN (Below.refl _ _) m3).alloc (Nat.le_refl _) _⟩
theorem gcd64_small (HD : Hid DivSaid) (A A' : Option Addr) (n c n' c' : Nat) (xs ys : List Nat) (w : World) (h : Dg .u64 w A n c xs) (h' : Dg .u64 w A' n' c' ys) (hN : Nrm xs) (hN' : Nrm ys) (X Y : Nat) (hX : Hid (vl (bs .u64) xs = X)) (hY : Hid (vl (bs .u64) ys = Y))
    (hn : n ≤ 2000000) (hn' : n' ≤ 2000000) (hs : n ≤ 1 ∨ n' ≤ 1) :
    Calls Tryd.prog 107 #[.slice A n c, .slice A' n' c'] w (RetN .u64 w (X.gcd Y) (max (max n n') 1)) := by
  have l1 : X ≤ Y → n ≤ n' := fun hl => by
    have := len_le_of one_lt_bs64 h'.ok hN (by rw [hX.out, hY.out]; exact hl)
    rw [h.len, h'.len] at this; exact this
  have l2 : Y ≤ X → n' ≤ n := fun hl => by
    have := len_le_of one_lt_bs64 h.ok hN' (by rw [hX.out, hY.out]; exact hl)
    rw [h.len, h'.len] at this; exact this
  by_cases hle : Y ≤ X
  · have := l2 hle
    refine (gcd64_ge HD A A' n c n' c' xs ys w h h' hN hN' X Y hX hY hn hle (by omega)).mono fun e w' ⟨A1, m, c1, us, he, hD, hn1, hv, hm, hb⟩ => ?_
    exact ⟨A1, m, c1, us, he, hD, hn1, hv, by omega, hb⟩
  · have := l1 (by omega)
    refine (gcd64_lt HD A A' n c n' c' xs ys w h h' hN hN' X Y hX hY hn' (by omega) (by omega)).mono fun e w' ⟨A1, m, c1, us, he, hD, hn1, hv, hm, hb⟩ => ?_
    exact ⟨A1, m, c1, us, he, hD, hn1, by rw [Nat.gcd_comm]; exact hv, by omega, hb⟩
end Go.Proofs.YtjpdgnbdbpgnmaaDoor.Fr
