import Derived.Test.YtbgihlfblmilmaaGreatDoorP7
namespace Go.Proofs.YtbgihlfblmilmaaGreatDoor.Fr
open Go.RowKit Num

set_option maxHeartbeats 1600000 in
theorem modulo_any (HD : Hid DivSaid) (A : Option Addr) (n c y : Nat) (xs : List Nat) (w : World) (h : Dg .u64 w A n c xs) (hn : n ≤ 2000000) (hy : 1 ≤ y) (hyb : y ≤ 18446744073709551615) :
    Calls Tryz.prog 122 #[.slice A n c, .int .u64 (y : Int)] w fun e w' => ∃ (r m : Nat), e = .returned (.int .u64 (r : Int)) ∧ Hid (r = vl (bs .u64) xs % y) ∧ r < y ∧ w' = w.drewN m := by
  have hl := Lib.hid h.len
  have hcap := h.cap
  have htop := h.top
  go_enter Tryz.func122, Tryz.ntmps122
  go_wp2
  go_loopw [5, 6] (fun rv iv wr => ∃ k r m : Nat, iv = .int .i64 ((k : Int) - 1) ∧ rv = .int .u64 r ∧ k ≤ n ∧ Hid (r = vl (bs .u64) (xs.drop k) % y) ∧ r < y ∧ wr = w.drewN m) (fun _ iv _ => (intOf iv + 1).toNat)
  case atStart =>
    have e : xs.drop n = [] := List.drop_eq_nil_of_le (by have := hl.out; omega)
    exact ⟨n, 0, 0, rfl, rfl, Nat.le_refl _, show _ = _ by rw [e]; simp [vl], by omega, rfl⟩
  case round =>
    obtain ⟨k, r, m, hi, rfl, hkb, hr, hry, rfl⟩ := hrel
    rcases idx_cases hi with ⟨rfl, rfl⟩ | ⟨j, rfl, rfl⟩
    · clear hi
      go_wp2
      go_ret
      exact ⟨r, m, rfl, hr, hry, rfl⟩
    · clear hi
      obtain ⟨ad, x, rfl, hcx, hx⟩ := h.at_ (j := j) (by omega)
      have hcx' : (w.drewN m).cell? (ad.add j) = some (.int .u64 x) := hcx
      have hxb : x ≤ 18446744073709551615 := Nat.le_of_lt_succ hx.out.2
      have HS := Lib.hid (show (r * bs .u64 + x) % y = vl (bs .u64) (xs.drop j) % y by
        rw [vl_drop_pred (b := bs .u64) (by rw [hl.out]; omega : j < xs.length) hx.out.1]
        exact (div1_step_b (b := bs .u64) (x := x) hy hr.out).2.symm)
      go_wp2_with fail
      refine (HD.out r x y _ hry hxb hyb).mono ?_
      rintro e w2 ⟨m2, rfl, rfl⟩
      have hrm : (r * bs .u64 + x) % y < y := Nat.mod_lt _ hy
      generalize (r * bs .u64 + x) / y = qd at *
      generalize (r * bs .u64 + x) % y = r2 at *
      go_wp2
      go_roundw
      case rel => exact ⟨j, r2, _, rfl, rfl, by omega, HS.out, hrm, rfl⟩
      case measure => simp [intOf]

/-- slices.Clone: new memory with the same digits -/
theorem clone_any (A : Option Addr) (n c : Nat) (xs : List Nat) (w : World) (h : Dg .u64 w A n c xs) (hn : n ≤ 2000000) (hp : 0 < n) :
    Calls Tryz.prog 121 #[.slice A n c] w fun e w' => ∃ g ca, e = .returned (.slice (some ⟨g, 0, none⟩) n ca) ∧ Mk w' g 82 .u64 xs ∧ n ≤ ca ∧ ca ≤ 9223372036854775807 ∧ w.heap.size ≤ g ∧ Below w.heap.size w w' := by
  obtain ⟨ad, rfl, _⟩ := h.cell hp
  obtain ⟨i0, hi, hz0, hz1, hz2⟩ := info_parts info_u64
  have hnil := fun w => Lib.run_eql_slice_nil (P := Tryz.prog) w 65 82 (some ad) n c 0 0 Tryz.underlying65
  go_enter Tryz.func121, Tryz.ntmps121
  have h1 := h.alloc (.cells #[] 82)
  have hnews := Lib.hid (h1.news hp)
  have hl1 := Lib.hid h.len
  go_wp2_with (at_builtin; refine wpList_append_own _ rfl _ _ 65 rfl w.heap.size 82 i0 (.int .u64 0) 1 8 Tryz.underlying65 hi hz0 hz1 hz2 rfl (by decide) _ 0 [] rfl (World.ownsRow_lit w #[] 0 (Nat.le_refl _) (by decide) rfl) ad n c (dcs .u64 xs) rfl ?c1 hnews.out (oneCell_dcs _ _) ?c3 ?c4 ?c5 ?_)
  case c1 => rw [dcs_len, hl1.out]; simp
  case c3 => unfold maxLen; omega
  case c4 => omega
  case c5 => simp
  intro v1 w1 hown hg _
  have hb := ((Below.refl w.heap.size w).alloc (Nat.le_refl _) (.cells #[] 82)).grown hg (by simp) (fun k hk => by simp [Value.ownBlock] at hk; omega)
  obtain ⟨_, h2⟩ := hown
  have h3 : ∃ g ca, v1 = .slice (some ⟨g, 0, none⟩) n ca ∧ Mk w1 g 82 .u64 xs ∧ n ≤ ca ∧ ca ≤ 9223372036854775807 ∧ w.heap.size ≤ g := by
    rcases h2 with ⟨_, h0⟩ | ⟨g, cap, cur, rfl, h3, h4, h5, h6, h7, h8⟩
    · omega
    · exact ⟨g, cap, by simp, ⟨cur, h4, by rw [hl1.out]; simpa using h8⟩, by omega, h6, h3⟩
  obtain ⟨g, ca, rfl, hM, ha, hc2, hge⟩ := h3
  go_wp2
  go_ret
  exact ⟨g, ca, rfl, hM, ha, hc2, hge, hb⟩
end Go.Proofs.YtbgihlfblmilmaaGreatDoor.Fr

namespace Go.Proofs.YtbgihlfblmilmaaGreatDoor.Fr
open Go.RowKit Num

def RetDiv64 (w : World) (x y L : Nat) (e : Ending) (w' : World) : Prop :=
  ∃ v v', e = .returned (.tuple #[v, v']) ∧ NV .u64 w' v (x / y) L ∧ NV .u64 w' v' (x % y) L ∧ Below w.heap.size w w' ∧ Hid (∀ A m c, v = .slice A m c → ∀ ad, A = some ad → w.heap.size ≤ ad.block)

theorem ord_neg {x y : Nat} (h : x < y) : (ord x y : Int) < 0 := by rw [ord_lt h]; decide
theorem ord_nn {x y : Nat} (h : y ≤ x) : ¬ (ord x y : Int) < 0 := by
  have := ord_nonneg.2 h; omega

set_option maxHeartbeats 1600000 in
set_option maxRecDepth 100000 in
theorem divide_small (HD : Hid DivSaid) (A A' : Option Addr) (n c n' c' : Nat) (xs ys : List Nat) (w : World) (h : Dg .u64 w A n c xs) (h' : Dg .u64 w A' n' c' ys) (hN : Nrm xs) (hN' : Nrm ys) (X Y : Nat) (hX : Hid (vl (bs .u64) xs = X)) (hY : Hid (vl (bs .u64) ys = Y))
    (hn : n ≤ 2000000) (hs : X < Y ∨ n' = 1) :
    Calls Tryz.prog 115 #[.slice A n c, .slice A' n' c'] w (RetDiv64 w X Y (n + 1)) := by
  by_cases hlt : X < Y
  · have ho := ord_neg hlt
    have Hd := Lib.hid (show X / Y = 0 ∧ X % Y = X from ⟨Nat.div_eq_of_lt hlt, Nat.mod_eq_of_lt hlt⟩)
    clear hs hlt
    go_enter Tryz.func115, Tryz.ntmps115
    go_wp2_with fail
    refine (cmp64_any _ _ _ _ _ _ _ _ _ h h' hN hN' X Y hX hY).mono ?_
    rintro e w2 ⟨m, rfl, rfl⟩
    go_wp2
    go_ret2
    exact ⟨_, _, rfl, by rw [Hd.out.1]; exact NV.mk (Dg.nil _ _) Nrm.nil rfl (Nat.zero_le _), by rw [Hd.out.2]; exact NV.mk (h.drewN m) hN hX (by omega), bel_drewN (Below.refl _ _) m, fun A m c he ad ha => by injection he with h1; rw [← h1] at ha; cases ha⟩
  · obtain rfl : n' = 1 := by omega
    have ho := ord_nn (Nat.le_of_not_lt hlt)
    obtain ⟨ad', y, rfl, hcy, hy⟩ := h'.at_ (j := 0) (by omega)
    have hyv := nrm_one64 h'.len hy.out.1
    rw [hY.out] at hyv
    have hyb : y ≤ 18446744073709551615 := Nat.le_of_lt_succ hy.out.2
    have hy1 : 1 ≤ y := by
      have := nrm_top hN' h'.len hy.out.1
      omega
    have hp : 0 < n := by
      have := nz_len (b := bs .u64) (xs := xs) (by rw [hX.out]; omega)
      rw [h.len] at this; exact this
    have Hyv := Lib.hid hyv
    clear hyv hs hlt
    have hcy : w.cell? ad' = some (.int .u64 y) := hcy
    have hbY := World.block_lt_of_cell? _ _ hcy
    go_enter Tryz.func115, Tryz.ntmps115
    go_wp2_with fail
    refine (cmp64_any _ _ _ _ _ _ _ _ _ h h' hN hN' X Y hX hY).mono ?_
    rintro e w2 ⟨m, rfl, rfl⟩
    go_wp2_with fail
    refine (clone_any _ _ _ _ _ (h.drewN m) hn hp).mono ?_
    rintro e w3 ⟨g, ca, rfl, hM, hca, hca2, hge, hb3⟩
    have hw3 := (bel_drewN (Below.refl w.heap.size w) m).trans hb3
    have hcy3 : w3.cell? ad' = some (.int .u64 y) := (hw3.cell hbY).trans hcy
    go_wp2_with fail
    refine (shrink_any HD g n ca y xs _ hM h.ok h.len hn hy1 hyb).mono ?_
    rintro e w4 ⟨r, cur, rfl, hr, hry, hM4, hok4, hl4, hv4, hon⟩
    have hw4 := hw3.trans (hon.below (show w.heap.size ≤ g from hge))
    have hDq : Dg .u64 w4 (some ⟨g, 0, none⟩) n ca cur := ⟨hl4.out, hca, hca2, hok4, (hM4.dg64 hl4.out (by omega) hok4).cell⟩
    have hDr := Dg.lit1_64 w4 82 r (by omega)
    have hDq2 := hDq.alloc (.cells #[.int .u64 (r : Int)] 82)
    go_wp2_with fail
    refine (trim64_any _ _ _ _ _ hDq2).mono ?_
    rintro e w' ⟨rfl, rfl⟩
    go_wp2_with fail
    refine (trim64_any _ _ _ _ _ hDr).mono ?_
    rintro e w' ⟨rfl, rfl⟩
    go_wp2
    go_ret2
    exact ⟨_, _, rfl, NV.mk hDq2.tr (nrm_tr _) (show _ = _ by rw [vl_tr, hv4.out, hX.out, Hyv.out]) (by have := len_tl hl4.out; omega), NV.mk hDr.tr (nrm_tr _) (show _ = _ by rw [vl_tr]; simp only [vl, Nat.mul_zero, Nat.add_zero]; rw [hr.out, hX.out, Hyv.out]) (Nat.le_trans (tl_le _) (by simp)), hw4.alloc hw4.size _, fun A m c he ad ha => by injection he with h1; rw [← h1] at ha; injection ha with ha; subst ha; exact hge⟩
end Go.Proofs.YtbgihlfblmilmaaGreatDoor.Fr

namespace Go.Proofs.YtbgihlfblmilmaaGreatDoor.Fr
open Go.RowKit Num

theorem modulo_val (HD : Hid DivSaid) (A : Option Addr) (n c y : Nat) (xs : List Nat) (w : World) (h : Dg .u64 w A n c xs) (hn : n ≤ 2000000) (hy : 1 ≤ y) (hyb : y ≤ 18446744073709551615) (r : Nat) (hr : Hid (r = vl (bs .u64) xs % y)) :
    Calls Tryz.prog 122 #[.slice A n c, .int .u64 (y : Int)] w fun e w' => e = .returned (.int .u64 (r : Int)) ∧ ∃ m, w' = w.drewN m :=
  (modulo_any HD A n c y xs w h hn hy hyb).mono fun e w' ⟨r', m, he, h1, _, h2⟩ => ⟨by rw [he, h1.out, hr.out], m, h2⟩

theorem quiet_more {P : Program} {f : FuncId} {args : Array Value} {w : World} {a n : Nat} {v : Value}
    (h : Calls P f args (w.drewN (a + n)) fun e w' => e = .returned v ∧ ∃ m, w' = (w.drewN (a + n)).drewN m) : Calls P f args (w.drewN (a + n)) fun e w'' => e = .returned v ∧ ∃ m, w'' = w.drewN (a + m) :=
  h.mono fun _ _ ⟨he, m, hm⟩ => ⟨he, n + m, by rw [hm, World.drewN_drewN, Nat.add_assoc]⟩

set_option maxHeartbeats 1600000 in
set_option maxRecDepth 100000 in
theorem gcd64_ge (HD : Hid DivSaid) (A A' : Option Addr) (n c n' c' : Nat) (xs ys : List Nat) (w : World) (h : Dg .u64 w A n c xs) (h' : Dg .u64 w A' n' c' ys) (hN : Nrm xs) (hN' : Nrm ys) (X Y : Nat) (hX : Hid (vl (bs .u64) xs = X)) (hY : Hid (vl (bs .u64) ys = Y))
    (hn : n ≤ 2000000) (hle : Y ≤ X) (hs : n' ≤ 1) :
    Calls Tryz.prog 75 #[.slice A n c, .slice A' n' c'] w (RetN .u64 w (X.gcd Y) (max n 1)) := by
  have ho := ord_nn hle
  clear hle
  rcases (show n' = 0 ∨ n' = 1 by omega) with hn0 | hn0
  · have hG : Hid (X.gcd Y = X) := by
      have : Y = 0 := by rw [← hY.out, List.eq_nil_of_length_eq_zero (show ys.length = 0 by rw [h'.len]; exact hn0)]; rfl
      show _ = _; rw [this, Nat.gcd_zero_right]
    subst hn0
    go_enter Tryz.func75, Tryz.ntmps75
    go_wp2_with fail
    refine (cmp64_any _ _ _ _ _ _ _ _ _ h h' hN hN' X Y hX hY).mono ?_
    rintro e w2 ⟨m, rfl, rfl⟩
    go_wp2
    go_ret
    exact ⟨_, _, _, _, rfl, h.drewN m, hN, show _ = _ by rw [hX.out, hG.out], by omega, bel_drewN (Below.refl _ _) m⟩
  · subst hn0
    obtain ⟨ad', y, rfl, hcy, hy⟩ := h'.at_ (j := 0) (by omega)
    have hyv := nrm_one64 h'.len hy.out.1
    rw [hY.out] at hyv
    have hyb : y ≤ 18446744073709551615 := Nat.le_of_lt_succ hy.out.2
    have hy1 : 1 ≤ y := nrm_top hN' h'.len hy.out.1
    have Hyv := Lib.hid hyv
    clear hyv hs
    have hcy : w.cell? ad' = some (.int .u64 y) := hcy
    obtain ⟨r, hr⟩ : ∃ r, r = X % y := ⟨_, rfl⟩
    have hry : r < y := by rw [hr]; exact Nat.mod_lt _ hy1
    have Hr : Hid (r = vl (bs .u64) xs % y) := by rw [hX.out]; exact hr
    have HG : Hid (X.gcd Y = y.gcd r) := by
      show _ = _
      rw [Hyv.out, hr, Nat.gcd_comm X y, Nat.gcd_rec, Nat.gcd_comm]
    clear hr
    go_enter Tryz.func75, Tryz.ntmps75
    go_wp2_with fail
    refine (cmp64_any _ _ _ _ _ _ _ _ _ h h' hN hN' X Y hX hY).mono ?_
    rintro e w2 ⟨m, rfl, rfl⟩
    have hcy2 : (w.drewN m).cell? ad' = some (.int .u64 y) := hcy
    go_wp2
    go_quiet ((go_at_call 122; exact quiet_more (modulo_val HD _ _ _ _ _ _ (h.drewN _) hn hy1 hyb r Hr)))
    go_wp2
    go_loopw [5, 6] (fun xv yv wr => ∃ a b m : Nat, xv = .int .u64 a ∧ yv = .int .u64 b ∧ 1 ≤ a ∧ a ≤ 18446744073709551615 ∧ b ≤ 18446744073709551615 ∧ Hid (X.gcd Y = a.gcd b) ∧ wr = w.drewN m) (fun _ yv _ => (intOf yv).toNat)
    case atStart => exact ⟨y, r, _, rfl, rfl, hy1, hyb, by omega, HG.out, by first | rfl | exact World.drewN_drewN _ _ _⟩
    case round =>
      obtain ⟨a, b, m3, rfl, rfl, ha1, hab, hbb, hG, rfl⟩ := hrel
      by_cases hb0 : 0 < b
      · have hG2 := Lib.hid (show X.gcd Y = b.gcd (a % b) by rw [hG.out, Nat.gcd_comm a b, Nat.gcd_rec, Nat.gcd_comm])
        have hmod : ((a : Int)).tmod (b : Int) = (a : Int) % (b : Int) := Int.tmod_eq_emod_of_nonneg (by omega)
        have hlt : (a : Int) % (b : Int) < (b : Int) := Int.emod_lt_of_pos _ (by omega)
        have hnn : 0 ≤ (a : Int) % (b : Int) := Int.emod_nonneg _ (by omega)
        have hcast := Lib.hid (show (a : Int) % (b : Int) = ((a % b : Nat) : Int) by rw [Int.natCast_emod])
        have hltn : a % b < b := Nat.mod_lt _ hb0
        go_wp2
        go_quiet (fail)
        go_wp2
        go_roundw
        case rel => exact ⟨b, a % b, _, rfl, by rw [hcast.out], hb0, hbb, by omega, hG2.out, by first | rfl | exact World.drewN_drewN _ _ _⟩
        case measure => simp [intOf]; omega
      · obtain rfl : b = 0 := by omega
        have hD := Dg.lit1_64 (w.drewN m3) 82 a hab
        go_wp2
        go_ret
        exact ⟨_, _, _, _, rfl, hD, by intro _; simp; omega, show _ = _ by rw [hG.out, Nat.gcd_zero_right]; simp [vl], by omega, (bel_drewN (Below.refl _ _) m3).alloc (Nat.le_refl _) _⟩
set_option maxHeartbeats 1600000 in
set_option maxRecDepth 100000 in
theorem gcd64_lt (HD : Hid DivSaid) (A A' : Option Addr) (n c n' c' : Nat) (xs ys : List Nat) (w : World) (h : Dg .u64 w A n c xs) (h' : Dg .u64 w A' n' c' ys) (hN : Nrm xs) (hN' : Nrm ys) (X Y : Nat) (hX : Hid (vl (bs .u64) xs = X)) (hY : Hid (vl (bs .u64) ys = Y))
    (hn : n' ≤ 2000000) (hle : X < Y) (hs : n ≤ 1) :
    Calls Tryz.prog 75 #[.slice A n c, .slice A' n' c'] w (RetN .u64 w (Y.gcd X) (max n' 1)) := by
  have ho := ord_neg hle
  clear hle
  rcases (show n = 0 ∨ n = 1 by omega) with hn0 | hn0
  · have hG : Hid (Y.gcd X = Y) := by
      have : X = 0 := by rw [← hX.out, List.eq_nil_of_length_eq_zero (show xs.length = 0 by rw [h.len]; exact hn0)]; rfl
      show _ = _; rw [this, Nat.gcd_zero_right]
    subst hn0
    go_enter Tryz.func75, Tryz.ntmps75
    go_wp2_with fail
    refine (cmp64_any _ _ _ _ _ _ _ _ _ h h' hN hN' X Y hX hY).mono ?_
    rintro e w2 ⟨m, rfl, rfl⟩
    go_wp2
    go_ret
    exact ⟨_, _, _, _, rfl, h'.drewN m, hN', show _ = _ by rw [hY.out, hG.out], by omega, bel_drewN (Below.refl _ _) m⟩
  · subst hn0
    obtain ⟨ad', y, rfl, hcy, hy⟩ := h.at_ (j := 0) (by omega)
    have hyv := nrm_one64 h.len hy.out.1
    rw [hX.out] at hyv
    have hyb : y ≤ 18446744073709551615 := Nat.le_of_lt_succ hy.out.2
    have hy1 : 1 ≤ y := nrm_top hN h.len hy.out.1
    have Hyv := Lib.hid hyv
    clear hyv hs
    have hcy : w.cell? ad' = some (.int .u64 y) := hcy
    obtain ⟨r, hr⟩ : ∃ r, r = Y % y := ⟨_, rfl⟩
    have hry : r < y := by rw [hr]; exact Nat.mod_lt _ hy1
    have Hr : Hid (r = vl (bs .u64) ys % y) := by rw [hY.out]; exact hr
    have HG : Hid (Y.gcd X = y.gcd r) := by
      show _ = _
      rw [Hyv.out, hr, Nat.gcd_comm Y y, Nat.gcd_rec, Nat.gcd_comm]
    clear hr
    go_enter Tryz.func75, Tryz.ntmps75
    go_wp2_with fail
    refine (cmp64_any _ _ _ _ _ _ _ _ _ h h' hN hN' X Y hX hY).mono ?_
    rintro e w2 ⟨m, rfl, rfl⟩
    have hcy2 : (w.drewN m).cell? ad' = some (.int .u64 y) := hcy
    go_wp2
    go_quiet ((go_at_call 122; exact quiet_more (modulo_val HD _ _ _ _ _ _ (h'.drewN _) hn hy1 hyb r Hr)))
    go_wp2
    go_loopw [5, 6] (fun xv yv wr => ∃ a b m : Nat, xv = .int .u64 a ∧ yv = .int .u64 b ∧ 1 ≤ a ∧ a ≤ 18446744073709551615 ∧ b ≤ 18446744073709551615 ∧ Hid (Y.gcd X = a.gcd b) ∧ wr = w.drewN m) (fun _ yv _ => (intOf yv).toNat)
    case atStart => exact ⟨y, r, _, rfl, rfl, hy1, hyb, by omega, HG.out, by first | rfl | exact World.drewN_drewN _ _ _⟩
    case round =>
      obtain ⟨a, b, m3, rfl, rfl, ha1, hab, hbb, hG, rfl⟩ := hrel
      by_cases hb0 : 0 < b
      · have hG2 := Lib.hid (show Y.gcd X = b.gcd (a % b) by rw [hG.out, Nat.gcd_comm a b, Nat.gcd_rec, Nat.gcd_comm])
        have hmod : ((a : Int)).tmod (b : Int) = (a : Int) % (b : Int) := Int.tmod_eq_emod_of_nonneg (by omega)
        have hlt : (a : Int) % (b : Int) < (b : Int) := Int.emod_lt_of_pos _ (by omega)
        have hnn : 0 ≤ (a : Int) % (b : Int) := Int.emod_nonneg _ (by omega)
        have hcast := Lib.hid (show (a : Int) % (b : Int) = ((a % b : Nat) : Int) by rw [Int.natCast_emod])
        have hltn : a % b < b := Nat.mod_lt _ hb0
        go_wp2
        go_quiet (fail)
        go_wp2
        go_roundw
        case rel => exact ⟨b, a % b, _, rfl, by rw [hcast.out], hb0, hbb, by omega, hG2.out, by first | rfl | exact World.drewN_drewN _ _ _⟩
        case measure => simp [intOf]; omega
      · obtain rfl : b = 0 := by omega
        have hD := Dg.lit1_64 (w.drewN m3) 82 a hab
        go_wp2
        go_ret
        exact ⟨_, _, _, _, rfl, hD, by intro _; simp; omega, show _ = _ by rw [hG.out, Nat.gcd_zero_right]; simp [vl], by omega, (bel_drewN (Below.refl _ _) m3).alloc (Nat.le_refl _) _⟩
theorem gcd64_small (HD : Hid DivSaid) (A A' : Option Addr) (n c n' c' : Nat) (xs ys : List Nat) (w : World) (h : Dg .u64 w A n c xs) (h' : Dg .u64 w A' n' c' ys) (hN : Nrm xs) (hN' : Nrm ys) (X Y : Nat) (hX : Hid (vl (bs .u64) xs = X)) (hY : Hid (vl (bs .u64) ys = Y))
    (hn : n ≤ 2000000) (hn' : n' ≤ 2000000) (hs : n ≤ 1 ∨ n' ≤ 1) :
    Calls Tryz.prog 75 #[.slice A n c, .slice A' n' c'] w (RetN .u64 w (X.gcd Y) (max (max n n') 1)) := by
  have l1 : X ≤ Y → n ≤ n' := fun hl => by
    have := len_le_of one_lt_bs64 h'.ok hN (by rw [hX.out, hY.out]; exact hl)
    rw [h.len, h'.len] at this; exact this
  have l2 : Y ≤ X → n' ≤ n := fun hl => by
    have := len_le_of one_lt_bs64 h.ok hN' (by rw [hX.out, hY.out]; exact hl)
    rw [h.len, h'.len] at this; exact this
  by_cases hle : Y ≤ X
  · have := l2 hle
    refine (gcd64_ge HD A A' n c n' c' xs ys w h h' hN hN' X Y hX hY hn hle (by omega)).mono fun e w' ⟨A1, m, c1, us, he, hD, hn1, hv, hm, hb⟩ => ?_
    exact ⟨A1, m, c1, us, he, hD, hn1, hv, by omega, hb⟩
  · have := l1 (by omega)
    refine (gcd64_lt HD A A' n c n' c' xs ys w h h' hN hN' X Y hX hY hn' (by omega) (by omega)).mono fun e w' ⟨A1, m, c1, us, he, hD, hn1, hv, hm, hb⟩ => ?_
    exact ⟨A1, m, c1, us, he, hD, hn1, by rw [Nat.gcd_comm]; exact hv, by omega, hb⟩
end Go.Proofs.YtbgihlfblmilmaaGreatDoor.Fr

namespace Go.Proofs.YtbgihlfblmilmaaGreatDoor.Fr
open Go.RowKit Num

theorem nv_short {w : World} {A : Option Addr} {m c : Nat} {us ys : List Nat} {z y n : Nat} (hD : Dg .u64 w A m c us) (hN : Nrm us) (hv : Hid (vl (bs .u64) us = z)) (hy : Okd (bs .u64) ys) (hyl : ys.length = n) (hyv : vl (bs .u64) ys = y) (hle : z ≤ y) : NV .u64 w (.slice A m c) z n := by
  have h := len_le_of one_lt_bs64 hy hN (by rw [hv.out, hyv]; exact hle)
  rw [hD.len, hyl] at h
  exact NV.mk hD hN hv h

theorem NV.le {k : IntKind} {w : World} {v : Value} {x L L' : Nat} (h : NV k w v x L) (hl : L ≤ L') : NV k w v x L' := by
  obtain ⟨A, m, c, us, e, hD, h1, h2, h3⟩ := h
  exact ⟨A, m, c, us, e, hD, h1, h2, Nat.le_trans h3 hl⟩

end Go.Proofs.YtbgihlfblmilmaaGreatDoor.Fr

namespace Go.Proofs.YtbgihlfblmilmaaGreatDoor.Fr
open Go.RowKit Num

end Go.Proofs.YtbgihlfblmilmaaGreatDoor.Fr

/- An integer as a number. -/
namespace Go.Proofs.YtbgihlfblmilmaaGreatDoor.Fr
open Go.RowKit Num

theorem nv_one {w : World} {v : Value} {x L : Nat} (h : NV .u64 w v x L) (hx : x ≤ 18446744073709551615) : NV .u64 w v x 1 := by
  obtain ⟨A, m, c, us, e, hD, h1, h2, _⟩ := h
  refine ⟨A, m, c, us, e, hD, h1, h2, ?_⟩
  rcases (show m ≤ 1 ∨ 2 ≤ m by omega) with hm | hm
  · exact hm
  · have h3 := h1.le (b := bs .u64) (by rw [hD.len]; omega)
    rw [h2.out, hD.len] at h3
    have h4 : bs .u64 ^ 1 ≤ bs .u64 ^ (m - 1) := Nat.pow_le_pow_right (by decide) (by omega)
    have h5 : bs .u64 ^ 1 = 18446744073709551616 := by decide
    omega

theorem of_any (n : Int) (w : World) (hr : -9223372036854775808 ≤ n ∧ n ≤ 9223372036854775807) :
    Calls Tryz.prog 30 #[.int .i64 n] w fun e w' => ∃ v, e = .returned v ∧ FV w' v (decide (n < 0)) n.natAbs 0 2 ∧ Below w.heap.size w w' := by
  have B2 := Blk.new w 24 #[.bool false, .slice none 0 0, .slice none 0 0]
  have hw0 := (Below.refl w.heap.size w).alloc (Nat.le_refl _) (.cells #[.bool false, .slice none 0 0, .slice none 0 0] 24)
  go_enter Tryz.func30, Tryz.ntmps30
  go_wp2_with fail
  generalize w.alloc (.cells #[.bool false, .slice none 0 0, .slice none 0 0] 24) = w1 at *
  refine (whole_any n _ hr).mono ?_
  rintro e w2 ⟨_, rfl, ⟨_, _, rfl, ⟨A3, m3, c3, us3, rfl, hD3, hN3, hv3, hm3⟩, ⟨A4, m4, c4, us4, rfl, hD4, hN4, hv4, hm4⟩⟩, hb2⟩
  have C2 := B2.below hb2
  have hw2 := hw0.trans (hb2.mono hw0.size)
  go_wp2_with fail
  refine (keep_any _ _ _ _ _ _ _ _ _ _ hD3 hD4 hN3 hN4 _ _ hv3 hv4 (by omega) (by omega)).mono ?_
  rintro e w3 ⟨_, rfl, ⟨_, _, rfl, n5, n6⟩, hb3⟩
  have C3 := C2.below hb3
  have hw3 := hw2.trans (hb3.mono hw2.size)
  have r0 := C3.cell 0
  have r1 := C3.cell 1
  have r2 := C3.cell 2
  have f0 := C3.frozen 0
  have f1 := C3.frozen 1
  have f2 := C3.frozen 2
  have n5' := (n5.le (show 2 * max m3 m4 ≤ 2 by omega))
  have n6' := (n6.le (show 2 * max m3 m4 ≤ 2 by omega))
  obtain ⟨A5, m5, c5, us5, rfl, _⟩ := n5
  obtain ⟨A6, m6, c6, us6, rfl, _⟩ := n6
  go_wp2
  exact ret_frac rfl rfl (((C3.set_ 0 _).set_ 1 _).set_ 2 _) rfl ⟨_, rfl, ⟨_, _, rfl, nv_set3 n5' C3 _ _ _, nv_set3 n6' C3 _ _ _⟩, bel_set3 hw3 (by omega) _ _ _⟩

end Go.Proofs.YtbgihlfblmilmaaGreatDoor.Fr
