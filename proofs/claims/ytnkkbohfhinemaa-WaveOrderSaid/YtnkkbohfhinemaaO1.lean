/- Segments are in order: the law's walk. -/
import Derived.Test.YtnkkbohfhinemaaO0
import Derived.Test.YtnkkbohfhinemaaS0
import Derived.Test.YtnkkbohfhinemaaF0
import Derived.Test.YtnkkbohfhinemaaK3
namespace Go.Proofs.Ytnkkbohfhinemaa
open Go.RowKit

abbrev YesO (w : World) (e : Ending) (w' : World) : Prop := e = .returned (.bool true) ∧ Below w.heap.size w w'

set_option maxHeartbeats 3200000 in
theorem ord_skip (b h l r f d x : Int) (A : Option Addr) (n c : Nat) (xs : List Int) (w : World) (hS : Sl .i64 w A n c xs) (hn : ¬ (n ≤ 3000 ∧ gtB b h l r f d x = true ∧ allB (-32768) 32767 xs = true)) :
    Calls Try.prog 18 #[.slice A n c, gtV b h l r f d x] w (YesO w) := by
  have hcap := hS.cap
  have htop := hS.top
  have hgV := Lib.hid (fun w => RGate_any b h l r f d x w)
  unfold gtV at hgV ⊢
  rcases Nat.lt_or_ge 3000 n with h1 | h1
  · go_enter Try.func18, Try.ntmps18
    go_wp2_with fail
    have hb1 : Below w.heap.size w (w.alloc (.cells #[.int .i64 b, .int .i64 h, .int .i64 l, .int .i64 r, .int .i64 f, .int .i64 d, .int .i64 x] 65)) := (Below.refl _ _).alloc (Nat.le_refl _) _
    refine (known_any _).mono ?_
    rintro e w7 ⟨rfl, hb7⟩
    go_wp2
    go_ret
    exact ⟨rfl, hb1.trans (hb7.mono hb1.size)⟩
  · have hS1 := hS.alloc (.cells #[.int .i64 b, .int .i64 h, .int .i64 l, .int .i64 r, .int .i64 f, .int .i64 d, .int .i64 x] 65)
    have hb1 : Below w.heap.size w (w.alloc (.cells #[.int .i64 b, .int .i64 h, .int .i64 l, .int .i64 r, .int .i64 f, .int .i64 d, .int .i64 x] 65)) := (Below.refl _ _).alloc (Nat.le_refl _) _
    cases hv : gtB b h l r f d x with
    | false =>
      have hv := Lib.hid hv
      go_enter Try.func18, Try.ntmps18
      go_wp2_with fail
      refine (hgV.out _).mono ?_
      rintro e w4 ⟨he, hb4⟩
      rw [hv.out] at he
      subst he
      have hb14 := hb1.trans (hb4.mono hb1.size)
      go_wp2_with fail
      refine (known_any _).mono ?_
      rintro e w7 ⟨rfl, hb7⟩
      go_wp2
      go_ret
      exact ⟨rfl, hb14.trans (hb7.mono hb14.size)⟩
    | true =>
      have hx : allB (-32768) 32767 xs = false := by
        cases hx : allB (-32768) 32767 xs with
        | false => rfl
        | true => exact absurd ⟨h1, hv, hx⟩ hn
      have hx := Lib.hid hx
      have hv := Lib.hid hv
      go_enter Try.func18, Try.ntmps18
      go_wp2_with fail
      refine (hgV.out _).mono ?_
      rintro e w4 ⟨he, hb4⟩
      rw [hv.out] at he
      subst he
      have hb14 := hb1.trans (hb4.mono hb1.size)
      have hS4 := hS1.below hb4
      go_wp2_with fail
      refine (All_any _ _ _ _ _ _ _ hS4).mono ?_
      rintro e w5 ⟨he, rfl⟩
      rw [hx.out] at he
      subst he
      go_wp2_with fail
      refine (known_any _).mono ?_
      rintro e w7 ⟨rfl, hb7⟩
      go_wp2
      go_ret
      exact ⟨rfl, hb14.trans (hb7.mono hb14.size)⟩

theorem fin_le {ps : List (Int × Int)} {B X n : Int} : ∀ {a : Int} {k : Nat} {p : Int × Int}, okL B X n a ps → 0 ≤ a → ps[k]? = some p → 0 ≤ lastOf a (ps.take k) ∧ lastOf a (ps.take k) ≤ p.1 ∧ 0 ≤ p.1 := by
  induction ps with
  | nil => intro a k p _ _ h; simp at h
  | cons q ps ih =>
    intro a k p h h0 hk
    cases k with
    | zero =>
      simp at hk
      subst hk
      exact ⟨h0, h.1.1, by have := h.1.1; omega⟩
    | succ k =>
      rw [List.getElem?_cons_succ] at hk
      rw [List.take_succ_cons]
      exact ih (a := q.2) h.2 (by have := h.1.1; have := h.1.2.1; omega) hk
theorem lastOf_take {ps : List (Int × Int)} {k : Nat} {p : Int × Int} {a : Int} (h : ps[k]? = some p) : lastOf a (ps.take (k + 1)) = p.2 := by rw [takeP_snoc h, lastOf_snoc]

set_option maxHeartbeats 6400000 in
set_option maxRecDepth 100000 in
theorem ord_ok (G : Gt) (hG : G.Ok) (A : Option Addr) (n c : Nat) (xs : List Int) (w : World) (hS : Sl .i64 w A n c xs) (hn : n ≤ 3000) (hx : allB (-32768) 32767 xs = true) :
    Calls Try.prog 18 #[.slice A n c, gval G] w (YesO w) := by
  have hcap := hS.cap
  have htop := hS.top
  have hl := Lib.hid hS.len
  have hgV := Lib.hid (fun w => RGate_any G.B G.H G.L G.R G.F G.D G.X w)
  have hv := Lib.hid (gtB_of hG)
  have hx := Lib.hid hx
  have hSeg := Lib.hid (fun w hS => Segments_ok G hG A n c xs w hS (by omega) hx.out)
  have hok := Lib.hid (segs_ok hG xs)
  have hlo := Lib.hid (fun h1 h2 => segs_loud hG (xs := xs) h1 h2)
  unfold gval gtV at *
  go_enter Try.func18, Try.ntmps18
  go_wp2_with fail
  have hg : Blk (w.alloc (.cells #[.int .i64 G.B, .int .i64 G.H, .int .i64 G.L, .int .i64 G.R, .int .i64 G.F, .int .i64 G.D, .int .i64 G.X] 65)) w.heap.size 65 #[.int .i64 G.B, .int .i64 G.H, .int .i64 G.L, .int .i64 G.R, .int .i64 G.F, .int .i64 G.D, .int .i64 G.X] := Blk.new w _ _
  have hS1 := hS.alloc (.cells #[.int .i64 G.B, .int .i64 G.H, .int .i64 G.L, .int .i64 G.R, .int .i64 G.F, .int .i64 G.D, .int .i64 G.X] 65)
  have hb1 : Below w.heap.size w (w.alloc (.cells #[.int .i64 G.B, .int .i64 G.H, .int .i64 G.L, .int .i64 G.R, .int .i64 G.F, .int .i64 G.D, .int .i64 G.X] 65)) := (Below.refl _ _).alloc (Nat.le_refl _) _
  generalize w.alloc (.cells #[.int .i64 G.B, .int .i64 G.H, .int .i64 G.L, .int .i64 G.R, .int .i64 G.F, .int .i64 G.D, .int .i64 G.X] 65) = w1 at *
  refine (hgV.out _).mono ?_
  rintro e w2 ⟨he, hb2⟩
  rw [hv.out] at he
  subst he
  have hg2 := hg.below hb2
  have hS2 := hS1.below hb2
  have hb12 := hb1.trans (hb2.mono hb1.size)
  go_wp2_with fail
  refine (All_any _ _ _ _ _ _ _ hS2).mono ?_
  rintro e w3 ⟨he, rfl⟩
  rw [hx.out] at he
  subst he
  have cl0 : w2.cell? ⟨w.heap.size, 0, none⟩ = some (.int .i64 G.B) := hg2.cell 0
  have cl1 : w2.cell? ⟨w.heap.size, 1, none⟩ = some (.int .i64 G.H) := hg2.cell 1
  have cl2 : w2.cell? ⟨w.heap.size, 2, none⟩ = some (.int .i64 G.L) := hg2.cell 2
  have cl3 : w2.cell? ⟨w.heap.size, 3, none⟩ = some (.int .i64 G.R) := hg2.cell 3
  have cl4 : w2.cell? ⟨w.heap.size, 4, none⟩ = some (.int .i64 G.F) := hg2.cell 4
  have cl5 : w2.cell? ⟨w.heap.size, 5, none⟩ = some (.int .i64 G.D) := hg2.cell 5
  have cl6 : w2.cell? ⟨w.heap.size, 6, none⟩ = some (.int .i64 G.X) := hg2.cell 6
  go_wp2_with fail
  refine (hSeg.out _ hS2).mono ?_
  rintro e w4 ⟨A4, m, c4, rfl, hG4, hb4⟩
  have hg4 := hg2.below hb4
  have hS4 := hS2.below hb4
  have hb14 := hb12.trans (hb4.mono hb12.size)
  clear cl0 cl1 cl2 cl3 cl4 cl5 cl6 hS1 hS2 hg hg2
  have hlm := Lib.hid hG4.len
  have hmcap := hG4.cap
  have hmtop := hG4.top
  generalize segs G xs ++ lastS G xs = ps at *
  have hbx := hG.b2
  have hby := hG.b1
  have hX1 := hG.x2
  have hX0 : 0 ≤ G.X := by have := hG.x1; have := hG.r1; have := hG.f1; have := hG.d1; omega
  have hq := mul_bd (a := G.X + 1) (b := (G.B : Int)) (m := 100001) (q := 4096) (by omega) (by omega) (by omega) (by omega) (by omega)
  have hq1 := hq.1
  have hq2 := hq.2
  clear hq
  go_wp2
  go_loopw [7, 8] (fun lv iv wr => ∃ k : Nat, k ≤ m ∧ iv = .int .i64 k ∧ lv = .int .i64 (lastOf 0 (ps.take k)) ∧ Below w4.heap.size w4 wr) (fun _ iv _ => m - (intOf iv).toNat)
  case atStart => exact ⟨0, Nat.zero_le _, rfl, rfl, Below.refl _ _⟩
  case round =>
    obtain ⟨k, hk, rfl, rfl, hbr⟩ := hrel
    have hgr := hg4.below hbr
    have hGr := hG4.below hbr
    have hszr := hbr.size
    rcases Nat.lt_or_ge k m with hlt | hge
    · obtain ⟨g, a, b, rfl, hca, hcb, hp⟩ := hGr.at_ hlt
      have hP := okL_at hok.out hp.out
      obtain ⟨f1, f2, f3⟩ := fin_le hok.out (Int.le_refl 0) hp.out
      obtain ⟨k1, k2, k3, ⟨q, hq0, hqe⟩, k5⟩ := hP
      have hnext := Lib.hid (lastOf_take (a := 0) hp.out)
      rw [hl.out] at k3
      generalize lastOf 0 (ps.take k) = last at *
      dsimp only at k1 k2 k3 hqe k5 f1 f2 f3 hnext
      have d1 : decide (a < last) = false := decide_eq_false (by omega)
      have d2 : decide (b ≤ a) = false := decide_eq_false (by omega)
      have d3 : decide ((n : Int) < b) = false := decide_eq_false (by omega)
      have d4 : a.tmod (G.B : Int) = 0 := by rw [Int.tmod_eq_emod_of_nonneg (by omega), hqe]; exact Int.mul_emod_left _ _
      have d5 : decide ((G.X + 1) * (G.B : Int) ≤ b - a) = false := decide_eq_false (by omega)
      have hB0 : ¬ G.B = 0 := by omega
      clear hqe hq0
      have cl0 : (wr.alloc (.cells #[.int .i64 a, .int .i64 b] 84)).cell? ⟨w.heap.size, 0, none⟩ = some (.int .i64 G.B) := (hgr.alloc _).cell 0
      have cl6 : (wr.alloc (.cells #[.int .i64 a, .int .i64 b] 84)).cell? ⟨w.heap.size, 6, none⟩ = some (.int .i64 G.X) := (hgr.alloc _).cell 6
      go_wp2
      go_roundw
      case rel => exact ⟨k + 1, by omega, by go_num, by rw [hnext.out], hbr.alloc hszr _⟩
      case measure => simp [intOf]; omega
    · have hkm : m = k := by omega
      subst hkm
      clear hGr
      have hGr := hG4.below hbr
      have hSr := hS4.below hbr
      have hbx := hb14.trans (hbr.mono hb14.size)
      have hRB1 := mul_bd (a := (G.B : Int)) (b := G.R) (m := 4096) (q := 1000) (by omega) (by omega) (by have := hG.r1; omega) hG.r2 (by omega)
      rw [Int.mul_comm (G.B : Int)] at hRB1
      have hRB2 := hRB1.1
      have hRB3 := hRB1.2
      clear hRB1
      have hgB := Lib.hid hgr
      have cl0 : wr.cell? ⟨w.heap.size, 0, none⟩ = some (.int .i64 G.B) := hgr.cell 0
      have cl3 : wr.cell? ⟨w.heap.size, 3, none⟩ = some (.int .i64 G.R) := hgr.cell 3
      go_wp2
      clear cl0 cl3
      go_loopw [10, 11] (fun lv iv wz => ∃ (k r : Nat), iv = .int .i64 k ∧ k ≤ n ∧ lv = .bool (decide (G.R * (G.B : Int) ≤ (n : Int)) && loudA G.H (xs.take k)) ∧ wz = wr.drewN r) (fun _ iv _ => n - (intOf iv).toNat)
      case atStart => exact ⟨0, 0, rfl, Nat.zero_le _, by rw [List.take_zero, show loudA G.H [] = true from rfl, Bool.and_true], rfl⟩
      case round =>
        obtain ⟨k, r, rfl, hk, rfl, rfl⟩ := hrel
        have hsr := hSr.drewN r
        have hgz := hgB.out.drewN r
        have hGz := hGr.drewN r
        have hbz := bel_drewN hbx r
        generalize hw : wr.drewN r = wz at *
        have hw := Lib.hid hw
        obtain ⟨lb, hlb⟩ : ∃ lb, (decide (G.R * (G.B : Int) ≤ (n : Int)) && loudA G.H (xs.take k)) = lb := ⟨_, rfl⟩
        rw [hlb]
        have hlb := Lib.hid hlb
        rcases Nat.lt_or_ge k n with hlt | hge
        · obtain ⟨ad, x, rfl, hcx, hxx⟩ := hsr.at_ hlt
          have hxb := allB_get hx.out (by rw [hl.out]; exact hlt) hxx.out
          have hx1 := hxb.1
          have hx2 := hxb.2
          have hsq := sq_bd (x := x) (m := 32768) (by omega) (by omega)
          have hs1 := hsq.1
          have hs2 := hsq.2
          clear hxb hsq
          have i1 : (k : Int) < (n : Int) := by omega
          have cl1 : wz.cell? ⟨w.heap.size, 1, none⟩ = some (.int .i64 G.H) := hgz.cell 1
          have hnx := Lib.hid (show loudA G.H (xs.take (k + 1)) = (loudA G.H (xs.take k) && decide (G.H ≤ x * x)) by rw [take_snocD (by rw [hl.out]; exact hlt) hxx.out, loudA_snoc])
          cases lb with
          | false =>
            go_wp2
            go_quiet (fail)
            go_wp2
            go_roundw
            case rel => exact ⟨k + 1, r + nq, by go_num, hlt, by rw [hnx.out, ← Bool.and_assoc, hlb.out]; rfl, by rw [← hw.out]; exact dr_add wr r nq⟩
            case measure => simp [intOf]; omega
          | true =>
            go_wp2
            go_quiet (fail)
            go_wp2
            go_roundw
            case rel => exact ⟨k + 1, r + nq, by go_num, hlt, by rw [hnx.out, ← Bool.and_assoc, hlb.out, Bool.true_and], by rw [← hw.out]; exact dr_add wr r nq⟩
            case measure => simp [intOf]; omega
        · have hkn : k = n := by omega
          subst hkn
          cases lb with
          | false =>
            go_wp2_with fail
            refine (known_any _).mono ?_
            rintro e w7 ⟨rfl, hb7⟩
            go_wp2
            go_ret
            exact ⟨rfl, hbz.trans (hb7.mono hbz.size)⟩
          | true =>
            have h2 := hlb.out
            rw [List.take_of_length_le (by rw [hl.out]; exact Nat.le_refl _), Bool.and_eq_true] at h2
            obtain ⟨t, T, hps⟩ := hlo.out h2.2 (by rw [hl.out]; exact of_decide_eq_true h2.1)
            clear h2
            subst hps
            obtain ⟨m2, rfl⟩ : ∃ m2, m = m2 + 1 := ⟨m - 1, by have := hlm.out; simp at this; omega⟩
            obtain ⟨g, a, b, rfl, hca, hcb, hp⟩ := hGz.at_ (j := 0) (by omega)
            have ha : a = 0 := by have := hp.out; simp at this; exact this.1.symm
            subst ha
            go_wp2_with fail
            refine (known_any _).mono ?_
            rintro e w7 ⟨rfl, hb7⟩
            go_wp2
            go_ret
            exact ⟨rfl, hbz.trans (hb7.mono hbz.size)⟩

theorem order_any (A : Option Addr) (n c : Nat) (xs : List Int) (b h l r f d x : Int) (w : World) (hS : Sl .i64 w A n c xs) :
    Calls Try.prog 18 #[.slice A n c, gtV b h l r f d x] w (YesO w) := by
  by_cases hn : n ≤ 3000 ∧ gtB b h l r f d x = true ∧ allB (-32768) 32767 xs = true
  · obtain ⟨G, hG, rfl, rfl, rfl, rfl, rfl, rfl, rfl⟩ := gtB_ok hn.2.1
    exact ord_ok G hG A n c xs w hS hn.1 hn.2.2
  · exact ord_skip b h l r f d x A n c xs w hS hn
end Go.Proofs.Ytnkkbohfhinemaa
