/- A listener that is fed in pieces: the law's walk. -/
import Derived.Test.YtnkkbohfhinemaaJ1
namespace Go.Proofs.Ytnkkbohfhinemaa
open Go.RowKit

theorem segs_nil {G : Gt} : segs G [] = [] := by unfold segs; rw [show ([] : List Int).length / G.B = 0 from Nat.zero_div _]; rfl
theorem st_sp {m : Ms} : decide (m.st = 2) = m.sp := by unfold Ms.st; cases m.sp <;> rfl

set_option maxHeartbeats 3200000 in
set_option maxRecDepth 100000 in
theorem ls_gate (A0 : Option Addr) (n0 c0 : Nat) (B : Nat → Option Addr) (L C : Nat → Nat) (X : Nat → List Int) (A2 : Option Addr) (n2 c2 : Nat) (ys : List Int) (b h l r f d x : Int) (w : World) (hR : Rs w A0 n0 c0 B L C X) (hS2 : Sl .i64 w A2 n2 c2 ys)
    (hgood : ∀ r, r < n0 → allB (-32768) 32767 (X r) = true) (h30 : n0 ≤ 30) (h2000 : sumL L n0 ≤ 2000) (h100 : n2 ≤ 100) (hv : gtB b h l r f d x = false) :
    Calls Try.prog 16 #[.slice A0 n0 c0, gtV b h l r f d x, .slice A2 n2 c2] w (YesJ w) := by
  have hcap0 := hR.cap
  have htop0 := hR.top
  have hcap2 := hS2.cap
  have htop2 := hS2.top
  have hgood := Lib.hid hgood
  have hgV := Lib.hid (fun w => RGate_any b h l r f d x w)
  have hLi := Lib.hid (fun w => Listen_bad b h l r f d x w hv)
  have hv := Lib.hid hv
  unfold gtV at hgV hLi ⊢
  have hb1 : Below w.heap.size w (w.alloc (.cells #[.int .i64 b, .int .i64 h, .int .i64 l, .int .i64 r, .int .i64 f, .int .i64 d, .int .i64 x] 65)) := (Below.refl _ _).alloc (Nat.le_refl _) _
  have hR1 := hR.below hb1
  have hg : Blk (w.alloc (.cells #[.int .i64 b, .int .i64 h, .int .i64 l, .int .i64 r, .int .i64 f, .int .i64 d, .int .i64 x] 65)) w.heap.size 65 #[.int .i64 b, .int .i64 h, .int .i64 l, .int .i64 r, .int .i64 f, .int .i64 d, .int .i64 x] := Blk.new w _ _
  go_enter Try.func16, Try.ntmps16
  go_wp2
  generalize w.alloc (.cells #[.int .i64 b, .int .i64 h, .int .i64 l, .int .i64 r, .int .i64 f, .int .i64 d, .int .i64 x] 65) = w1 at *
  go_loop [7, 8] (fun nv iv => ∃ (k : Nat), k ≤ n0 ∧ iv = .int .i64 k ∧ nv = .int .i64 ((sumL L k : Nat) : Int)) (fun _ iv => n0 - (intOf iv).toNat)
  case atStart => exact ⟨0, Nat.zero_le _, rfl, rfl⟩
  case round =>
    obtain ⟨k, hk, rfl, rfl⟩ := hrel
    have hbd := sumL_le (L := L) hk
    have hs2 : ((sumL L k : Nat) : Int) ≤ 2000 := by omega
    have hs1 : 0 ≤ ((sumL L k : Nat) : Int) := by omega
    clear hbd
    rcases Nat.lt_or_ge k n0 with hlt | hge
    · obtain ⟨ad, rfl, hc⟩ := hR1.at_ hlt
      have hrow := hR1.row k hlt
      have hrc := hrow.cap
      have hrt := hrow.top
      have i1 : (k : Int) < (n0 : Int) := by omega
      have hfew := hR1.few k hlt
      have hx := Lib.hid (hgood.out k hlt)
      have hnx := Lib.hid (show ((sumL L k : Nat) : Int) + (L k : Int) = ((sumL L (k + 1) : Nat) : Int) from (by rw [show sumL L (k + 1) = sumL L k + L k from rfl, Int.natCast_add]))
      generalize ((sumL L k : Nat) : Int) = s at *
      generalize B k = Bk at *
      generalize L k = Lk at *
      generalize C k = Ck at *
      go_wp2_with fail
      refine (All_any _ _ _ _ _ _ _ hrow).mono ?_
      rintro e w' ⟨he, rfl⟩
      rw [hx.out] at he
      subst he
      go_wp2
      go_round
      case rel => exact ⟨k + 1, by omega, by go_num, by rw [hnx.out]⟩
      case measure => simp [intOf]; omega
    · have hkn : k = n0 := by omega
      subst hkn
      clear hk hge hs1
      have cl0 : w1.cell? ⟨w.heap.size, 0, none⟩ = some (.int .i64 b) := hg.cell 0
      have cl1 : w1.cell? ⟨w.heap.size, 1, none⟩ = some (.int .i64 h) := hg.cell 1
      have cl2 : w1.cell? ⟨w.heap.size, 2, none⟩ = some (.int .i64 l) := hg.cell 2
      have cl3 : w1.cell? ⟨w.heap.size, 3, none⟩ = some (.int .i64 r) := hg.cell 3
      have cl4 : w1.cell? ⟨w.heap.size, 4, none⟩ = some (.int .i64 f) := hg.cell 4
      have cl5 : w1.cell? ⟨w.heap.size, 5, none⟩ = some (.int .i64 d) := hg.cell 5
      have cl6 : w1.cell? ⟨w.heap.size, 6, none⟩ = some (.int .i64 x) := hg.cell 6
      go_wp2_with fail
      refine (hLi.out _).mono ?_
      rintro e w2 ⟨rfl, hb2⟩
      have hb12 := hb1.trans (hb2.mono hb1.size)
      have hg2 := hg.below hb2
      clear cl0 cl1 cl2 cl3 cl4 cl5 cl6
      have cm0 : w2.cell? ⟨w.heap.size, 0, none⟩ = some (.int .i64 b) := hg2.cell 0
      have cm1 : w2.cell? ⟨w.heap.size, 1, none⟩ = some (.int .i64 h) := hg2.cell 1
      have cm2 : w2.cell? ⟨w.heap.size, 2, none⟩ = some (.int .i64 l) := hg2.cell 2
      have cm3 : w2.cell? ⟨w.heap.size, 3, none⟩ = some (.int .i64 r) := hg2.cell 3
      have cm4 : w2.cell? ⟨w.heap.size, 4, none⟩ = some (.int .i64 f) := hg2.cell 4
      have cm5 : w2.cell? ⟨w.heap.size, 5, none⟩ = some (.int .i64 d) := hg2.cell 5
      have cm6 : w2.cell? ⟨w.heap.size, 6, none⟩ = some (.int .i64 x) := hg2.cell 6
      go_wp2_with fail
      refine (hgV.out _).mono ?_
      rintro e w4 ⟨he, hb4⟩
      rw [hv.out] at he
      subst he
      have hb14 := hb12.trans (hb4.mono hb12.size)
      go_wp2_with fail
      refine (known_any _).mono ?_
      rintro e w7 ⟨rfl, hb7⟩
      go_wp2
      go_ret
      exact ⟨rfl, hb14.trans (hb7.mono hb14.size)⟩

set_option maxHeartbeats 4000000 in
set_option maxRecDepth 100000 in
theorem ls_ok (A0 : Option Addr) (n0 c0 : Nat) (B : Nat → Option Addr) (L C : Nat → Nat) (X : Nat → List Int) (A2 : Option Addr) (n2 c2 : Nat) (ys : List Int) (G : Gt) (hG : G.Ok) (w : World) (hR : Rs w A0 n0 c0 B L C X) (hS2 : Sl .i64 w A2 n2 c2 ys)
    (hgood : ∀ r, r < n0 → allB (-32768) 32767 (X r) = true) (h30 : n0 ≤ 30) (h2000 : sumL L n0 ≤ 2000) (h100 : n2 ≤ 100) :
    Calls Try.prog 16 #[.slice A0 n0 c0, gval G, .slice A2 n2 c2] w (YesJ w) := by
  obtain ⟨i0, hi, hz0, hz1, hz2⟩ := info_parts info_int
  obtain ⟨j0, hj0, hy0, hy1, hy2⟩ := info_parts info_seg
  have hcap0 := hR.cap
  have htop0 := hR.top
  have hcap2 := hS2.cap
  have htop2 := hS2.top
  have hgood := Lib.hid hgood
  have hcyA := Lib.hid (show (if chk (-32768) 32767 ys = 0 then 8 else chk (-32768) 32767 ys) = (if allB (-32768) 32767 ys then (8 : Int) else 2) from by
    unfold chk
    rw [if_neg (show ¬ 200000 < ys.length by rw [hS2.len]; omega)]
    cases allB (-32768) 32767 ys <;> rfl)
  have hgV := Lib.hid (fun w => RGate_any G.B G.H G.L G.R G.F G.D G.X w)
  have hv := Lib.hid (gtB_of hG)
  have hLi := Lib.hid (fun w => Listen_any G hG w)
  have hSgF := Lib.hid (fun (A : Option Addr) n c zs w hS hn hx => RSegments_any false G hG A n c zs w hS hn hx)
  have hSgT := Lib.hid (fun (A : Option Addr) n c zs w hS hn hx => RSegments_any true G hG A n c zs w hS hn hx)
  have hlen := Lib.hid (fun k (hk : k ≤ n0) => cat_len (X := X) (L := L) (n := k) (fun r hr => (hR.row r (by omega)).len))
  have hok := Lib.hid (fun k (hk : k ≤ n0) => cat_ok (X := X) (n := k) (fun r hr => hgood.out r (by omega)))
  have hRw := Lib.hid (fun (wx : World) (hb : Below w.heap.size w wx) => hR.below hb)
  have hSw := Lib.hid (fun (wx : World) (hb : Below w.heap.size w wx) => hS2.below hb)
  unfold gval gtV at *
  have hb1 : Below w.heap.size w (w.alloc (.cells #[.int .i64 G.B, .int .i64 G.H, .int .i64 G.L, .int .i64 G.R, .int .i64 G.F, .int .i64 G.D, .int .i64 G.X] 65)) := (Below.refl _ _).alloc (Nat.le_refl _) _
  have hR1 := hR.below hb1
  have hg : Blk (w.alloc (.cells #[.int .i64 G.B, .int .i64 G.H, .int .i64 G.L, .int .i64 G.R, .int .i64 G.F, .int .i64 G.D, .int .i64 G.X] 65)) w.heap.size 65 #[.int .i64 G.B, .int .i64 G.H, .int .i64 G.L, .int .i64 G.R, .int .i64 G.F, .int .i64 G.D, .int .i64 G.X] := Blk.new w _ _
  go_enter Try.func16, Try.ntmps16
  go_wp2
  generalize w.alloc (.cells #[.int .i64 G.B, .int .i64 G.H, .int .i64 G.L, .int .i64 G.R, .int .i64 G.F, .int .i64 G.D, .int .i64 G.X] 65) = w1 at *
  go_loop [7, 8] (fun nv iv => ∃ (k : Nat), k ≤ n0 ∧ iv = .int .i64 k ∧ nv = .int .i64 ((sumL L k : Nat) : Int)) (fun _ iv => n0 - (intOf iv).toNat)
  case atStart => exact ⟨0, Nat.zero_le _, rfl, rfl⟩
  case round =>
    obtain ⟨k, hk, rfl, rfl⟩ := hrel
    have hbd := sumL_le (L := L) hk
    have hs2 : ((sumL L k : Nat) : Int) ≤ 2000 := by omega
    have hs1 : 0 ≤ ((sumL L k : Nat) : Int) := by omega
    clear hbd
    rcases Nat.lt_or_ge k n0 with hlt | hge
    · obtain ⟨ad, rfl, hc⟩ := hR1.at_ hlt
      have hrow := hR1.row k hlt
      have hrc := hrow.cap
      have hrt := hrow.top
      have i1 : (k : Int) < (n0 : Int) := by omega
      have hfew := hR1.few k hlt
      have hx := Lib.hid (hgood.out k hlt)
      have hnx := Lib.hid (show ((sumL L k : Nat) : Int) + (L k : Int) = ((sumL L (k + 1) : Nat) : Int) from (by rw [show sumL L (k + 1) = sumL L k + L k from rfl, Int.natCast_add]))
      generalize ((sumL L k : Nat) : Int) = s at *
      generalize B k = Bk at *
      generalize L k = Lk at *
      generalize C k = Ck at *
      go_wp2_with fail
      refine (All_any _ _ _ _ _ _ _ hrow).mono ?_
      rintro e w' ⟨he, rfl⟩
      rw [hx.out] at he
      subst he
      go_wp2
      go_round
      case rel => exact ⟨k + 1, by omega, by go_num, by rw [hnx.out]⟩
      case measure => simp [intOf]; omega
    · have hkn : k = n0 := by omega
      subst hkn
      clear hk hge hs1
      have cl0 : w1.cell? ⟨w.heap.size, 0, none⟩ = some (.int .i64 G.B) := hg.cell 0
      have cl1 : w1.cell? ⟨w.heap.size, 1, none⟩ = some (.int .i64 G.H) := hg.cell 1
      have cl2 : w1.cell? ⟨w.heap.size, 2, none⟩ = some (.int .i64 G.L) := hg.cell 2
      have cl3 : w1.cell? ⟨w.heap.size, 3, none⟩ = some (.int .i64 G.R) := hg.cell 3
      have cl4 : w1.cell? ⟨w.heap.size, 4, none⟩ = some (.int .i64 G.F) := hg.cell 4
      have cl5 : w1.cell? ⟨w.heap.size, 5, none⟩ = some (.int .i64 G.D) := hg.cell 5
      have cl6 : w1.cell? ⟨w.heap.size, 6, none⟩ = some (.int .i64 G.X) := hg.cell 6
      go_wp2_with fail
      refine (hLi.out _).mono ?_
      rintro e w3 ⟨g, gr, rfl, hL3, hb3, hgg, hgr⟩
      have hb13 := hb1.trans (hb3.mono hb1.size)
      have hg3 := hg.below hb3
      clear cl0 cl1 cl2 cl3 cl4 cl5 cl6
      have hgw : w.heap.size < g ∧ w.heap.size < gr := by have := hg.lt; omega
      have hlt3 := hL3.lt
      have cm0 : w3.cell? ⟨w.heap.size, 0, none⟩ = some (.int .i64 G.B) := hg3.cell 0
      have cm1 : w3.cell? ⟨w.heap.size, 1, none⟩ = some (.int .i64 G.H) := hg3.cell 1
      have cm2 : w3.cell? ⟨w.heap.size, 2, none⟩ = some (.int .i64 G.L) := hg3.cell 2
      have cm3 : w3.cell? ⟨w.heap.size, 3, none⟩ = some (.int .i64 G.R) := hg3.cell 3
      have cm4 : w3.cell? ⟨w.heap.size, 4, none⟩ = some (.int .i64 G.F) := hg3.cell 4
      have cm5 : w3.cell? ⟨w.heap.size, 5, none⟩ = some (.int .i64 G.D) := hg3.cell 5
      have cm6 : w3.cell? ⟨w.heap.size, 6, none⟩ = some (.int .i64 G.X) := hg3.cell 6
      go_wp2_with fail
      refine (hgV.out _).mono ?_
      rintro e w4 ⟨he, hb4⟩
      rw [hv.out] at he
      subst he
      have hb14 := hb13.trans (hb4.mono hb13.size)
      have hg4 := hg3.below hb4
      have hL4 : Lis w4 g gr G [] := lis_same hL3 (hb4.block _ hlt3.1) (hb4.block _ hlt3.2)
      have hsz34 := hb4.size
      clear cm0 cm1 cm2 cm3 cm4 cm5 cm6
      go_wp2
      go_loopw [11, 12, 13] (fun av sv iv wr => ∃ (j N M : Nat) (V S : Value), j ≤ k ∧ iv = .int .i64 j ∧ V = av ∧ S = sv ∧ LsR w w3 g gr G (cat X j) N M V S wr) (fun _ _ iv _ => k - (intOf iv).toNat)
      case atStart => exact ⟨0, 0, 0, _, _, Nat.zero_le _, rfl, rfl, rfl, World.ownsRow_nil _ _ _ _, by rw [show cat X 0 = [] from rfl, segs_nil]; exact World.ownsRow_nil _ _ _ _, hL4, hg4, hb14, hb4.size⟩
      case round =>
        obtain ⟨j, N, M, V, S, hj, rfl, rfl, rfl, hall, hseen, hlis, hgate, hbel, hsz⟩ := hrel
        rcases Nat.lt_or_ge j k with hlt | hge
        · obtain ⟨ad, rfl, hc⟩ := (hRw.out wr hbel).at_ hlt
          have hrow := (hRw.out wr hbel).row j hlt
          have hrow0 := (hRw.out w (Below.refl _ _)).row j hlt
          have hf := Lib.hid (show 0 < L j → ∀ a1, B j = some a1 → a1.block ≠ g ∧ a1.block ≠ gr from fun hn a1 he => by
            have := hrow0.blt hn a1 he
            omega)
          have hnil := Lib.hid ((hRw.out wr hbel).nil j hlt)
          have hcell := Lib.hid (fun (wx : World) (hb : Below w.heap.size w wx) => show wx.cell? (ad.add j) = some (.slice (B j) (L j) (C j)) from by
            obtain ⟨a2, e2, h2⟩ := (hRw.out wx hb).at_ hlt
            injection e2 with e2
            subst e2
            exact h2)
          have hx := Lib.hid (hgood.out j hlt)
          have hok1 := Lib.hid (show allB (-32768) 32767 (cat X j ++ X j) = true from hok.out (j + 1) (by omega))
          have hnext := Lib.hid (show cat X (j + 1) = cat X j ++ X j from rfl)
          have hl1 : (cat X j ++ X j).length ≤ 2000 := by
            have h1 := hlen.out (j + 1) (by omega)
            have h2 := sumL_le (L := L) (show j + 1 ≤ k by omega)
            rw [show cat X (j + 1) = cat X j ++ X j from rfl] at h1
            omega
          have hl2e : (X j).length = L j := hrow.len
          have hl3 := hall.1
          rw [ivs_len] at hl3
          rw [List.length_append] at hl1
          have hi1 : (j : Int) < (k : Int) := by omega
          clear hrow0

          generalize cat X j = cj at *
          generalize X j = xj at *
          generalize B j = Bj at *
          generalize L j = Lj at *
          generalize C j = Cj at *
          have hrc := hrow.cap
          have hrt := hrow.top
          have hNe : N = cj.length := by omega
          have hNL : N + Lj ≤ 2000 := by omega
          have hl2 := Lib.hid hl2e
          have hN := Lib.hid hNe
          clear hl1 hl3 hNe hl2e
          have hVlt := Lib.hid hall.lt
          go_wp2_with fail
          refine (Feed_any g gr _ _ _ _ _ _ G hG hlis hrow (by omega) hx.out (by have := hN.out; omega) hf.out).mono ?_
          rintro e w5 ⟨v5, new, rfl, hown5, hseg, hlis5, htwo⟩
          have hall5 := own_two hall htwo hlt3.1 hlt3.2
          have hseen5 := own_two hseen htwo hlt3.1 hlt3.2
          have hgate5 := htwo.blk hgate (by omega) (by omega)
          have hbel5 := hbel.trans (htwo.below (B := w.heap.size) (by omega) (by omega) hbel.size)
          have hrow5 := htwo.sl hrow hf.out
          have hsrc5 := Src.of_sl hrow5 hnil.out
          have hsz5 := htwo.size
          have hc5 := hcell.out w5 hbel5
          have hsgl := segs_len G (cj ++ xj)
          rw [hseg.out, List.length_append, List.length_append, hl2.out, ← hN.out] at hsgl
          have hM0 := hseen.1
          rw [sgv_len] at hM0
          have hM : M + new.length ≤ 2000 := by omega
          clear hM0 hsgl hall hseen hgate hlis hrow hc
          go_wp2_with (at_builtin; refine wpList_append_any rfl (.tmp 102) (.tmp 106) 22 rfl w3.heap.size 3 i0 (.int .i64 0) 1 8 Try.underlying22 hi hz0 hz1 hz2 rfl (by decide) V N (ivs .i64 cj) rfl hall5 Bj Lj Cj (ivs .i64 xj) rfl hsrc5 ?k2 ?k3 ?k4 ?_)
          case k2 => unfold maxLen; omega
          case k3 => omega
          case k4 => omega
          intro V6 w6 hall6 hg6 _
          have hseen6 := own_beside hseen5 hg6 (fun q hq e => own_ne hseen5 hall5 (by decide) q hq e)
          have hown6 := own_grown hown5 hg6 (fun q hq => by have := hVlt.out q hq; omega)
          have hltg := hlis5.lt
          have hlis6 := lis_same hlis5 (hg6.block g hltg.1 (fun e => by have := hVlt.out g e.symm; omega)) (hg6.block gr hltg.2 (fun e => by have := hVlt.out gr e.symm; omega))
          have hgate6 := hgate5.grown hg6 (fun e => by have := hVlt.out _ e.symm; omega)
          have hbel6 := hbel5.grown hg6 hbel5.size (fun q hq => by have := hVlt.out q hq; omega)
          have hsz6 := hg6.size
          have hSlt := Lib.hid hseen6.lt
          clear hall5 hseen5 hgate5 hlis5 hown5 hc5 hrow5 hsrc5
          obtain ⟨As, cs, rfl, hsrc6⟩ := Src.of_own hown6 (oneCell_sgv _)
          go_wp2_with (at_builtin; refine wpList_append_any rfl (.tmp 108) (.tmp 109) 66 rfl w3.heap.size 84 j0 (.agg #[.int .i64 0, .int .i64 0]) 2 16 Try.underlying66 hj0 hy0 hy1 hy2 rfl (by decide) S M (sgv (segs G cj)) rfl hseen6 As new.length cs (sgv new) rfl hsrc6 ?k2 ?k3 ?k4 ?_)
          case k2 => unfold maxLen; omega
          case k3 => omega
          case k4 => omega
          intro S7 w7 hseen7 hg7 _
          have hall7 := own_beside hall6 hg7 (fun q hq e => own_ne hall6 hseen6 (by decide) q hq e)
          have hltg7 := hlis6.lt
          have hlis7 := lis_same hlis6 (hg7.block g hltg7.1 (fun e => by have := hSlt.out g e.symm; omega)) (hg7.block gr hltg7.2 (fun e => by have := hSlt.out gr e.symm; omega))
          have hgate7 := hgate6.grown hg7 (fun e => by have := hSlt.out _ e.symm; omega)
          have hbel7 := hbel6.grown hg7 hbel6.size (fun q hq => by have := hSlt.out q hq; omega)
          have hsz7 := hg7.size
          rw [← ivs_app] at hall7
          rw [← sgv_app, ← hseg.out] at hseen7
          have hlne : (cj ++ xj).length = N + Lj := by rw [List.length_append, hl2.out, hN.out]
          have hok7 := Lib.hid (allB_mem hok1.out)
          clear hall6 hseen6 hgate6 hlis6 hown6 hsrc6 hseg
          generalize cj ++ xj = cx at *
          obtain ⟨N7, hN7⟩ : ∃ N7, N + Lj = N7 := ⟨_, rfl⟩
          obtain ⟨M7, hM7⟩ : ∃ M7, M + new.length = M7 := ⟨_, rfl⟩
          rw [hN7] at hall7 hlne hNL
          rw [hM7] at hseen7 hM
          have hln7 := Lib.hid hlne
          clear hN7 hM7 hN hlne
          obtain ⟨Aa, ca, hV6, hSa⟩ := Sl.of_own hall7
          subst hV6
          have cn0 : w7.cell? ⟨w.heap.size, 0, none⟩ = some (.int .i64 G.B) := hgate7.cell 0
          have cn1 : w7.cell? ⟨w.heap.size, 1, none⟩ = some (.int .i64 G.H) := hgate7.cell 1
          have cn2 : w7.cell? ⟨w.heap.size, 2, none⟩ = some (.int .i64 G.L) := hgate7.cell 2
          have cn3 : w7.cell? ⟨w.heap.size, 3, none⟩ = some (.int .i64 G.R) := hgate7.cell 3
          have cn4 : w7.cell? ⟨w.heap.size, 4, none⟩ = some (.int .i64 G.F) := hgate7.cell 4
          have cn5 : w7.cell? ⟨w.heap.size, 5, none⟩ = some (.int .i64 G.D) := hgate7.cell 5
          have cn6 : w7.cell? ⟨w.heap.size, 6, none⟩ = some (.int .i64 G.X) := hgate7.cell 6
          go_wp2_with fail
          refine (hSgF.out Aa N7 ca cx _ hSa (by omega) hok7.out).mono ?_
          rintro e w8 ⟨v8, rfl, hown8, hb8⟩
          clear cn0 cn1 cn2 cn3 cn4 cn5 cn6
          have hall8 := own_below hall7 hb8
          have hseen8 := own_below hseen7 hb8
          have hltg8 := hlis7.lt
          have hlis8 := lis_same hlis7 (hb8.block g hltg8.1) (hb8.block gr hltg8.2)
          have hgate8 := hgate7.below hb8
          have hbel8 := hbel7.trans (hb8.mono hbel7.size)
          have hsz8 := hb8.size
          have hlb := hlis8.lb
          rw [hln7.out] at hlb
          have hsp := Lib.hid (st_sp (m := endM G cx))
          have hstA := Lib.hid (show (endM G cx).st = 1 ∨ (endM G cx).st = 2 ∨ (endM G cx).st = 3 from by rcases @Mid.stA (endM G cx) with h | h; exact .inl h; exact .inr (.inl h))
          clear hall7 hseen7 hgate7 hlis7
          go_wp2_with fail
          refine (At_any g _ G _ _ _ _ _ _ hlb hstA.out).mono ?_
          rintro e w9 ⟨q9, rfl, rfl⟩
          rw [hsp.out]
          have hrs : rsg false G cx = segs G cx := rfl
          rw [hrs] at hown8
          obtain ⟨M8, hM8⟩ : ∃ M8, (segs G cx).length = M8 := ⟨_, rfl⟩
          rw [hM8] at hown8
          have hM87 : M8 = M7 := by have := hseen8.1; rw [sgv_len, hM8] at this; omega
          subst hM87
          clear hM8 hlb
          obtain ⟨Ab, cb, hS7, hGa⟩ := Sg.of_own hseen8
          subst hS7
          obtain ⟨Ac, cc, hv8, hGb⟩ := Sg.of_own hown8
          subst hv8
          generalize (endM G cx).sp = sp at *
          go_wp2_with fail
          refine (SameSegments_any _ _ _ _ _ _ _ _ _ (hGa.drewN q9) (hGb.drewN q9)).mono ?_
          rintro e w10 ⟨k10, he, rfl⟩
          rw [sameP_yes rfl] at he
          subst he
          rw [dr_add]
          have hfin : LsR w w3 g gr G cx N7 M8 (.slice Aa N7 ca) (.slice Ab M8 cb) (w8.drewN (q9 + k10)) := ⟨hall8, hseen8, hlis8.drewN _, hgate8.drewN _, bel_drewN hbel8 _, Nat.le_trans hsz (by show wr.heap.size ≤ w8.heap.size; omega)⟩
          clear hall8 hseen8 hlis8 hgate8 hbel8 hGa hGb hSa hown8
          generalize w8.drewN (q9 + k10) = w11 at *
          cases sp
          all_goals
            go_wp2
            go_roundw
            case rel => exact ⟨j + 1, N7, M8, _, _, by omega, by go_num, rfl, rfl, by rw [hnext.out]; exact hfin⟩
            case measure => simp [intOf]; omega
        · have hjk : j = k := by omega
          subst hjk
          have hl1 := hlen.out j (Nat.le_refl _)
          have hl3 := hall.1
          rw [ivs_len] at hl3
          have hNe : (cat X j).length = N := by omega
          have hN2 : N ≤ 2000 := by omega
          have hokc := Lib.hid (allB_mem (hok.out j (Nat.le_refl _)))
          have hM0 := hseen.1
          rw [sgv_len] at hM0
          have hsgl := segs_len G (cat X j)
          have hM : M ≤ 2000 := by omega
          have hVlt := Lib.hid hall.lt
          have hSlt := Lib.hid hseen.lt
          clear hl1 hl3 hM0 hsgl hs2 h2000
          generalize cat X j = cx at *
          have hN := Lib.hid hNe
          clear hNe
          go_wp2_with fail
          refine (Close_any g gr _ _ G hG hlis).mono ?_
          rintro e w5 ⟨A5, c5, rfl, hsrc5, hm5, hfr5, hC5, hT5⟩
          have hall5 := own_two hall hT5 hlt3.1 hlt3.2
          have hseen5 := own_two hseen hT5 hlt3.1 hlt3.2
          have hgate5 := hT5.blk hgate (by omega) (by omega)
          have hbel5 := hbel.trans (hT5.below (B := w.heap.size) (by omega) (by omega) hbel.size)
          have hsz5 := hT5.size
          have hlt5 : g < w5.heap.size := Blk.lt hC5
          have hrs : rsg true G cx = segs G cx ++ lastS G cx := rfl
          obtain ⟨m5, hm5e⟩ : ∃ m5, (lastS G cx).length = m5 := ⟨_, rfl⟩
          rw [hm5e] at hm5 hsrc5 ⊢
          obtain ⟨M9, hM9⟩ : ∃ M9, (segs G cx ++ lastS G cx).length = M9 := ⟨_, rfl⟩
          have hMm : M + m5 = M9 := by
            have h1 := hseen5.1
            rw [sgv_len] at h1
            rw [← hM9, List.length_append, hm5e]
            omega
          have hmm := Lib.hid hMm
          clear hall hseen hgate hlis hMm hm5e
          obtain ⟨Aa, ca, hV6, hSa⟩ := Sl.of_own hall5
          subst hV6
          have cn0 : w5.cell? ⟨w.heap.size, 0, none⟩ = some (.int .i64 G.B) := hgate5.cell 0
          have cn1 : w5.cell? ⟨w.heap.size, 1, none⟩ = some (.int .i64 G.H) := hgate5.cell 1
          have cn2 : w5.cell? ⟨w.heap.size, 2, none⟩ = some (.int .i64 G.L) := hgate5.cell 2
          have cn3 : w5.cell? ⟨w.heap.size, 3, none⟩ = some (.int .i64 G.R) := hgate5.cell 3
          have cn4 : w5.cell? ⟨w.heap.size, 4, none⟩ = some (.int .i64 G.F) := hgate5.cell 4
          have cn5 : w5.cell? ⟨w.heap.size, 5, none⟩ = some (.int .i64 G.D) := hgate5.cell 5
          have cn6 : w5.cell? ⟨w.heap.size, 6, none⟩ = some (.int .i64 G.X) := hgate5.cell 6
          go_wp2_with fail
          refine (hSgT.out Aa N ca cx _ hSa (by omega) hokc.out).mono ?_
          rintro e w8 ⟨v8, rfl, hown8, hb8⟩
          clear cn0 cn1 cn2 cn3 cn4 cn5 cn6
          have hall8 := own_below hall5 hb8
          have hseen8 := own_below hseen5 hb8
          have hC8 : Closed w8 g cx.length := Blk.below hC5 hb8
          have hbel8 := hbel5.trans (hb8.mono hbel5.size)
          have hsrc8 := hsrc5.below hb8
          have hsz8 := hb8.size
          have hlt8 : g < w8.heap.size := by omega
          rw [hrs, hM9] at hown8
          have hM9' := Lib.hid hM9
          clear hall5 hseen5 hC5 hgate5 hsrc5 hSa hrs hM9
          go_wp2_with (at_builtin; refine wpList_append_want (by rfl) (.tmp 155) (.tmp 156) 66 rfl w3.heap.size 84 j0 (.agg #[.int .i64 0, .int .i64 0]) 2 16 Try.underlying66 hj0 hy0 hy1 hy2 rfl (by decide) S M (sgv (segs G cx)) rfl hseen8 A5 m5 c5 (sgv (lastS G cx)) rfl hsrc8 ?k2 ?k3 ?k4 ?_)
          case k2 => unfold maxLen; omega
          case k3 => omega
          case k4 => omega
          intro S9 w9 hseen9 hg9 _
          have hown9 := own_grown hown8 hg9 (fun q hq => by have := hSlt.out q hq; omega)
          have hC9 : Closed w9 g cx.length := Blk.grown hC8 hg9 (fun e => by have := hSlt.out g e.symm; omega)
          have hbel9 := hbel8.grown hg9 hbel8.size (fun q hq => by have := hSlt.out q hq; omega)
          rw [← sgv_app, hmm.out] at hseen9
          clear hown8 hseen8 hall8 hsrc8
          generalize segs G cx ++ lastS G cx = ps at *
          obtain ⟨Ab, cb, hS7, hGa⟩ := Sg.of_own hseen9
          subst hS7
          obtain ⟨Ac, cc, hv8, hGb⟩ := Sg.of_own hown9
          subst hv8
          go_wp2_with fail
          refine (SameSegments_any _ _ _ _ _ _ _ _ _ hGa hGb).mono ?_
          rintro e w10 ⟨k10, he, rfl⟩
          rw [sameP_yes rfl] at he
          subst he
          have hC10 : Closed (w9.drewN k10) g cx.length := Blk.drewN hC9 _
          have hbel10 := bel_drewN hbel9 k10
          clear hGa hGb hown9 hseen9 hC9 hbel9
          generalize w9.drewN k10 = w10 at *
          rw [hN.out] at hC10
          have hLB := hC10
          unfold Closed at hLB
          go_wp2_with fail
          refine (At_any g _ G0 _ _ _ _ _ _ hLB (.inr (.inr rfl))).mono ?_
          rintro e w11 ⟨q11, rfl, rfl⟩
          have hC11 : Closed (w10.drewN q11) g N := Blk.drewN hC10 _
          have hbel11 := bel_drewN hbel10 q11
          clear hLB hC10
          generalize w10.drewN q11 = w11 at *
          have hys := hSw.out w11 hbel11
          have hcy := hcyA.out
          cases hay : allB (-32768) 32767 ys
          all_goals
            rw [hay] at hcy
            have hcy2 := Lib.hid hcy
            have hay2 := Lib.hid hay
            clear hcy hay
            go_wp2_with fail
            refine (Feed_closed g _ _ _ ys N _ hC11 hys _ hcy2.out).mono ?_
            rintro e w12 ⟨rfl, rfl⟩
            go_wp2_with fail
            refine (Close_closed g _ N hC11).mono ?_
            rintro e w12 ⟨rfl, rfl⟩
            go_wp2_with fail
            refine (All_any _ _ _ _ _ _ _ hys).mono ?_
            rintro e w12 ⟨he, rfl⟩
            rw [hay2.out] at he
            subst he
            go_wp2_with fail
            refine (known_any _).mono ?_
            rintro e wf ⟨rfl, hbf⟩
            go_wp2
            go_ret
            exact ⟨rfl, hbel11.trans (hbf.mono hbel11.size)⟩

theorem listens_any (A0 : Option Addr) (n0 c0 : Nat) (B : Nat → Option Addr) (L C : Nat → Nat) (X : Nat → List Int) (b h l r f d x : Int) (A2 : Option Addr) (n2 c2 : Nat) (ys : List Int) (w : World) (hR : Rs w A0 n0 c0 B L C X) (hS2 : Sl .i64 w A2 n2 c2 ys) :
    Calls Try.prog 16 #[.slice A0 n0 c0, gtV b h l r f d x, .slice A2 n2 c2] w (YesJ w) := by
  by_cases hq : (∀ r, r < n0 → allB (-32768) 32767 (X r) = true) ∧ n0 ≤ 30 ∧ sumL L n0 ≤ 2000 ∧ n2 ≤ 100
  · cases hv : gtB b h l r f d x with
    | false => exact ls_gate A0 n0 c0 B L C X A2 n2 c2 ys b h l r f d x w hR hS2 hq.1 hq.2.1 hq.2.2.1 hq.2.2.2 hv
    | true =>
      obtain ⟨G, hG, rfl, rfl, rfl, rfl, rfl, rfl, rfl⟩ := gtB_ok hv
      exact ls_ok A0 n0 c0 B L C X A2 n2 c2 ys G hG w hR hS2 hq.1 hq.2.1 hq.2.2.1 hq.2.2.2
  · exact ls_early A0 n0 c0 B L C X A2 n2 c2 ys b h l r f d x w hR hS2 hq
end Go.Proofs.Ytnkkbohfhinemaa
