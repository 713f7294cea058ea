/- The document's own weighed frames. -/
import Derived.Test.YtnkkbohfhinemaaG0
import Derived.Test.YtnkkbohfhinemaaF2
import Derived.IntWalk
import Derived.Deep.RegionHeld3
import Derived.Deep.AppendLies
namespace Go.Proofs.Ytnkkbohfhinemaa
open Go.RowKit

theorem sl_cell {w : World} {ad : Addr} {n c k : Nat} {xs : List Int} {x : Int} (h : Sl .i64 w (some ad) n c xs) (hk : k < n) (hx : xs.getD k 0 = x) : w.cell? (ad.add k) = some (.int .i64 x) := by
  obtain ⟨ad2, y, e, hc, hy⟩ := h.at_ hk
  injection e with e
  subst e
  rw [hc, ← hx, ← hy.out]

set_option maxHeartbeats 4000000 in
set_option maxRecDepth 100000 in
theorem RWeigh_ok (A : Option Addr) (n c : Nat) (xs : List Int) (kind : Int) (w : World) (h : Sl .i64 w A n c xs) (hn1 : 1 ≤ n) (hn2 : n ≤ 4096) (hk1 : 1 ≤ kind) (hk2 : kind ≤ 3) (hall : valsB xs = true)
    (hL : wnL kind n = tab n (wAt kind n)) (hC : wnC kind n = 0) :
    Calls Try.prog 44 #[.slice A n c, .int .i64 kind] w (RetLB w (tab n (fun i => rnd (xs.getD i 0 * wAt kind n i) 4096)) true) := by
  obtain ⟨i0, hi, hz0, hz1, hz2⟩ := info_parts info_int
  have hl := Lib.hid h.len
  have hcap := h.cap
  have htop := h.top
  have hL := Lib.hid hL
  have hC := Lib.hid hC
  have hall2 := Lib.hid hall
  go_enter Try.func44, Try.ntmps44
  go_wp2_with fail
  refine (RWindow_any _ _ _).mono ?_
  rintro e w1 ⟨A1, m1, c1, he, hW, hb1⟩
  rw [hC.out] at he
  rw [hL.out] at hW
  have hl1 := hW.len
  rw [tab_len] at hl1
  subst hl1
  subst he
  have h1 := h.below hb1
  go_wp2_with fail
  refine (Values_any _ _ _ _ _ h1).mono ?_
  rintro e w2 ⟨he, rfl⟩
  rw [hall2.out] at he
  subst he
  have hcw := hW.cap
  have htw := hW.top
  go_wp2
  go_loopw [8, 9] (fun ov iv wr => ∃ (k : Nat) (V : Value), iv = .int .i64 k ∧ V = ov ∧ k ≤ n ∧ wr.ownsRow w1.heap.size 3 1 V k (ivs .i64 (tab k (fun i => rnd (xs.getD i 0 * wAt kind n i) 4096))) ∧ Below w1.heap.size w1 wr) (fun _ iv _ => n - (intOf iv).toNat)
  case atStart => exact ⟨0, _, rfl, rfl, Nat.zero_le _, World.ownsRow_nil _ _ _ _, Below.refl _ _⟩
  case round =>
    obtain ⟨k, V, rfl, rfl, hkn, hown, hbel⟩ := hrel
    rcases Nat.lt_or_ge k n with hlt | hge
    · have hr := h1.below hbel
      have hWr := hW.below hbel
      obtain ⟨ad, x, rfl, hcx, hx⟩ := hr.at_ hlt
      obtain ⟨ad2, y, rfl, hcy, hy⟩ := hWr.at_ hlt
      rw [tab_getD hlt] at hy
      have hxb := allB_get (show allB (-2147483647) 2147483647 xs = true from hall2.out) (by rw [hl.out]; exact hlt) hx.out
      have hx1 := hxb.1
      have hx2 := hxb.2
      have hyb := wAt_bd hk1 hk2 hlt
      rw [hy.out] at hyb
      have hy1 := hyb.1
      have hy2 := hyb.2
      have hp := mul_bd (a := y) (b := x) (m := 4096) (q := 2147483647) hy1 hy2 hx1 hx2 (by omega)
      rw [Int.mul_comm y x] at hp
      have hp1 := hp.1
      have hp2 := hp.2
      have hyv := Lib.hid (show rnd (x * y) 4096 = rnd (xs.getD k 0 * wAt kind n k) 4096 by rw [hx.out, hy.out])
      clear hxb hyb hp
      go_wp2
      have i1 : (k : Int) < (n : Int) := by omega
      have e1 : IntKind.i64.wrap (x * y) = x * y := IntWalk.i64_in _ (by omega)
      have hKeep := Lib.hid (fun (wx : World) (hb : Below w1.heap.size w1 wx) => show wx.cell? (ad.add k) = some (.int .i64 x) ∧ wx.cell? (ad2.add k) = some (.int .i64 y) from ⟨sl_cell (h1.below hb) hlt hx.out, sl_cell (hW.below hb) hlt ((tab_getD hlt).trans hy.out)⟩)
      have hown2 : wr.drew.ownsRow w1.heap.size 3 1 V k (ivs .i64 (tab k (fun i => rnd (xs.getD i 0 * wAt kind n i) 4096))) := hown
      have hbel2 : Below w1.heap.size w1 wr.drew := bel_drewN hbel 1
      have hsz2 : w1.heap.size ≤ wr.drew.heap.size := hbel2.size
      have hsz3 : w1.heap.size ≤ wr.heap.size := hbel.size
      have hrow := Lib.hid (fun k (hk : V.ownBlock = some k) => (hown2.lt k hk).1)
      go_region_held3 (fun wx => wx.cell? (ad.add k) = some (.int .i64 x) ∧ wx.cell? (ad2.add k) = some (.int .i64 y)) (first | exact hKeep.out _ hbel2 | exact hKeep.out _ (hbel2.alloc hsz2 _) | exact hKeep.out _ hb5 | exact hKeep.out _ hbel | go_keep)
        (first
          | (go_at_call 74; refine (Round_any _ _ _ (by omega) (by omega) (by omega) (by omega)).mono ?_; rintro e w' ⟨rfl, rfl⟩)
          | (refine step_append_lies _ (by rfl) _ _ _ (by rfl) w1.heap.size 3 i0 (.int .i64 0) 1 8 Try.underlying22 hi hz0 hz1 hz2 (by rfl) (by decide) V k (ivs .i64 (tab k (fun i => rnd (xs.getD i 0 * wAt kind n i) 4096))) (by rfl) (hown2.alloc _) ⟨wr.heap.size, 0, none⟩ 1 1 [.int .i64 (rnd (x * y) 4096)] (by rfl) (by rfl) (news_one _ _ _) (oneCell1 _) (by omega) (by unfold maxLen; omega) (by omega) (by simp; omega) _ rfl ?_; intro g cap w5 hown5 hgrow hat hlt5; have hb5 : Below w1.heap.size w1 w5 := (hbel2.alloc hsz2 _).grown hgrow (by simp; omega) hrow.out))
      have hown6 : w5.ownsRow w1.heap.size 3 1 (.slice (some ⟨g, 0, none⟩) (k + 1) cap) (k + 1) (ivs .i64 (tab (k + 1) (fun i => rnd (xs.getD i 0 * wAt kind n i) 4096))) := by rw [tab_succ, ivs_snoc, ← hyv.out]; exact hown5
      clear e1 i1 hown5
      go_wp2
      go_roundw
      case rel => exact ⟨k + 1, _, by go_num, rfl, by omega, hown6, hb5⟩
      case measure => simp [intOf]; omega
    · have hkn' : k = n := by omega
      subst hkn'
      obtain ⟨A2, c2, rfl, hS2⟩ := Sl.of_own hown
      go_wp2
      go_ret2
      exact ⟨A2, _, c2, rfl, hS2, hb1.trans (hbel.mono hb1.size)⟩
end Go.Proofs.Ytnkkbohfhinemaa
