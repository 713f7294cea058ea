/- Weighed frames: the law's walk. -/
import Derived.Test.YtnkkbohfhinemaaG2
import Derived.Test.YtnkkbohfhinemaaK3
namespace Go.Proofs.Ytnkkbohfhinemaa
open Go.RowKit

abbrev YesG (w : World) (e : Ending) (w' : World) : Prop := e = .returned (.bool true) ∧ Below w.heap.size w w'

set_option maxHeartbeats 1600000 in
theorem wei_long (A : Option Addr) (n c : Nat) (xs : List Int) (kind : Int) (w : World) (h : Sl .i64 w A n c xs) (hn : 5000 < n) :
    Calls Try.prog 13 #[.slice A n c, .int .i64 kind] w (YesG w) := by
  have hcap := h.cap
  have htop := h.top
  go_enter Try.func13, Try.ntmps13
  go_wp2_with (go_at_call 22; refine (known_any _).mono ?_; rintro e w7 ⟨rfl, hb7⟩)
  go_ret
  exact ⟨rfl, hb7⟩

set_option maxHeartbeats 1600000 in
theorem wei_bad (A : Option Addr) (n c : Nat) (xs : List Int) (kind : Int) (w : World) (h : Sl .i64 w A n c xs) (hn : n ≤ 5000) (hC : wgC xs kind = 2) (hb : wnC kind n = 2 ∨ (wnC kind n = 0 ∧ valsB xs = false)) :
    Calls Try.prog 13 #[.slice A n c, .int .i64 kind] w (YesG w) := by
  have hcap := h.cap
  have htop := h.top
  have hL := Lib.hid (show wgL xs kind = [] by unfold wgL; rw [hC]; rfl)
  have hC := Lib.hid hC
  have hbad := Lib.hid hb
  clear hb
  go_enter Try.func13, Try.ntmps13
  go_wp2_with fail
  refine (Weigh_any _ _ _ _ _ _ h).mono ?_
  rintro e w1 ⟨A1, m1, c1, he, hS1, hb1⟩
  rw [hC.out] at he
  rw [hL.out] at hS1
  have hz := hS1.len
  change 0 = m1 at hz
  subst hz
  subst he
  go_wp2_with fail
  refine (RWeigh_bad _ _ _ _ _ _ (h.below hb1) hbad.out).mono ?_
  rintro e w2 ⟨A2, m2, c2, rfl, hS2, hb2⟩
  have hb12 := hb1.trans (hb2.mono hb1.size)
  go_wp2_with fail
  refine (known_any _).mono ?_
  rintro e w7 ⟨rfl, hb7⟩
  go_wp2
  go_ret
  exact ⟨rfl, hb12.trans (hb7.mono hb12.size)⟩

set_option maxHeartbeats 3200000 in
theorem wei_ok (A : Option Addr) (n c : Nat) (xs : List Int) (kind : Int) (w : World) (h : Sl .i64 w A n c xs) (hn : n ≤ 5000) (hC : wgC xs kind = 0) (hv : valsB xs = true)
    (hw1 : 1 ≤ (n : Int)) (hw2 : (n : Int) ≤ 4096) (hk1 : 1 ≤ kind) (hk2 : kind ≤ 3) (hwC : wnC kind n = 0) (hwL : wnL kind n = tab n (wAt kind n)) :
    Calls Try.prog 13 #[.slice A n c, .int .i64 kind] w (YesG w) := by
  have hcap := h.cap
  have htop := h.top
  have hl := Lib.hid h.len
  have hT := Lib.hid (show tab n (fun i => rnd (xs.getD i 0 * wAt kind n i) 4096) = tab xs.length (wgAt xs kind) by rw [hl.out]; exact tab_congr fun i _ => by unfold wgAt; rw [hl.out])
  have hL := Lib.hid (show wgL xs kind = tab xs.length (wgAt xs kind) by unfold wgL; rw [hC]; rfl)
  have hC := Lib.hid hC
  have hwC := Lib.hid hwC
  have hwL := Lib.hid hwL
  have hv := Lib.hid hv
  have hE := Lib.hid (show enC xs = 2 ∨ (enC xs = 0 ∧ enC (tab xs.length (wgAt xs kind)) = 0 ∧ enV (tab xs.length (wgAt xs kind)) ≤ enV xs) by
    by_cases h0 : enC xs = 0
    · right
      have hall : allB (-65536) 65535 xs = true := by
        rcases chk_cases (-65536) 65535 xs with ⟨_, h2⟩ | ⟨_, ha, _⟩ | ⟨_, _, h2⟩
        · unfold enC at h0; rw [h2] at h0; cases h0
        · exact ha
        · unfold enC at h0; rw [h2] at h0; cases h0
      have hall2 := wg_all hk1 hk2 hall
      have h2 : enC (tab xs.length (wgAt xs kind)) = 0 := by
        unfold enC chk
        rw [if_neg (by rw [tab_len, hl.out]; omega), hall2]; rfl
      refine ⟨h0, h2, ?_⟩
      unfold enV
      rw [if_pos h0, if_pos h2]
      exact wg_en hk1 hk2
    · left
      rcases chk_cases (-65536) 65535 xs with ⟨h2, _⟩ | ⟨_, _, h2⟩ | ⟨_, _, h2⟩
      · rw [hl.out] at h2; omega
      · exact absurd h2 h0
      · exact h2)
  go_enter Try.func13, Try.ntmps13
  go_wp2_with fail
  refine (Weigh_any _ _ _ _ _ _ h).mono ?_
  rintro e w1 ⟨A1, m1, c1, he, hS1, hb1⟩
  rw [hC.out] at he
  rw [hL.out] at hS1
  subst he
  have h1 := h.below hb1
  go_wp2_with fail
  refine (RWeigh_ok _ _ _ _ _ _ h1 (by omega) (by omega) hk1 hk2 hv.out hwL.out hwC.out).mono ?_
  rintro e w2 ⟨A2, m2, c2, rfl, hS2, hb2⟩
  rw [hT.out] at hS2
  have hb12 := hb1.trans (hb2.mono hb1.size)
  have h2 := h.below hb12
  have hS12 := hS1.below hb2
  go_wp2_with fail
  refine (Same_any _ _ _ _ _ _ _ _ _ hS12 hS2).mono ?_
  rintro e w3 ⟨k3, he, rfl⟩
  rw [sameB_yes rfl] at he
  subst he
  have hb3 := bel_drewN hb12 k3
  have h3 := h2.drewN k3
  have hS3 := hS12.drewN k3
  generalize w2.drewN k3 = w3 at *
  go_wp2_with fail
  refine (Energy_any _ _ _ _ _ h3).mono ?_
  rintro e w4 ⟨rfl, rfl⟩
  go_wp2_with fail
  refine (Energy_any _ _ _ _ _ hS3).mono ?_
  rintro e w5 ⟨he, rfl⟩
  rcases hE.out with h0 | ⟨h0, h1', h2'⟩
  · clear hE
    rw [h0]
    subst he
    generalize enV xs = vx at *
    generalize enC (tab xs.length (wgAt xs kind)) = ey at *
    generalize enV (tab xs.length (wgAt xs kind)) = vy at *
    clear h0
    go_wp2_with fail
    refine (known_any _).mono ?_
    rintro e w7 ⟨rfl, hb7⟩
    go_wp2
    go_ret
    exact ⟨rfl, hb3.trans (hb7.mono hb3.size)⟩
  · clear hE
    rw [h1'] at he
    rw [h0]
    subst he
    have hd : decide (enV (tab xs.length (wgAt xs kind)) ≤ enV xs) = true := decide_eq_true h2'
    clear h0 h1' h2'
    generalize enV xs = vx at *
    generalize enV (tab xs.length (wgAt xs kind)) = vy at *
    go_wp2_with fail
    refine (known_any _).mono ?_
    rintro e w7 ⟨rfl, hb7⟩
    go_wp2
    go_ret
    exact ⟨rfl, hb3.trans (hb7.mono hb3.size)⟩

theorem weighs_any (A : Option Addr) (n c : Nat) (xs : List Int) (kind : Int) (w : World) (h : Sl .i64 w A n c xs) :
    Calls Try.prog 13 #[.slice A n c, .int .i64 kind] w (YesG w) := by
  rcases Nat.lt_or_ge 5000 n with hn | hn
  · exact wei_long A n c xs kind w h hn
  · have hl := h.len
    rcases wn_cases kind n with ⟨h1, h2⟩ | ⟨h1, h2, h3, h4, h5, h6⟩
    · refine wei_bad A n c xs kind w h hn ?_ (.inl h1)
      unfold wgC
      rcases chk_cases (-2147483647) 2147483647 xs with ⟨h7, _⟩ | ⟨_, _, hk⟩ | ⟨_, _, hk⟩
      · omega
      · rw [show chkV xs = 0 from hk, if_pos rfl, hl]; exact h1
      · rw [show chkV xs = 2 from hk]; rfl
    · cases hv : valsB xs with
      | false =>
        refine wei_bad A n c xs kind w h hn ?_ (.inr ⟨h5, hv⟩)
        unfold wgC
        rw [show chkV xs = 2 by unfold chkV chk; rw [if_neg (by omega), show allB (-2147483647) 2147483647 xs = false from hv]; rfl]; rfl
      | true =>
        refine wei_ok A n c xs kind w h hn ?_ hv h1 h2 h3 h4 h5 h6
        unfold wgC
        rw [show chkV xs = 0 by unfold chkV chk; rw [if_neg (by omega), show allB (-2147483647) 2147483647 xs = true from hv]; rfl, if_pos rfl, hl]; exact h5
end Go.Proofs.Ytnkkbohfhinemaa
