/- Frames whose size is the step: the law's walk. -/
import Derived.Test.YtobobbhifajhmaaP7
import Derived.Test.YtobobbhifajhmaaA0
namespace Go.Proofs.Ytobobbhifajhmaa
open Go.RowKit

abbrev YesQ (w : World) (e : Ending) (w' : World) : Prop := e = .returned (.bool true) ∧ Below w.heap.size w w'
/-- element i, 0 behind the end -/
def gD (xs : List Int) (i : Nat) : Int := xs.getD i 0
theorem tab_add (a b : Nat) (f : Nat → Int) : tab (a + b) f = tab a f ++ tab b (fun i => f (a + i)) := by
  induction b with
  | zero => rw [tab_zero, List.append_nil]; rfl
  | succ b ih => rw [← Nat.add_assoc, tab_succ, ih, tab_succ, List.append_assoc]
theorem tab_take {n U : Nat} (h : n ≤ U) (f : Nat → Int) : (tab U f).take n = tab n f := by
  obtain ⟨d, rfl⟩ : ∃ d, U = n + d := ⟨U - n, by omega⟩
  rw [tab_add]
  exact List.take_left' (tab_len _ _)
theorem tab_drop {n U : Nat} (h : n ≤ U) (f : Nat → Int) : (tab U f).drop n = tab (U - n) (fun i => f (n + i)) := by
  obtain ⟨d, rfl⟩ : ∃ d, U = n + d := ⟨U - n, by omega⟩
  rw [tab_add, show n + d - n = d by omega]
  exact List.drop_left' (tab_len _ _)
theorem flat_take {xs : List Int} {n U : Nat} (hn : xs.length = n) (h : n ≤ U) : (tab U (gD xs)).take n = xs := by
  subst hn
  rw [tab_take h]
  exact tab_self xs
theorem flat_drop {xs : List Int} {n U : Nat} (hn : xs.length = n) (h : n ≤ U) : allB 0 0 ((tab U (gD xs)).drop n) = true := by
  rw [tab_drop h]
  unfold allB
  rw [List.all_eq_true]
  intro x hx
  simp only [tab, List.mem_map] at hx
  obtain ⟨i, _, rfl⟩ := hx
  rw [show gD xs (n + i) = 0 from getD_out (by omega)]
  decide
theorem Rs.drewN {w : World} {A : Option Addr} {n c : Nat} {B : Nat → Option Addr} {L C : Nat → Nat} {X : Nat → List Int} (h : Rs w A n c B L C X) (i : Nat) : Rs (w.drewN i) A n c B L C X := h.below (bel_drewN (Below.refl _ _) i)
theorem Rs.take {w : World} {A : Option Addr} {n c : Nat} {B : Nat → Option Addr} {L C : Nat → Nat} {X : Nat → List Int} (h : Rs w A n c B L C X) {m : Nat} (hm : m ≤ n) : Rs w A m c B L C X :=
  ⟨by have := h.cap; omega, h.top, fun hp => by
    obtain ⟨ad, e, hc⟩ := h.cell (by omega)
    exact ⟨ad, e, fun r hr => hc r (by omega)⟩, fun r hr => h.row r (by omega), fun r hr => h.nil r (by omega), fun r hr => h.few r (by omega)⟩
/-- how many frames there are, with zeros behind and without -/
theorem pieces_cnt {n s : Nat} (hs : 1 ≤ s) : n ≤ fcount n s s true * s ∧ fcount n s s true * s < n + s ∧ fcount n s s false ≤ fcount n s s true ∧ fcount n s s false = n / s := by
  have h1 : n ≤ fcount n s s true * s := by
    rcases Nat.lt_or_ge (fcount n s s true * s) n with h | h
    · exact absurd ((fcount_at (pad := true) hs hs).2 ⟨h, .inl rfl⟩) (by omega)
    · exact h
  refine ⟨h1, ?_, ?_, ?_⟩
  · rcases Nat.eq_zero_or_pos (fcount n s s true) with h | h
    · rw [h]; omega
    · have := ((fcount_at (n := n) (pad := true) hs hs (t := fcount n s s true - 1)).1 (by omega)).1
      have h2 : fcount n s s true * s = (fcount n s s true - 1) * s + s := by
        obtain ⟨k, hk⟩ : ∃ k, fcount n s s true = k + 1 := ⟨fcount n s s true - 1, by omega⟩
        rw [hk, Nat.add_sub_cancel, Nat.add_mul]; omega
      omega
  · rcases Nat.lt_or_ge (fcount n s s true) (fcount n s s false) with h | h
    · have := ((fcount_at (n := n) (pad := false) hs hs).1 h).1
      omega
    · exact h
  · unfold fcount
    rw [if_neg (by decide)]
    by_cases h : n < s
    · rw [if_pos h, Nat.div_eq_of_lt h]
    · rw [if_neg h]
      exact (Nat.div_eq_sub_div (by omega) (by omega)).symm
theorem pieces_ok {xs : List Int} {n s : Nat} (pad : Bool) (hl : xs.length = n) (hn : n ≤ 2000) (hs : 1 ≤ s) (hs2 : s ≤ 500) (hv : valsB xs = true) : frC xs (s : Int) (s : Int) pad = 0 := by
  unfold frC
  have hc : chkV xs = 0 := by
    unfold chkV chk
    rw [if_neg (by omega), show allB (-2147483647) 2147483647 xs = true from hv]
    rfl
  have h1 : fcount n s s pad * s ≤ 2000 * 500 := Nat.mul_le_mul (Nat.le_trans (fcount_le hs hs) hn) hs2
  rw [if_pos hc, okB_iff.2 ⟨by omega, by omega⟩, Bool.true_and, if_pos rfl, Int.toNat_natCast, hl, if_neg (by omega)]

set_option maxHeartbeats 1600000 in
set_option maxRecDepth 100000 in
theorem pi_skip (A : Option Addr) (n c : Nat) (xs : List Int) (size : Int) (w : World) (h : Sl .i64 w A n c xs) (hk : 2000 < n ∨ (¬ 2000 < n ∧ size < 1) ∨ (¬ 2000 < n ∧ ¬ size < 1 ∧ 500 < size) ∨ (¬ 2000 < n ∧ ¬ size < 1 ∧ ¬ 500 < size ∧ valsB xs = false)) :
    Calls Try.prog 11 #[.slice A n c, .int .i64 size] w (YesQ w) := by
  have hV := Lib.hid (Values_any A n c xs w h)
  rcases hk with a1 | ⟨a1, a2⟩ | ⟨a1, a2, a3⟩ | ⟨a1, a2, a3, a4⟩
  case' inl =>
    have d1 : decide (2000 < (n : Int)) = true := decide_eq_true (by omega)
  case' inr.inl =>
    have d1 : decide (2000 < (n : Int)) = false := decide_eq_false (by omega)
    have d2 : decide (size < 1) = true := decide_eq_true a2
  case' inr.inr.inl =>
    have d1 : decide (2000 < (n : Int)) = false := decide_eq_false (by omega)
    have d2 : decide (size < 1) = false := decide_eq_false a2
    have d3 : decide (500 < size) = true := decide_eq_true a3
  case' inr.inr.inr =>
    have d1 : decide (2000 < (n : Int)) = false := decide_eq_false (by omega)
    have d2 : decide (size < 1) = false := decide_eq_false a2
    have d3 : decide (500 < size) = false := decide_eq_false a3
    rw [a4] at hV
    clear a4
  all_goals
    go_enter Try.func11, Try.ntmps11
    go_wp2_with (first
      | (go_at_call 40; refine hV.out.mono ?_; rintro e w' ⟨rfl, rfl⟩)
      | (go_at_call 22; refine (known_any _).mono ?_; rintro e w7 ⟨rfl, hb7⟩))
    go_ret
    exact ⟨rfl, hb7⟩

set_option maxHeartbeats 4000000 in
set_option maxRecDepth 100000 in
theorem pi_ok (A : Option Addr) (n c s : Nat) (xs : List Int) (w : World) (h : Sl .i64 w A n c xs) (hn : n ≤ 2000) (hs1 : 1 ≤ s) (hs2 : s ≤ 500) (hv : valsB xs = true) :
    Calls Try.prog 11 #[.slice A n c, .int .i64 (s : Int)] w (YesQ w) := by
  obtain ⟨i0, hi, hz0, hz1, hz2⟩ := info_parts info_int
  have hcap := h.cap
  have htop := h.top
  have hl := Lib.hid h.len
  have hV := Lib.hid (Values_any A n c xs w h)
  rw [hv] at hV
  have hF1 := Lib.hid (fun w9 (h9 : Sl .i64 w9 A n c xs) => Frames_any A n c xs (s : Int) (s : Int) true w9 h9)
  have hF2 := Lib.hid (fun w9 (h9 : Sl .i64 w9 A n c xs) => Frames_any A n c xs (s : Int) (s : Int) false w9 h9)
  rw [pieces_ok true h.len hn hs1 hs2 hv, if_pos rfl, Int.toNat_natCast] at hF1
  rw [pieces_ok false h.len hn hs1 hs2 hv, if_pos rfl, Int.toNat_natCast] at hF2
  obtain ⟨p1, p2, p3, p4⟩ := pieces_cnt (n := n) hs1
  have p0 := fcount_le (n := n) (pad := true) hs1 hs1
  generalize fcount n s s true = K at *
  generalize fcount n s s false = K2 at *
  have hK2 : (n : Int).tdiv (s : Int) = (K2 : Int) := by
    rw [Int.tdiv_eq_ediv_of_nonneg (by omega), p4]; rfl
  obtain ⟨U, hU⟩ : ∃ U, K * s = U := ⟨_, rfl⟩
  have hU' := Lib.hid hU
  rw [hU] at p1 p2
  clear hv hU p4
  have d1 : decide (2000 < (n : Int)) = false := decide_eq_false (by omega)
  have d2 : decide ((s : Int) < 1) = false := decide_eq_false (by omega)
  have d3 : decide (500 < (s : Int)) = false := decide_eq_false (by omega)
  go_enter Try.func11, Try.ntmps11
  go_wp2_with (go_at_call 40; refine hV.out.mono ?_; rintro e w' ⟨rfl, rfl⟩)
  refine (hF1.out _ h).mono ?_
  rintro e w1 ⟨A1, c1, B1, L1, C1, rfl, hR1, hb1⟩
  go_wp2_with fail
  refine (hF2.out _ (h.below hb1)).mono ?_
  rintro e w2 ⟨A2, c2, B2, L2, C2, rfl, hR2, hb2⟩
  have hR12 := hR1.below hb2
  have hb12 := hb1.trans (hb2.mono hb1.size)
  clear d1 d2 d3
  go_wp2
  go_loopw [9, 10] (fun ov iv wr => ∃ (t : Nat) (V : Value), V = ov ∧ iv = .int .i64 t ∧ t ≤ K ∧ wr.ownsRow w2.heap.size 3 1 V (t * s) (ivs .i64 (tab (t * s) (gD xs))) ∧ Below w2.heap.size w2 wr) (fun _ iv _ => K - (intOf iv).toNat)
  case atStart => exact ⟨0, _, rfl, rfl, Nat.zero_le _, by rw [Nat.zero_mul]; exact World.ownsRow_nil _ _ _ _, Below.refl _ _⟩
  case round =>
    obtain ⟨t, V, rfl, rfl, htK, hO, hb⟩ := hrel
    have hRr := hR12.below hb
    have hszr := hb.size
    rcases Nat.lt_or_ge t K with hlt | hge
    · obtain ⟨ad, rfl, hc⟩ := hRr.at_ hlt
      have hrow := hRr.row t hlt
      have hLs : L1 t = s := by rw [← hrow.len]; exact tab_len _ _
      have hsrc := Src.of_sl hrow (hRr.nil t hlt)
      have hTU : t * s + s ≤ U := by
        rw [← hU'.out, ← Nat.succ_mul]
        exact Nat.mul_le_mul_right _ hlt
      have hUb : U ≤ 2500 := by omega
      have hfl := Lib.hid (show tab (t * s) (gD xs) ++ frameL xs s s t = tab ((t + 1) * s) (gD xs) by rw [Nat.add_mul, Nat.one_mul, tab_add]; rfl)
      have hrowV := Lib.hid (fun k (hk : V.ownBlock = some k) => (hO.lt k hk).1)
      rw [hLs] at hc hrow hsrc
      obtain ⟨T, hT⟩ : ∃ T, t * s = T := ⟨_, rfl⟩
      rw [hT] at hO hTU
      have hT' := Lib.hid hT
      rw [hT] at hfl
      clear hT hrow hLs
      go_wp2_with (at_builtin; refine wpList_append_any rfl (.tmp 55) (.tmp 59) 22 rfl w2.heap.size 3 i0 (.int .i64 0) 1 8 Try.underlying22 hi hz0 hz1 hz2 rfl (by decide) V T (ivs .i64 (tab T (gD xs))) rfl hO (B1 t) s (C1 t) (ivs .i64 (frameL xs s s t)) rfl hsrc ?k2 ?k3 ?k4 ?_)
      case k2 => unfold maxLen; omega
      case k3 => omega
      case k4 => omega
      intro V' w5 hown5 hgr5 _
      rw [← ivs_app, hfl.out] at hown5
      have hb5 := hb.grown hgr5 hszr (fun k hk => hrowV.out k hk)
      have hTs := Lib.hid (show T + s = (t + 1) * s by rw [Nat.add_mul, Nat.one_mul, hT'.out])
      rw [hTs.out] at hown5
      go_wp2
      go_roundw
      case rel => exact ⟨t + 1, _, rfl, by go_num, hlt, hown5, hb5⟩
      case measure => simp [intOf]; omega
    · have htK' : t = K := by omega
      subst htK'
      rw [hU'.out] at hO
      obtain ⟨A3, c3, rfl, hS3⟩ := Sl.of_own hO
      have hc3 := hS3.cap
      have ht3 := hS3.top
      have hb13 := hb12.trans (hb.mono hb12.size)
      have hx := h.below hb13
      have hT1 := hS3.take (m := n) p1
      rw [flat_take hl.out p1] at hT1
      have hT2 := hS3.cut (m := n) p1
      have hz := Lib.hid (flat_drop hl.out p1)
      have hUb : U ≤ 2500 := by omega
      have e1 : ¬ (U : Int) < (n : Int) := by omega
      have e2 : ¬ (s : Int) ≤ (U : Int) - (n : Int) := by omega
      have e3 : decide ((U : Int) < (n : Int)) = false := decide_eq_false e1
      have e4 : decide ((s : Int) ≤ (U : Int) - (n : Int)) = false := decide_eq_false e2
      clear hO hS3
      go_wp2_with fail
      refine (Same_any _ _ _ _ _ _ _ _ _ hT1 hx).mono ?_
      rintro e w4 ⟨i4, he, rfl⟩
      rw [sameB_yes rfl] at he
      subst he
      have hb4 := bel_drewN hb13 i4
      have hT2 := hT2.drewN i4
      have hR14 := (hR12.below hb).drewN i4
      have hR24 := (hR2.below hb).drewN i4
      generalize wr.drewN i4 = w4 at *
      by_cases hcn : c3 = n
      case' pos =>
        rw [if_pos hcn, show c3 - n = 0 by omega] at hT2
      case' neg =>
        rw [if_neg hcn] at hT2
      all_goals
        go_wp2_with fail
        refine (All_any _ _ _ _ _ _ _ hT2).mono ?_
        rintro e w5 ⟨he, rfl⟩
        rw [hz.out] at he
        subst he
        have hR15 := hR14.take p3
        have hc15 := hR14.cap
        have ht15 := hR14.top
        go_wp2_with fail
        refine (SameLists_eq _ _ _ _ _ _ _ _ _ _ _ _ _ _ hR24 hR15 (fun _ _ => rfl)).mono ?_
        rintro e w6 ⟨rfl, i6, rfl⟩
        have hb6 := bel_drewN hb4 i6
        generalize w4.drewN i6 = w6 at *
        go_wp2_with fail
        refine (known_any _).mono ?_
        rintro e w7 ⟨rfl, hb7⟩
        go_wp2
        go_ret
        exact ⟨rfl, hb6.trans (hb7.mono hb6.size)⟩

theorem pieces_law (A : Option Addr) (n c : Nat) (xs : List Int) (size : Int) (w : World) (h : Sl .i64 w A n c xs) :
    Calls Try.prog 11 #[.slice A n c, .int .i64 size] w (YesQ w) := by
  by_cases a1 : 2000 < n
  · exact pi_skip A n c xs size w h (.inl a1)
  by_cases a2 : size < 1
  · exact pi_skip A n c xs size w h (.inr (.inl ⟨a1, a2⟩))
  by_cases a3 : 500 < size
  · exact pi_skip A n c xs size w h (.inr (.inr (.inl ⟨a1, a2, a3⟩)))
  cases hv : valsB xs with
  | false => exact pi_skip A n c xs size w h (.inr (.inr (.inr ⟨a1, a2, a3, hv⟩)))
  | true =>
    obtain ⟨s, rfl⟩ : ∃ s : Nat, size = (s : Int) := ⟨size.toNat, by omega⟩
    exact pi_ok A n c s xs w h (by omega) (by omega) (by omega) hv
end Go.Proofs.Ytobobbhifajhmaa
