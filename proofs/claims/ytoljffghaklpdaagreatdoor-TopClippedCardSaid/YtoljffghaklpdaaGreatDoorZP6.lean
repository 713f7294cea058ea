/- The frames of a list: the document's own. -/
import Derived.Test.YtoljffghaklpdaaGreatDoorHM
import Derived.Test.YtoljffghaklpdaaGreatDoorJA
import Derived.Test.YtoljffghaklpdaaGreatDoorZK0
import Derived.Maps.AppendAt
import Derived.Laws.StructEq
import Derived.Laws.AppendOwnNone
import Derived.Test.YtoljffghaklpdaaGreatDoorZV3
import Derived.Deep.QuietTactic
import Derived.BigQuiet
import Derived.StillTailTactics
import Derived.IntWalk
import Derived.Deep.RegionHeld3
import Derived.Deep.RegionWith
import Derived.Laws.ResultCell
namespace Go.Proofs.YtoljffghaklpdaaGreatDoor
open Go.RowKit

/-- what decides whether another frame begins at T -/
theorem more_at {n s p : Nat} {pad : Bool} (hs : 1 ≤ s) (hp : 1 ≤ p) {k T : Nat} (hT : T = k * p) (hk : k < fcount n s p pad) : decide ((T : Int) < (n : Int)) = true ∧ (pad = true ∨ decide ((T : Int) + (s : Int) ≤ (n : Int)) = true) := by
  have := (fcount_at (pad := pad) hs hp).1 hk
  subst hT
  exact ⟨decide_eq_true (by omega), this.2.imp id (fun h => decide_eq_true (by omega))⟩
theorem more_no {n s p : Nat} {pad : Bool} (hs : 1 ≤ s) (hp : 1 ≤ p) {k T : Nat} (hT : T = k * p) (hk : ¬ k < fcount n s p pad) : decide ((T : Int) < (n : Int)) = false ∨ (decide ((T : Int) < (n : Int)) = true ∧ pad = false ∧ decide ((T : Int) + (s : Int) ≤ (n : Int)) = false) := by
  have h := mt (fcount_at (pad := pad) hs hp).2 hk
  subst hT
  by_cases h1 : k * p < n
  · refine .inr ⟨decide_eq_true (by omega), ?_, decide_eq_false (fun h2 => h ⟨h1, .inr (by omega)⟩)⟩
    cases pad with
    | true => exact absurd ⟨h1, .inl rfl⟩ h
    | false => rfl
  · exact .inl (decide_eq_false (by omega))

set_option maxHeartbeats 4000000 in
set_option maxRecDepth 100000 in
theorem RFrames_main (A : Option Addr) (n c s p : Nat) (xs : List Int) (pad : Bool) (w : World) (h : Sl .i64 w A n c xs) (hv : valsB xs = true) (hn : n ≤ 200000) (hs1 : 1 ≤ s) (hs2 : s ≤ 4096) (hp1 : 1 ≤ p) (hp2 : p ≤ 4096) :
    Calls Tryz.prog 62 #[.slice A n c, .int .i64 (s : Int), .int .i64 (p : Int), .bool pad] w (RetRs w (if 4000000 < fcount n s p pad * s then 0 else fcount n s p pad) (frameL xs s p) (if 4000000 < fcount n s p pad * s then 5 else 0)) := by
  obtain ⟨i0, hi, hz0, hz1, hz2⟩ := info_parts info_sl
  have hl := Lib.hid h.len
  have hcap := h.cap
  have htop := h.top
  have hV := Lib.hid (Values_any A n c xs w h)
  rw [hv] at hV
  have hcl := fcount_le (n := n) (pad := pad) hp1 hs1
  have hyes := Lib.hid (fun (k T : Nat) (hT : T = k * p) => more_at (n := n) (s := s) (pad := pad) hs1 hp1 (k := k) hT)
  have hno := Lib.hid (fun (k T : Nat) (hT : T = k * p) => more_no (n := n) (s := s) (pad := pad) hs1 hp1 (k := k) hT)
  have hct := Lib.hid (show ∀ t, t < fcount n s p pad → t * p < n from fun t ht => ((fcount_at (pad := pad) hs1 hp1).1 ht).1)
  generalize fcount n s p pad = cnt at *
  obtain ⟨N, hN⟩ : ∃ N, (if 4000000 < cnt * s then 0 else cnt) = N := ⟨_, rfl⟩
  obtain ⟨C, hC⟩ : ∃ C : Int, (if 4000000 < cnt * s then 5 else 0) = C := ⟨_, rfl⟩
  rw [hN, hC]
  have hN' := Lib.hid hN
  have hC' := Lib.hid hC
  clear hN hC
  have d0 : decide (200000 < (n : Int)) = false := decide_eq_false (by omega)
  have d1 : decide ((s : Int) < 1) = false := decide_eq_false (by omega)
  have d2 : decide (4096 < (s : Int)) = false := decide_eq_false (by omega)
  have d3 : decide ((p : Int) < 1) = false := decide_eq_false (by omega)
  have d4 : decide (4096 < (p : Int)) = false := decide_eq_false (by omega)
  clear hv
  go_enter Tryz.func62, Tryz.ntmps62
  go_wp2_with (go_at_call 131; refine hV.out.mono ?_; rintro e w' ⟨rfl, rfl⟩)
  clear d0 d1 d2 d3 d4
  go_loopw [10, 11] (fun mv tv wr => ∃ k T : Nat, k ≤ cnt ∧ mv = .int .i64 k ∧ tv = .int .i64 T ∧ Hid (T = k * p) ∧ w = wr) (fun mv _ _ => cnt - (intOf mv).toNat)
  case atStart => exact ⟨0, 0, Nat.zero_le _, rfl, rfl, show 0 = 0 * p by omega, rfl⟩
  case round =>
    obtain ⟨k, T, hk, rfl, rfl, hT, hwr⟩ := hrel
    subst hwr
    rcases Nat.lt_or_ge k cnt with hlt | hge
    · obtain ⟨hd1, hd2⟩ := hyes.out k T hT.out hlt
      have hTn : T < n := by have := hct.out k hlt; rw [← hT.out] at this; exact this
      have hT2 : Hid (T + p = (k + 1) * p) := by show T + p = (k + 1) * p; rw [Nat.add_mul, ← hT.out]; omega
      rcases hd2 with rfl | hd2
      case' inr => cases pad
      all_goals
        go_wp2
        go_roundw
        case rel => exact ⟨k + 1, T + p, hlt, by go_num, by go_num, hT2, (by trivial)⟩
        case measure => simp [intOf]; omega
    · have hkc : k = cnt := by omega
      subst hkc
      have hTn : T ≤ 200000 * 4096 := by rw [hT.out]; exact Nat.mul_le_mul (by omega) hp2
      obtain ⟨M, hM⟩ : ∃ M : Nat, (k : Int) * (s : Int) = (M : Int) := ⟨k * s, by simp⟩
      have hM2 : M = k * s := by have h2 : ((k * s : Nat) : Int) = (M : Int) := by rw [← hM]; simp
                                 omega
      have hM3 : M ≤ 200000 * 4096 := by rw [hM2]; exact Nat.mul_le_mul (by omega) hs2
      have hMl := Lib.hid hM2
      have hj := hno.out k T hT.out (by omega)
      clear hM2
      have hj2 : (¬ T < n ∧ decide ((T : Int) < (n : Int)) = false) ∨ (T < n ∧ decide ((T : Int) < (n : Int)) = true ∧ pad = false ∧ ¬ (T : Int) + (s : Int) ≤ (n : Int)) := by
        rcases hj with hj | ⟨hj1, hj2, hj3⟩
        · exact .inl ⟨by have := of_decide_eq_false hj; omega, hj⟩
        · exact .inr ⟨by have := of_decide_eq_true hj1; omega, hj1, hj2, of_decide_eq_false hj3⟩
      by_cases hbig : 4000000 < M
      · have hNN := Lib.hid (show N = 0 by rw [← hN'.out, if_pos (by rw [← hMl.out]; exact hbig)])
        have hCC := Lib.hid (show C = 5 by rw [← hC'.out, if_pos (by rw [← hMl.out]; exact hbig)])
        clear hj
        rcases hj2 with ⟨hj0, hj1⟩ | ⟨hj0, hj1, rfl, hj3⟩
        all_goals
          go_wp2
          go_ret2
          exact ⟨none, 0, _, _, _, by rw [hNN.out, hCC.out]; rfl, by rw [hNN.out]; exact rs_nil _ _, Below.refl _ _⟩
      · have hNN := Lib.hid (show N = k by rw [← hN'.out, if_neg (by rw [← hMl.out]; exact hbig)])
        have hCC := Lib.hid (show C = 0 by rw [← hC'.out, if_neg (by rw [← hMl.out]; exact hbig)])
        clear hj
        rcases hj2 with ⟨hj0, hj1⟩ | ⟨hj0, hj1, rfl, hj3⟩
        all_goals
          go_wp2
          go_loopw [12, 13] (fun ov tv wr => ∃ (t : Nat) (V : Value) (G : Nat → Nat), V = ov ∧ tv = .int .i64 t ∧ t ≤ k ∧ OwnRs wr w.heap.size V t G s (frameL xs s p) ∧ Below w.heap.size w wr) (fun _ tv _ => k - (intOf tv).toNat)
          case atStart => exact ⟨0, _, _, rfl, rfl, Nat.zero_le _, OwnRs.nil_ _ _ _ _, Below.refl _ _⟩
          case round =>
            obtain ⟨t, V, G, rfl, rfl, htk, hO, hb⟩ := hrel
            rcases Nat.lt_or_ge t k with hlt | hge
            · obtain ⟨wo, rfl⟩ : ∃ wo, wo = wr := ⟨_, rfl⟩
              have hr := h.below hb
              have hmk := make_int s (by omega) wo
              have hFl : Fill wo (wo.alloc (.cells (ivs .i64 (zs s)).toArray 3)) wo.heap.size 3 s 0 (fun i => xs.getD (t * p + i) 0) := Fill.start (Below.refl _ _) rfl
              obtain ⟨U, hU⟩ : ∃ U : Nat, (t : Int) * (p : Int) = (U : Int) := ⟨t * p, by simp⟩
              have hU2 := Lib.hid (show U = t * p by have h2 : ((t * p : Nat) : Int) = (U : Int) := by rw [← hU]; simp
                                                     omega)
              have hUn : U < n := by rw [hU2.out]; exact hct.out t hlt
              go_wp2
              go_loopw [15] (fun iv w' => ∃ i : Nat, iv = .int .i64 i ∧ i ≤ s ∧ Fill wo w' wo.heap.size 3 s i (fun i => xs.getD (t * p + i) 0)) (fun iv _ => s - (intOf iv).toNat)
              case atStart => exact ⟨0, rfl, Nat.zero_le _, hFl⟩
              case round =>
                clear hFl hmk
                obtain ⟨i, rfl, his, hF⟩ := hrel
                rcases Nat.lt_or_ge i s with hlti | hgei
                · obtain ⟨Z, hZ⟩ : ∃ Z : Nat, (U : Int) + (i : Int) = (Z : Int) := ⟨U + i, by simp⟩
                  have hZ2 := Lib.hid (show Z = t * p + i by rw [← hU2.out]; omega)
                  have hZb : Z ≤ 204096 := by omega
                  obtain ⟨y0, hcy⟩ := hF.cell hlti
                  have hcf := hF.frozen i
                  by_cases hin : Z < n
                  · have hr2 := hr.below hF.bel
                    obtain ⟨ad, y, rfl, hcx, hy⟩ := hr2.at_ hin
                    have hyv := Lib.hid (show y = xs.getD (t * p + i) 0 by rw [← hZ2.out]; exact hy.out.symm)
                    go_wp2
                    go_roundw
                    case rel => exact ⟨i + 1, by go_num, hlti, hF.next hlti hyv.out⟩
                    case measure => simp [intOf]; omega
                  · have hyv : xs.getD (t * p + i) 0 = 0 := getD_out (by rw [← hZ2.out, hl.out]; omega)
                    have hFz := Lib.hid (hF.zero hlti hyv)
                    clear hyv
                    go_wp2
                    go_roundw
                    case rel => exact ⟨i + 1, by go_num, hlti, hFz.out⟩
                    case measure => simp [intOf]; omega
                · have his' : i = s := by omega
                  subst his'
                  have hO2 := hO.below hF.bel
                  have hm := hF.own
                  rw [Nat.sub_self, show zs 0 = [] from rfl, List.append_nil] at hm
                  have hm2 : Mk wr wo.heap.size 3 .i64 (frameL xs i p t) := hm
                  have hb2 := hb.trans (hF.bel.mono hb.size)
                  have hone : ∀ u ∈ ([.slice (some ⟨wo.heap.size, 0, none⟩) i i] : List Value), u.oneCell' = true := by intro u hu; simp at hu; subst hu; rfl
                  have hszb := hb2.size
                  have hrow := Lib.hid (fun k (hk : V.ownBlock = some k) => (hO2.own.lt k hk).1)
                  go_wp2_with (at_builtin; refine wpList_append_lies _ rfl (.tmp 93) (.tmp 95) 34 rfl w.heap.size 28 i0 (.slice none 0 0) 1 24 Tryz.underlying34 hi hz0 hz1 hz2 rfl (by decide) V t (rowV G i t) rfl (own_bel hO2.own ((Below.refl wr.heap.size wr).alloc (Nat.le_refl _) _)) ⟨wr.heap.size, 0, none⟩ 1 1 [.slice (some ⟨wo.heap.size, 0, none⟩) i i] rfl rfl (cell_one_new _ _ _) hone (by omega) (by unfold maxLen; omega) (by omega) (by simp; omega) _ rfl ?_)
                  intro g cap w5 hown5 hgrow hat hlt5
                  have hO5 := hO2.push hm2 (tab_len _ _) hown5 hgrow
                  have hb5 := (hb2.alloc (o := .cells #[.slice (some ⟨wo.heap.size, 0, none⟩) i i] 28) hszb).grown hgrow (by simp; omega) (fun k hk => hrow.out k hk)
                  go_wp2
                  go_roundw
                  case rel => exact ⟨t + 1, _, _, rfl, by go_num, hlt, hO5, hb5⟩
                  case measure => simp [intOf]; omega
            · have htk' : t = k := by omega
              subst htk'
              obtain ⟨A2, c2, hV2, hRs⟩ := hO.rs (by omega)
              subst hV2
              go_wp2
              go_ret2
              exact ⟨A2, c2, _, _, _, by rw [hNN.out, hCC.out]; rfl, by rw [hNN.out]; exact hRs, hb⟩
end Go.Proofs.YtoljffghaklpdaaGreatDoor


/- Equality of lists of segments. -/
namespace Go.Proofs.YtoljffghaklpdaaGreatDoor
open Go.RowKit

/-- the slice value reads as the segments ps -/
structure Sg (w : World) (A : Option Addr) (n c : Nat) (ps : List (Int × Int)) : Prop where
  len : ps.length = n
  cap : n ≤ c
  top : c ≤ 9223372036854775807
  cell : 0 < n → ∃ g, A = some ⟨g, 0, none⟩ ∧ ∀ (j : Nat) (p : Int × Int), ps[j]? = some p → w.cell? ⟨g, j * 2, none⟩ = some (.int .i64 p.1) ∧ w.cell? ⟨g, j * 2 + 1, none⟩ = some (.int .i64 p.2)
theorem Sg.nil (w : World) : Sg w none 0 0 [] := ⟨rfl, Nat.le_refl _, by decide, fun h => absurd h (by omega)⟩
theorem Sg.drewN {w : World} {A : Option Addr} {n c : Nat} {ps : List (Int × Int)} (h : Sg w A n c ps) (i : Nat) : Sg (w.drewN i) A n c ps := ⟨h.len, h.cap, h.top, h.cell⟩
theorem Sg.at_ {w : World} {A : Option Addr} {n c : Nat} {ps : List (Int × Int)} (h : Sg w A n c ps) {j : Nat} (hj : j < n) : ∃ g a b, A = some ⟨g, 0, none⟩ ∧ w.cell? ⟨g, j * 2, none⟩ = some (.int .i64 a) ∧ w.cell? ⟨g, j * 2 + 1, none⟩ = some (.int .i64 b) ∧ Hid (ps[j]? = some (a, b)) := by
  obtain ⟨g, e, hc⟩ := h.cell (by omega)
  have hl : j < ps.length := by rw [h.len]; exact hj
  have := hc j _ (List.getElem?_eq_getElem hl)
  exact ⟨g, ps[j].1, ps[j].2, e, this.1, this.2, List.getElem?_eq_getElem hl⟩
theorem Sg.keep {w w' : World} {A : Option Addr} {n c : Nat} {ps : List (Int × Int)} (h : Sg w A n c ps) (hk : ∀ p : Addr, p.block < w.heap.size → w'.cell? p = w.cell? p) : Sg w' A n c ps :=
  ⟨h.len, h.cap, h.top, fun hn => by
    obtain ⟨g, e, hc⟩ := h.cell hn
    exact ⟨g, e, fun j p hx => by
      have := hc j p hx
      rw [hk _ (World.block_lt_of_cell? _ _ this.1), hk _ (World.block_lt_of_cell? _ _ this.2)]; exact this⟩⟩
theorem Sg.below {w w' : World} {A : Option Addr} {n c : Nat} {ps : List (Int × Int)} (h : Sg w A n c ps) (hb : Below w.heap.size w w') : Sg w' A n c ps := h.keep fun _ hp => hb.cell hp
theorem Sg.alloc {w : World} {A : Option Addr} {n c : Nat} {ps : List (Int × Int)} (h : Sg w A n c ps) (o : Obj) : Sg (w.alloc o) A n c ps := h.keep fun p hp => World.cell?_alloc_lt w o p hp
theorem sgv_at (ps : List (Int × Int)) : ∀ (j : Nat) (p : Int × Int), ps[j]? = some p → (sgv ps)[j * 2]? = some (.int .i64 p.1) ∧ (sgv ps)[j * 2 + 1]? = some (.int .i64 p.2) := by
  induction ps with
  | nil => intro j p h; simp at h
  | cons q ps ih =>
    intro j p h
    have e : sgv (q :: ps) = .int .i64 q.1 :: .int .i64 q.2 :: sgv ps := by simp [sgv]
    rw [e]
    cases j with
    | zero =>
      simp at h
      subst h
      exact ⟨rfl, rfl⟩
    | succ j =>
      rw [List.getElem?_cons_succ] at h
      have := ih j p h
      rw [show (j + 1) * 2 = (j * 2 + 1) + 1 by omega, show (j * 2 + 1) + 1 + 1 = ((j * 2 + 1) + 1) + 1 by omega]
      simp only [List.getElem?_cons_succ]
      exact this
theorem Sg.of_own {w : World} {base : Nat} {v : Value} {n : Nat} {ps : List (Int × Int)} (h : w.ownsRow base 61 2 v n (sgv ps)) : ∃ A c, v = .slice A n c ∧ Sg w A n c ps := by
  have hl := h.1
  rw [sgv_len] at hl
  have hn : ps.length = n := by omega
  rcases h.2 with ⟨rfl, rfl⟩ | ⟨g, cap, cur, rfl, h3, h4, h5, h6, h7, h8⟩
  · obtain rfl : ps = [] := List.eq_nil_of_length_eq_zero hn
    exact ⟨none, 0, rfl, Sg.nil w⟩
  · refine ⟨some ⟨g, 0, none⟩, cap, rfl, hn, h5, by simpa [maxLen] using h6, fun hp => ⟨g, rfl, fun j p hx => ?_⟩⟩
    have hj := lt_of_some hx
    have h9 := sgv_at ps j p hx
    rw [h.cellAt (j * 2) (by omega), h.cellAt (j * 2 + 1) (by omega)]
    exact h9

def sameP (ps qs : List (Int × Int)) : Bool := decide (ps = qs)
theorem sameP_yes {ps qs : List (Int × Int)} (h : ps = qs) : sameP ps qs = true := decide_eq_true h
theorem sameP_no {ps qs : List (Int × Int)} (h : ps ≠ qs) : sameP ps qs = false := decide_eq_false h
theorem takeP_snoc {ps : List (Int × Int)} {k : Nat} {p : Int × Int} (h : ps[k]? = some p) : ps.take (k + 1) = ps.take k ++ [p] := by
  have hl := lt_of_some h
  rw [take_snoc hl]
  rw [List.getElem?_eq_getElem hl] at h
  injection h with h
  rw [h]

set_option maxHeartbeats 1600000 in
theorem SameSegments_any (A A' : Option Addr) (n c n' c' : Nat) (xs ys : List (Int × Int)) (w : World) (h : Sg w A n c xs) (h' : Sg w A' n' c' ys) :
    Calls Tryz.prog 38 #[.slice A n c, .slice A' n' c'] w fun e w' => ∃ k, e = .returned (.bool (sameP xs ys)) ∧ w' = w.drewN k := by
  have hl := Lib.hid h.len
  have hl' := Lib.hid h'.len
  have hcap := h.cap
  have htop := h.top
  have hcap' := h'.cap
  by_cases hn : n = n'
  · subst hn
    go_enter Tryz.func38, Tryz.ntmps38
    go_wp2
    go_loopw [5] (fun iv wr => ∃ k r : Nat, iv = .int .i64 k ∧ k ≤ n ∧ Hid (xs.take k = ys.take k) ∧ wr = w.drewN r) (fun iv _ => n - (intOf iv).toNat)
    case atStart => exact ⟨0, 0, rfl, Nat.zero_le _, rfl, rfl⟩
    case round =>
      obtain ⟨k, r, rfl, hk, he, rfl⟩ := hrel
      have hr := h.drewN r
      have hr' := h'.drewN r
      generalize hw : w.drewN r = w1 at *
      have hw' := Lib.hid hw
      clear hw
      rcases Nat.lt_or_ge k n with hlt | hge
      · obtain ⟨g, a, b, rfl, hc, hd, hx⟩ := hr.at_ hlt
        obtain ⟨g', a', b', rfl, hc', hd', hy⟩ := hr'.at_ hlt
        have i1 : (k : Int) < (n : Int) := by omega
        by_cases hxy : a = a' ∧ b = b'
        · obtain ⟨rfl, rfl⟩ := hxy
          have hs := Lib.hid (show xs.take (k + 1) = ys.take (k + 1) by rw [takeP_snoc hx.out, takeP_snoc hy.out, he.out])
          go_wp2
          go_quiet (fail)
          go_wp2
          go_roundw
          case rel => exact ⟨k + 1, r + nq, by go_num, hlt, hs.out, by rw [← hw'.out]; exact dr_add w r nq⟩
          case measure => simp [intOf]; omega
        · have hs := Lib.hid (sameP_no (ps := xs) (qs := ys) (fun e => hxy (by have h1 := hx.out; rw [e, hy.out] at h1; injection h1 with h1; injection h1 with h1 h2; exact ⟨h1.symm, h2.symm⟩)))
          rcases (show a ≠ a' ∨ (a = a' ∧ b ≠ b') by omega) with hne | ⟨rfl, hne⟩
          · have hb : (a == a') = false := by simpa using hne
            clear hxy
            go_wp2
            go_quiet (fail)
            go_wp2
            go_ret
            exact ⟨r + nq, ret_bool hs.out.symm, by rw [← hw'.out]; exact dr_add w r nq⟩
          · have hb : (b == b') = false := by simpa using hne
            clear hxy
            go_wp2
            go_quiet (fail)
            go_wp2
            go_ret
            exact ⟨r + nq, ret_bool hs.out.symm, by rw [← hw'.out]; exact dr_add w r nq⟩
      · have hkn : k = n := by omega
        subst hkn
        have hs := Lib.hid (sameP_yes (ps := xs) (qs := ys) (by have := he.out; rw [List.take_of_length_le (by rw [hl.out]; exact Nat.le_refl _), List.take_of_length_le (by rw [hl'.out]; exact Nat.le_refl _)] at this; exact this))
        go_wp2
        go_ret
        exact ⟨r, ret_bool hs.out.symm, hw'.out.symm⟩
  · have hs := Lib.hid (sameP_no (ps := xs) (qs := ys) (fun e => hn (by rw [← hl.out, ← hl'.out, e])))
    have hb : ((n : Int) != (n' : Int)) = true := by simp; omega
    have hb2 : decide (n = n') = false := by simpa using hn
    go_enter Tryz.func38, Tryz.ntmps38
    go_wp2
    go_ret
    exact ⟨0, ret_bool hs.out.symm, rfl⟩
end Go.Proofs.YtoljffghaklpdaaGreatDoor


/- The segments of a list of samples. -/
namespace Go.Proofs.YtoljffghaklpdaaGreatDoor
open Go.RowKit

def RetS_w (w : World) (ps : List (Int × Int)) (code : Int) (e : Ending) (w' : World) : Prop :=
  ∃ A n c, e = .returned (.tuple #[.slice A n c, .int .i64 code]) ∧ Sg w' A n c ps ∧ Below w.heap.size w w'

theorem Sg.own {w : World} {base n : Nat} {v : Value} {ps : List (Int × Int)} (h : w.ownsRow base 61 2 v n (sgv ps)) : ∃ A c, v = .slice A n c ∧ Sg w A n c ps := Sg.of_own h

theorem runS_len (G : Gt) (xs : List Int) : ∀ b : Nat, (runS G xs b).length ≤ b
  | 0 => Nat.le_refl _
  | b + 1 => by
    have := runS_len G xs b
    show (runS G xs b ++ hearS G b (eng (blk G xs b)) (runM G xs b)).length ≤ b + 1
    rw [List.length_append]
    rcases hearS_cases G b (eng (blk G xs b)) (runM G xs b) with h | ⟨s, t, h⟩ <;> rw [h] <;> simp <;> omega
theorem segs_len (G : Gt) (xs : List Int) : (segs G xs).length ≤ xs.length := Nat.le_trans (runS_len G xs _) (Nat.div_le_self _ _)

set_option maxHeartbeats 1600000 in
theorem Segments_long (G : Value) (b h l r f d x : Int) (hGv : G = gtV b h l r f d x) (A : Option Addr) (n c : Nat) (xs : List Int) (w : World) (hS : Sl .i64 w A n c xs) (hn : 200000 < n) :
    Calls Tryz.prog 37 #[.slice A n c, G] w (RetS_w w [] 5) := by
  subst hGv
  have hcap := hS.cap
  have htop := hS.top
  unfold gtV
  go_enter Tryz.func37, Tryz.ntmps37
  go_wp2
  go_ret2
  exact ⟨none, 0, 0, rfl, Sg.nil _, (Below.refl _ _).alloc (Nat.le_refl _) _⟩

set_option maxHeartbeats 1600000 in
theorem Segments_gate (b h l r f d x : Int) (hv : gtB b h l r f d x = false) (A : Option Addr) (n c : Nat) (xs : List Int) (w : World) (hS : Sl .i64 w A n c xs) (hn : n ≤ 200000) :
    Calls Tryz.prog 37 #[.slice A n c, gtV b h l r f d x] w (RetS_w w [] 2) := by
  have hcap := hS.cap
  have htop := hS.top
  have hLi := Lib.hid (fun w => Listen_bad b h l r f d x w hv)
  unfold gtV at hLi ⊢
  have hb0 := (Below.refl w.heap.size w).alloc (Nat.le_refl _) (.cells #[.int .i64 b, .int .i64 h, .int .i64 l, .int .i64 r, .int .i64 f, .int .i64 d, .int .i64 x] 66)
  go_enter Tryz.func37, Tryz.ntmps37
  go_wp2_with (go_at_call 92; refine (hLi.out _).mono ?_; rintro e w1 ⟨rfl, hb1⟩)
  go_ret2
  exact ⟨none, 0, 0, rfl, Sg.nil _, hb0.trans (hb1.mono hb0.size)⟩

set_option maxHeartbeats 1600000 in
theorem Segments_bad (G : Gt) (hG : G.Ok) (A : Option Addr) (n c : Nat) (xs : List Int) (w : World) (hS : Sl .i64 w A n c xs) (hn : n ≤ 200000) (hx : allB (-32768) 32767 xs = false) :
    Calls Tryz.prog 37 #[.slice A n c, gval G] w (RetS_w w [] 2) := by
  have hcap := hS.cap
  have htop := hS.top
  have hl := Lib.hid hS.len
  have hck := Lib.hid (show chk (-32768) 32767 xs = 2 by unfold chk; rw [if_neg (by rw [hl.out]; omega), hx]; rfl)
  have hLi := Lib.hid (fun w => Listen_any G hG w)
  unfold gval gtV at hLi ⊢
  have hb0 := (Below.refl w.heap.size w).alloc (Nat.le_refl _) (.cells #[.int .i64 G.B, .int .i64 G.H, .int .i64 G.L, .int .i64 G.R, .int .i64 G.F, .int .i64 G.D, .int .i64 G.X] 66)
  have hS0 := hS.alloc (.cells #[.int .i64 G.B, .int .i64 G.H, .int .i64 G.L, .int .i64 G.R, .int .i64 G.F, .int .i64 G.D, .int .i64 G.X] 66)
  clear hx
  go_enter Tryz.func37, Tryz.ntmps37
  go_wp2_with (first | (go_at_call 92; refine (hLi.out _).mono ?_; rintro e w1 ⟨g, gr, rfl, hL1, hb1, hg1, hg2⟩) | (go_at_call 93; refine (Feed_bad g gr _ _ _ _ _ _ G hL1 (hS0.below hb1) 2 hck.out rfl).mono ?_; rintro e w2 ⟨rfl, rfl⟩))
  go_ret2
  exact ⟨none, 0, 0, rfl, Sg.nil _, hb0.trans (hb1.mono hb0.size)⟩

set_option maxHeartbeats 1600000 in
theorem Segments_ok (G : Gt) (hG : G.Ok) (A : Option Addr) (n c : Nat) (xs : List Int) (w : World) (hS : Sl .i64 w A n c xs) (hn : n ≤ 200000) (hx : allB (-32768) 32767 xs = true) :
    Calls Tryz.prog 37 #[.slice A n c, gval G] w (RetS_w w (segs G xs ++ lastS G xs) 0) := by
  have hcap := hS.cap
  have htop := hS.top
  have hLi := Lib.hid (fun w => Listen_any G hG w)
  unfold gval gtV at hLi ⊢
  have hb0 := (Below.refl w.heap.size w).alloc (Nat.le_refl _) (.cells #[.int .i64 G.B, .int .i64 G.H, .int .i64 G.L, .int .i64 G.R, .int .i64 G.F, .int .i64 G.D, .int .i64 G.X] 66)
  have hS0 := hS.alloc (.cells #[.int .i64 G.B, .int .i64 G.H, .int .i64 G.L, .int .i64 G.R, .int .i64 G.F, .int .i64 G.D, .int .i64 G.X] 66)
  have hblt := Lib.hid hS0.blt
  have hx := Lib.hid hx
  go_enter Tryz.func37, Tryz.ntmps37
  go_wp2_with (go_at_call 92; refine (hLi.out _).mono ?_; rintro e w1 ⟨g, gr, rfl, hL1, hb1, hg1, hg2⟩)
  refine (Feed_any g gr _ _ _ _ _ _ G hG hL1 (hS0.below hb1) hn hx.out (by simp; omega) (fun h ad he => by have := hblt.out h ad he; omega)).mono ?_
  rintro e w2 ⟨v, new, rfl, hown, hseg, hL2, hT2⟩
  rw [List.nil_append] at hseg hL2
  have hnew : new = segs G xs := by have := hseg.out; rw [show segs G [] = [] by unfold segs; rw [show ([] : List Int).length / G.B = 0 from Nat.zero_div _]; rfl, List.nil_append] at this; exact this.symm
  subst hnew
  clear hseg
  have hln := segs_len G xs
  rw [hS.len] at hln
  have hw1 := hb0.trans (hb1.mono hb0.size)
  have hw2 := hw1.trans (hT2.below (B := w.heap.size) (by have := hb0.size; omega) (by have := hb0.size; omega) hw1.size)
  obtain ⟨i0, hi, hz0, hz1, hz2⟩ := info_parts info_seg
  have hsz0 := hb0.size
  cases hs : (endM G xs).sp with
  | false =>
    have hla := Lib.hid (lastS_wait hs)
    have hs' := Lib.hid hs
    clear hs
    go_wp2_with fail
    refine (Close_wait g gr xs _ G hL2 hs'.out).mono ?_
    rintro e w3 ⟨rfl, hC, hT3⟩
    have hown3 := own_two hown hT3 (by have := Blk.lt hL1.lb; omega) (by obtain ⟨rs, hR, _⟩ := hL1.ring; exact hR.lt)
    have hw3 := hw2.trans (hT3.below (B := w.heap.size) (by omega) (by omega) hw2.size)
    go_wp2_with (at_builtin; refine wpList_append_own_none rfl (.tmp 35) (.tmp 36) 71 rfl w1.heap.size 61 i0 2 Tryz.underlying71 hi v (segs G xs).length (sgv (segs G xs)) rfl hown3 rfl ?_)
    obtain ⟨A3, c3, rfl, hSg⟩ := Sg.own hown3
    go_ret2
    exact ⟨A3, _, c3, rfl, by rw [hla.out, List.append_nil]; exact hSg, hw3⟩
  | true =>
    have hla := Lib.hid (lastS_speech hs)
    have hs' := Lib.hid hs
    clear hs
    go_wp2_with fail
    refine (Close_speech g gr xs _ G hG hL2 hs'.out).mono ?_
    rintro e w3 ⟨gl, rfl, hBl, hgl, hC, hT3⟩
    have hown3 := own_two hown hT3 (by have := Blk.lt hL1.lb; omega) (by obtain ⟨rs, hR, _⟩ := hL1.ring; exact hR.lt)
    have hw3 := hw2.trans (hT3.below (B := w.heap.size) (by omega) (by omega) hw2.size)
    generalize (endM G xs).first * (G.B : Int) = q1 at *
    generalize hq2 : (xs.length : Int) = q2 at *
    have hq2' := Lib.hid hq2
    clear hq2
    have hnews : ∀ j u, ([.int .i64 q1, .int .i64 q2] : List Value)[j]? = some u → w3.cell? ((⟨gl, 0, none⟩ : Addr).add j) = some u := fun j u hu => by
      rw [add_new, hBl.cell j]; simpa using hu
    have hnews := Lib.hid hnews
    go_wp2_with (at_builtin; refine wpList_append_own _ rfl (.tmp 35) (.tmp 36) 71 rfl w1.heap.size 61 i0 (.agg #[.int .i64 0, .int .i64 0]) 2 16 Tryz.underlying71 hi hz0 hz1 hz2 rfl (by decide) v (segs G xs).length (sgv (segs G xs)) rfl hown3 ⟨gl, 0, none⟩ 1 1 [.int .i64 q1, .int .i64 q2] rfl rfl hnews.out ?k2 ?k3 ?k4 ?k5 ?_)
    case k2 => intro u hu; simp at hu; rcases hu with rfl | rfl <;> rfl
    case k3 => unfold maxLen; omega
    case k4 => omega
    case k5 => have := hw3.size; have := hT2.size; have := hT3.size; omega
    intro v5 w5 hown5 hg5 _
    have hlen5 : (segs G xs ++ [(q1, q2)]).length = (segs G xs).length + 1 := by simp
    have hown6 : w5.ownsRow w1.heap.size 61 2 v5 (segs G xs ++ [(q1, q2)]).length (sgv (segs G xs ++ [(q1, q2)])) := by rw [hlen5, sgv_app]; exact hown5
    have hb5 : Below w.heap.size w w5 := hw3.grown hg5 hw3.size (fun k hk => Nat.le_trans hw1.size (hown3.lt k hk).1)
    obtain ⟨A5, c5, rfl, hSg⟩ := Sg.own hown6
    have hres : segs G xs ++ lastS G xs = segs G xs ++ [(q1, q2)] := by rw [hla.out]
    have hres := Lib.hid hres
    clear hown5 hlen5
    go_wp2
    go_ret2
    exact ⟨A5, _, c5, rfl, by rw [hres.out]; exact hSg, hb5⟩
end Go.Proofs.YtoljffghaklpdaaGreatDoor


/- Smoothed samples. -/
namespace Go.Proofs.YtoljffghaklpdaaGreatDoor
open Go.RowKit

/-- element i; behind the last one, the last one -/
def lastAt (xs : List Int) (i : Nat) : Int := xs.getD (min i (xs.length - 1)) 0
/-- the sum of k elements from i on -/
def wsum (xs : List Int) (i : Nat) : Nat → Int
  | 0 => 0
  | k + 1 => wsum xs i k + lastAt xs (i + k)
theorem wsum_slide (xs : List Int) (i k : Nat) : wsum xs (i + 1) k = wsum xs i k + (lastAt xs (i + k) - lastAt xs i) := by
  induction k with
  | zero => show (0 : Int) = 0 + (lastAt xs (i + 0) - lastAt xs i); rw [Nat.add_zero]; omega
  | succ k ih =>
    show wsum xs (i + 1) k + lastAt xs (i + 1 + k) = wsum xs i k + lastAt xs (i + k) + (lastAt xs (i + (k + 1)) - lastAt xs i)
    rw [ih, show i + 1 + k = i + (k + 1) by omega]; omega
theorem lastAt_bd {xs : List Int} {m : Int} (h : ∀ x ∈ xs, -m ≤ x ∧ x ≤ m) (hn : 0 < xs.length) (i : Nat) : -m ≤ lastAt xs i ∧ lastAt xs i ≤ m := by
  unfold lastAt
  have hi : min i (xs.length - 1) < xs.length := by omega
  rw [getD_in hi]
  exact h _ (List.getElem_mem hi)
theorem wsum_bd {xs : List Int} {m : Int} (h : ∀ x ∈ xs, -m ≤ x ∧ x ≤ m) (hn : 0 < xs.length) (i k : Nat) : -(m * (k : Int)) ≤ wsum xs i k ∧ wsum xs i k ≤ m * (k : Int) := by
  induction k with
  | zero => show _ ≤ (0 : Int) ∧ (0 : Int) ≤ _; simp
  | succ k ih =>
    have := lastAt_bd h hn (i + k)
    show _ ≤ wsum xs i k + _ ∧ wsum xs i k + _ ≤ _
    rw [Int.natCast_succ, Int.mul_add]
    omega
/-- the mean of wd elements from i on -/
def smAt (xs : List Int) (wd i : Nat) : Int := rnd (wsum xs i wd) wd

theorem make_int1 (n : Nat) (hn : n ≤ 1000000) (w : World) :
    (Instr.makeSlice 28 (.int .i64 ((n : Int) + 1)) (.int .i64 ((n : Int) + 1))).run Tryz.prog w = .ok (.slice (some ⟨w.heap.size, 0, none⟩) (n + 1) (n + 1)) (w.alloc (.cells (ivs .i64 (zs (n + 1))).toArray 3)) := by
  have := make_int (n + 1) (by omega) w
  rw [Int.natCast_succ] at this
  exact this

end Go.Proofs.YtoljffghaklpdaaGreatDoor


/- A recording at another rate. -/
namespace Go.Proofs.YtoljffghaklpdaaGreatDoor
open Go.RowKit

/-- how many samples are smoothed into one -/
def wdt (u d : Nat) : Nat := (d + u - 1) / u
/-- sample j at the distance d / u -/
def ipAt (xs : List Int) (u d j : Nat) : Int := rnd (smAt xs (wdt u d) (j * d / u) * ((u : Int) - ((j * d % u : Nat) : Int)) + smAt xs (wdt u d) (j * d / u + 1) * ((j * d % u : Nat) : Int)) u

theorem smAt_bd {xs : List Int} {m : Int} (h : ∀ x ∈ xs, -m ≤ x ∧ x ≤ m) (hn : 0 < xs.length) {wd : Nat} (hw : 1 ≤ wd) (i : Nat) : -(m * (wd : Int)) ≤ smAt xs wd i ∧ smAt xs wd i ≤ m * (wd : Int) := by
  have h1 := wsum_bd h hn i wd
  exact rnd_abs (by omega) h1.1 h1.2

end Go.Proofs.YtoljffghaklpdaaGreatDoor


/- A recording at another rate: the whole call. -/
namespace Go.Proofs.YtoljffghaklpdaaGreatDoor
open Go.RowKit

theorem cnt_lt {n u d m : Nat} (hu : 1 ≤ u) (hd : 1 ≤ d) (hm : (((n : Int) * u + d - 1) / d : Int) = (m : Int)) : ∀ j, j < m → j * d / u < n := by
  intro j hj
  rw [Nat.div_lt_iff_lt_mul (by omega)]
  have h1 : ((j : Int) + 1) ≤ ((n : Int) * u + d - 1) / d := by rw [hm]; omega
  have h2 := Int.mul_le_of_le_ediv (by omega) h1
  rw [Int.add_mul] at h2
  have e1 : ((j * d : Nat) : Int) = (j : Int) * d := Int.natCast_mul _ _
  have e2 : ((n * u : Nat) : Int) = (n : Int) * u := Int.natCast_mul _ _
  omega

/-- what Resample returns -/
def rsCnt (n : Nat) (u d : Int) : Int := ((n : Int) * u + d - 1) / d
def rsC (rate : Int) (xs : List Int) (u d : Int) : Int :=
  if chkR rate xs = 0 then (if okB 1 16 u && okB 1 16 d then (if rate * u % d = 0 then (if rate * u / d ≤ 192000 then (if rsCnt xs.length u d ≤ 200000 then 0 else 5) else 2) else 2) else 2) else chkR rate xs
def rsR (rate : Int) (xs : List Int) (u d : Int) : Int := if rsC rate xs u d = 0 then rate * u / d else 0
def rsL (rate : Int) (xs : List Int) (u d : Int) : List Int := if rsC rate xs u d = 0 then tab (rsCnt xs.length u d).toNat (ipAt xs u.toNat d.toNat) else []

def RetRec (w : World) (rate : Int) (ys : List Int) (code : Int) (e : Ending) (w' : World) : Prop :=
  ∃ A m c, e = .returned (.tuple #[.agg #[.int .i64 rate, .slice A m c], .int .i64 code]) ∧ Sl .i64 w' A m c ys ∧ Below w.heap.size w w'

theorem load_rec {g : Nat} {W : World} {a b : Value} (h : Blk W g 30 #[a, b]) : (loadVar 30 ⟨g, 0, none⟩).run Tryz.prog W = .ok (.agg #[a, b]) W := by
  have q0 : W.cell? ⟨g, 0, none⟩ = some a := h.cell 0
  have q1 : W.cell? ⟨g, 1, none⟩ = some b := h.cell 1
  simp [go_sem, q0, q1]
theorem ret_rec2 {fn : Func} {R : Ending → World → Prop} {act : Act} {W : World} {g p u : Nat} {a b : Value} (hr : fn.results = #[.cell p 30, .tmp u]) (hs : act.tmps.getD p undef = .pointer (some ⟨g, 0, none⟩))
    (hB : Blk W g 30 #[a, b]) (hd : act.defers = []) (hR : R (.returned (.tuple #[.agg #[a, b], act.tmps.getD u undef])) W) : bodyPost Tryz.prog fn R .ret act W :=
  bodyPost_ret (v := .tuple #[.agg #[a, b], act.tmps.getD u undef]) (by rw [results_cell_tmp hr, hs]; simp [asAddr, load_rec hB]) hd hR

theorem chkR_cases (rate : Int) (xs : List Int) : (chkR rate xs = 0 ∧ xs.length ≤ 200000 ∧ allB (-32768) 32767 xs = true ∧ 1 ≤ rate ∧ rate ≤ 192000) ∨ chkR rate xs = 2 ∨ chkR rate xs = 5 := by
  unfold chkR
  rcases chk_cases (-32768) 32767 xs with ⟨_, h2⟩ | ⟨h1, ha, h2⟩ | ⟨_, _, h2⟩ <;> rw [h2]
  · exact .inr (.inr rfl)
  · cases h3 : okB 1 192000 rate with
    | true => exact .inl ⟨rfl, h1, ha, (okB_iff.1 h3).1, (okB_iff.1 h3).2⟩
    | false => exact .inr (.inl rfl)
  · exact .inr (.inl rfl)

end Go.Proofs.YtoljffghaklpdaaGreatDoor


/- The chapter's examples, which every law runs. -/
namespace Go.Proofs.YtoljffghaklpdaaGreatDoor
open Go.RowKit

theorem load_gate {g : Nat} {W : World} {a0 a1 a2 a3 a4 a5 a6 : Value} (h : Blk W g 66 #[a0, a1, a2, a3, a4, a5, a6]) : (loadVar 66 ⟨g, 0, none⟩).run Tryz.prog W = .ok (.agg #[a0, a1, a2, a3, a4, a5, a6]) W := by
  have q0 : W.cell? ⟨g, 0, none⟩ = some a0 := h.cell 0
  have q1 : W.cell? ⟨g, 1, none⟩ = some a1 := h.cell 1
  have q2 : W.cell? ⟨g, 2, none⟩ = some a2 := h.cell 2
  have q3 : W.cell? ⟨g, 3, none⟩ = some a3 := h.cell 3
  have q4 : W.cell? ⟨g, 4, none⟩ = some a4 := h.cell 4
  have q5 : W.cell? ⟨g, 5, none⟩ = some a5 := h.cell 5
  have q6 : W.cell? ⟨g, 6, none⟩ = some a6 := h.cell 6
  simp [go_sem, q0, q1, q2, q3, q4, q5, q6]
def Gk : Gt := ⟨1, 50, 10, 2, 2, 0, 100⟩
theorem Gk_ok : Gk.Ok := ⟨by decide, by decide, by decide, by decide, by decide, by decide, by decide, by decide, by decide, by decide, by decide, by decide, by decide, by decide⟩

theorem ex1_w : rsC 2 [0, 4] 2 1 = 0 ∧ rsR 2 [0, 4] 2 1 = 4 ∧ rsL 2 [0, 4] 2 1 = [0, 2, 4, 4] := by decide +kernel
theorem ex2_w : rsC 4 [1, 2, 3, 4] 1 2 = 0 ∧ rsR 4 [1, 2, 3, 4] 1 2 = 2 ∧ rsL 4 [1, 2, 3, 4] 1 2 = [2, 4] := by decide +kernel
theorem ex3_w : emC false [10, 10, -7] 1 2 = 0 ∧ emL false [10, 10, -7] 1 2 = [10, 5, -12] := by decide +kernel
theorem ex4_w : wgC [100, 100, -3] 2 = 0 ∧ wgL [100, 100, -3] 2 = [50, 100, -2] := by decide +kernel
theorem ex5_w : segs Gk [0, 0, 9, 9, 9, 0, 0, 9] ++ lastS Gk [0, 0, 9, 9, 9, 0, 0, 9] = [(2, 5)] := by decide +kernel

theorem sg_lit (w : World) (a b : Int) : Sg (w.alloc (.cells #[.int .i64 a, .int .i64 b] 61)) (some ⟨w.heap.size, 0, none⟩) 1 1 [(a, b)] :=
  ⟨rfl, Nat.le_refl _, by decide, fun _ => ⟨_, rfl, fun j p h => by
    cases j with
    | zero =>
      simp at h
      subst h
      exact ⟨(Blk.new w 61 #[.int .i64 a, .int .i64 b]).cell 0, (Blk.new w 61 #[.int .i64 a, .int .i64 b]).cell 1⟩
    | succ j => simp at h⟩⟩

end Go.Proofs.YtoljffghaklpdaaGreatDoor


/- The frames of a list: the law's walk. -/
namespace Go.Proofs.YtoljffghaklpdaaGreatDoor
open Go.RowKit

theorem RFrames_any (A : Option Addr) (n c : Nat) (xs : List Int) (size step : Int) (pad : Bool) (w : World) (h : Sl .i64 w A n c xs) :
    Calls Tryz.prog 62 #[.slice A n c, .int .i64 size, .int .i64 step, .bool pad] w (RetRs w (if frC xs size step pad = 0 then fcount n size.toNat step.toNat pad else 0) (frameL xs size.toNat step.toNat) (frC xs size step pad)) := by
  by_cases hv : ¬ chkV_w xs = 0 ∨ (okB 1 4096 size && okB 1 4096 step) = false
  · have hne : frC xs size step pad ≠ 0 := by
      unfold frC
      rcases hv with hv | hv
      · rw [if_neg hv]; exact hv
      · rw [hv]
        by_cases h2 : chkV_w xs = 0
        · rw [if_pos h2, if_neg (by decide)]; decide
        · rw [if_neg h2]; exact h2
    rw [if_neg hne]
    refine (RFrames_arg A n c xs size step pad w h hv).mono ?_
    rintro e w' ⟨A2, c2, B, L, C, he, hR, hb⟩
    exact ⟨A2, c2, B, L, C, he, ⟨hR.cap, hR.top, hR.cell, fun r hr => absurd hr (by omega), hR.nil, hR.few⟩, hb⟩
  · have hv1 : chkV_w xs = 0 := Classical.byContradiction fun e => hv (.inl e)
    have hv2 : (okB 1 4096 size && okB 1 4096 step) = true := by
      cases h2 : (okB 1 4096 size && okB 1 4096 step) with
      | true => rfl
      | false => exact absurd (.inr h2) hv
    have hb := Bool.and_eq_true_iff.1 hv2
    have h1 := okB_iff.1 hb.1
    have h2 := okB_iff.1 hb.2
    obtain ⟨s, rfl⟩ : ∃ s : Nat, size = (s : Int) := ⟨size.toNat, by omega⟩
    obtain ⟨p, rfl⟩ : ∃ p : Nat, step = (p : Int) := ⟨step.toNat, by omega⟩
    rw [Int.toNat_natCast, Int.toNat_natCast]
    have hcs : n ≤ 200000 ∧ valsB xs = true := by
      rcases chk_cases (-2147483647) 2147483647 xs with ⟨_, h3⟩ | ⟨h3, h4, _⟩ | ⟨_, _, h3⟩
      · rw [show chkV_w xs = chk (-2147483647) 2147483647 xs from rfl, h3] at hv1; exact absurd hv1 (by decide)
      · rw [h.len] at h3; exact ⟨h3, h4⟩
      · rw [show chkV_w xs = chk (-2147483647) 2147483647 xs from rfl, h3] at hv1; exact absurd hv1 (by decide)
    have hC : frC xs (s : Int) (p : Int) pad = if 4000000 < fcount n s p pad * s then 5 else 0 := by
      unfold frC
      rw [if_pos hv1, if_pos hv2, Int.toNat_natCast, Int.toNat_natCast, h.len]
    have hm := RFrames_main A n c s p xs pad w h hcs.2 hcs.1 (by omega) (by omega) (by omega) (by omega)
    rw [hC]
    by_cases hl : 4000000 < fcount n s p pad * s
    · rw [if_pos hl, if_pos hl] at hm
      rw [if_pos hl, if_neg (by decide)]
      exact hm
    · rw [if_neg hl, if_neg hl] at hm
      rw [if_neg hl, if_pos rfl]
      exact hm

end Go.Proofs.YtoljffghaklpdaaGreatDoor
