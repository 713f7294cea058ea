/- The frames of a list: the document's own. -/
import Derived.Test.YtobobbhifajhmaaP5
import Derived.Maps.AppendAt
namespace Go.Proofs.Ytobobbhifajhmaa
open Go.RowKit

/-- what decides whether another frame begins at T -/
theorem more_at {n s p : Nat} {pad : Bool} (hs : 1 ≤ s) (hp : 1 ≤ p) {k T : Nat} (hT : T = k * p) (hk : k < fcount n s p pad) : decide ((T : Int) < (n : Int)) = true ∧ (pad = true ∨ decide ((T : Int) + (s : Int) ≤ (n : Int)) = true) := by
  have := (fcount_at (pad := pad) hs hp).1 hk
  subst hT
  exact ⟨decide_eq_true (by omega), this.2.imp id (fun h => decide_eq_true (by omega))⟩
theorem more_no {n s p : Nat} {pad : Bool} (hs : 1 ≤ s) (hp : 1 ≤ p) {k T : Nat} (hT : T = k * p) (hk : ¬ k < fcount n s p pad) : decide ((T : Int) < (n : Int)) = false ∨ (decide ((T : Int) < (n : Int)) = true ∧ pad = false ∧ decide ((T : Int) + (s : Int) ≤ (n : Int)) = false) := by
  have h := mt (fcount_at (pad := pad) hs hp).2 hk
  subst hT
  by_cases h1 : k * p < n
  · refine .inr ⟨decide_eq_true (by omega), ?_, decide_eq_false (fun h2 => h ⟨h1, .inr (by omega)⟩)⟩
    cases pad with
    | true => exact absurd ⟨h1, .inl rfl⟩ h
    | false => rfl
  · exact .inl (decide_eq_false (by omega))

set_option maxHeartbeats 4000000 in
set_option maxRecDepth 100000 in
theorem RFrames_main (A : Option Addr) (n c s p : Nat) (xs : List Int) (pad : Bool) (w : World) (h : Sl .i64 w A n c xs) (hv : valsB xs = true) (hn : n ≤ 200000) (hs1 : 1 ≤ s) (hs2 : s ≤ 4096) (hp1 : 1 ≤ p) (hp2 : p ≤ 4096) :
    Calls Try.prog 38 #[.slice A n c, .int .i64 (s : Int), .int .i64 (p : Int), .bool pad] w (RetRs w (if 4000000 < fcount n s p pad * s then 0 else fcount n s p pad) (frameL xs s p) (if 4000000 < fcount n s p pad * s then 5 else 0)) := by
  obtain ⟨i0, hi, hz0, hz1, hz2⟩ := info_parts info_sl
  have hl := Lib.hid h.len
  have hcap := h.cap
  have htop := h.top
  have hV := Lib.hid (Values_any A n c xs w h)
  rw [hv] at hV
  have hcl := fcount_le (n := n) (pad := pad) hp1 hs1
  have hyes := Lib.hid (fun (k T : Nat) (hT : T = k * p) => more_at (n := n) (s := s) (pad := pad) hs1 hp1 (k := k) hT)
  have hno := Lib.hid (fun (k T : Nat) (hT : T = k * p) => more_no (n := n) (s := s) (pad := pad) hs1 hp1 (k := k) hT)
  have hct := Lib.hid (show ∀ t, t < fcount n s p pad → t * p < n from fun t ht => ((fcount_at (pad := pad) hs1 hp1).1 ht).1)
  generalize fcount n s p pad = cnt at *
  obtain ⟨N, hN⟩ : ∃ N, (if 4000000 < cnt * s then 0 else cnt) = N := ⟨_, rfl⟩
  obtain ⟨C, hC⟩ : ∃ C : Int, (if 4000000 < cnt * s then 5 else 0) = C := ⟨_, rfl⟩
  rw [hN, hC]
  have hN' := Lib.hid hN
  have hC' := Lib.hid hC
  clear hN hC
  have d0 : decide (200000 < (n : Int)) = false := decide_eq_false (by omega)
  have d1 : decide ((s : Int) < 1) = false := decide_eq_false (by omega)
  have d2 : decide (4096 < (s : Int)) = false := decide_eq_false (by omega)
  have d3 : decide ((p : Int) < 1) = false := decide_eq_false (by omega)
  have d4 : decide (4096 < (p : Int)) = false := decide_eq_false (by omega)
  clear hv
  go_enter Try.func38, Try.ntmps38
  go_wp2_with (go_at_call 40; refine hV.out.mono ?_; rintro e w' ⟨rfl, rfl⟩)
  clear d0 d1 d2 d3 d4
  go_loopw [10, 11] (fun mv tv wr => ∃ k T : Nat, k ≤ cnt ∧ mv = .int .i64 k ∧ tv = .int .i64 T ∧ Hid (T = k * p) ∧ w = wr) (fun mv _ _ => cnt - (intOf mv).toNat)
  case atStart => exact ⟨0, 0, Nat.zero_le _, rfl, rfl, show 0 = 0 * p by omega, rfl⟩
  case round =>
    obtain ⟨k, T, hk, rfl, rfl, hT, hwr⟩ := hrel
    subst hwr
    rcases Nat.lt_or_ge k cnt with hlt | hge
    · obtain ⟨hd1, hd2⟩ := hyes.out k T hT.out hlt
      have hTn : T < n := by have := hct.out k hlt; rw [← hT.out] at this; exact this
      have hT2 : Hid (T + p = (k + 1) * p) := by show T + p = (k + 1) * p; rw [Nat.add_mul, ← hT.out]; omega
      rcases hd2 with rfl | hd2
      case' inr => cases pad
      all_goals
        go_wp2
        go_roundw
        case rel => exact ⟨k + 1, T + p, hlt, by go_num, by go_num, hT2, (by trivial)⟩
        case measure => simp [intOf]; omega
    · have hkc : k = cnt := by omega
      subst hkc
      have hTn : T ≤ 200000 * 4096 := by rw [hT.out]; exact Nat.mul_le_mul (by omega) hp2
      obtain ⟨M, hM⟩ : ∃ M : Nat, (k : Int) * (s : Int) = (M : Int) := ⟨k * s, by simp⟩
      have hM2 : M = k * s := by have h2 : ((k * s : Nat) : Int) = (M : Int) := by rw [← hM]; simp
                                 omega
      have hM3 : M ≤ 200000 * 4096 := by rw [hM2]; exact Nat.mul_le_mul (by omega) hs2
      have hMl := Lib.hid hM2
      have hj := hno.out k T hT.out (by omega)
      clear hM2
      have hj2 : (¬ T < n ∧ decide ((T : Int) < (n : Int)) = false) ∨ (T < n ∧ decide ((T : Int) < (n : Int)) = true ∧ pad = false ∧ ¬ (T : Int) + (s : Int) ≤ (n : Int)) := by
        rcases hj with hj | ⟨hj1, hj2, hj3⟩
        · exact .inl ⟨by have := of_decide_eq_false hj; omega, hj⟩
        · exact .inr ⟨by have := of_decide_eq_true hj1; omega, hj1, hj2, of_decide_eq_false hj3⟩
      by_cases hbig : 4000000 < M
      · have hNN := Lib.hid (show N = 0 by rw [← hN'.out, if_pos (by rw [← hMl.out]; exact hbig)])
        have hCC := Lib.hid (show C = 5 by rw [← hC'.out, if_pos (by rw [← hMl.out]; exact hbig)])
        clear hj
        rcases hj2 with ⟨hj0, hj1⟩ | ⟨hj0, hj1, rfl, hj3⟩
        all_goals
          go_wp2
          go_ret2
          exact ⟨none, 0, _, _, _, by rw [hNN.out, hCC.out]; rfl, by rw [hNN.out]; exact rs_nil _ _, Below.refl _ _⟩
      · have hNN := Lib.hid (show N = k by rw [← hN'.out, if_neg (by rw [← hMl.out]; exact hbig)])
        have hCC := Lib.hid (show C = 0 by rw [← hC'.out, if_neg (by rw [← hMl.out]; exact hbig)])
        clear hj
        rcases hj2 with ⟨hj0, hj1⟩ | ⟨hj0, hj1, rfl, hj3⟩
        all_goals
          go_wp2
          go_loopw [12, 13] (fun ov tv wr => ∃ (t : Nat) (V : Value) (G : Nat → Nat), V = ov ∧ tv = .int .i64 t ∧ t ≤ k ∧ OwnRs wr w.heap.size V t G s (frameL xs s p) ∧ Below w.heap.size w wr) (fun _ tv _ => k - (intOf tv).toNat)
          case atStart => exact ⟨0, _, _, rfl, rfl, Nat.zero_le _, OwnRs.nil_ _ _ _ _, Below.refl _ _⟩
          case round =>
            obtain ⟨t, V, G, rfl, rfl, htk, hO, hb⟩ := hrel
            rcases Nat.lt_or_ge t k with hlt | hge
            · obtain ⟨wo, rfl⟩ : ∃ wo, wo = wr := ⟨_, rfl⟩
              have hr := h.below hb
              have hmk := make_int s (by omega) wo
              have hFl : Fill wo (wo.alloc (.cells (ivs .i64 (zs s)).toArray 3)) wo.heap.size 3 s 0 (fun i => xs.getD (t * p + i) 0) := Fill.start (Below.refl _ _) rfl
              obtain ⟨U, hU⟩ : ∃ U : Nat, (t : Int) * (p : Int) = (U : Int) := ⟨t * p, by simp⟩
              have hU2 := Lib.hid (show U = t * p by have h2 : ((t * p : Nat) : Int) = (U : Int) := by rw [← hU]; simp
                                                     omega)
              have hUn : U < n := by rw [hU2.out]; exact hct.out t hlt
              go_wp2
              go_loopw [15] (fun iv w' => ∃ i : Nat, iv = .int .i64 i ∧ i ≤ s ∧ Fill wo w' wo.heap.size 3 s i (fun i => xs.getD (t * p + i) 0)) (fun iv _ => s - (intOf iv).toNat)
              case atStart => exact ⟨0, rfl, Nat.zero_le _, hFl⟩
              case round =>
                clear hFl hmk
                obtain ⟨i, rfl, his, hF⟩ := hrel
                rcases Nat.lt_or_ge i s with hlti | hgei
                · obtain ⟨Z, hZ⟩ : ∃ Z : Nat, (U : Int) + (i : Int) = (Z : Int) := ⟨U + i, by simp⟩
                  have hZ2 := Lib.hid (show Z = t * p + i by rw [← hU2.out]; omega)
                  have hZb : Z ≤ 204096 := by omega
                  obtain ⟨y0, hcy⟩ := hF.cell hlti
                  have hcf := hF.frozen i
                  by_cases hin : Z < n
                  · have hr2 := hr.below hF.bel
                    obtain ⟨ad, y, rfl, hcx, hy⟩ := hr2.at_ hin
                    have hyv := Lib.hid (show y = xs.getD (t * p + i) 0 by rw [← hZ2.out]; exact hy.out.symm)
                    go_wp2
                    go_roundw
                    case rel => exact ⟨i + 1, by go_num, hlti, hF.next hlti hyv.out⟩
                    case measure => simp [intOf]; omega
                  · have hyv : xs.getD (t * p + i) 0 = 0 := getD_out (by rw [← hZ2.out, hl.out]; omega)
                    have hFz := Lib.hid (hF.zero hlti hyv)
                    clear hyv
                    go_wp2
                    go_roundw
                    case rel => exact ⟨i + 1, by go_num, hlti, hFz.out⟩
                    case measure => simp [intOf]; omega
                · have his' : i = s := by omega
                  subst his'
                  have hO2 := hO.below hF.bel
                  have hm := hF.own
                  rw [Nat.sub_self, show zs 0 = [] from rfl, List.append_nil] at hm
                  have hm2 : Mk wr wo.heap.size 3 .i64 (frameL xs i p t) := hm
                  have hb2 := hb.trans (hF.bel.mono hb.size)
                  have hone : ∀ u ∈ ([.slice (some ⟨wo.heap.size, 0, none⟩) i i] : List Value), u.oneCell' = true := by intro u hu; simp at hu; subst hu; rfl
                  have hszb := hb2.size
                  have hrow := Lib.hid (fun k (hk : V.ownBlock = some k) => (hO2.own.lt k hk).1)
                  go_wp2_with (at_builtin; refine wpList_append_lies _ rfl (.tmp 93) (.tmp 95) 47 rfl w.heap.size 22 i0 (.slice none 0 0) 1 24 Try.underlying47 hi hz0 hz1 hz2 rfl (by decide) V t (rowV G i t) rfl (own_bel hO2.own ((Below.refl wr.heap.size wr).alloc (Nat.le_refl _) _)) ⟨wr.heap.size, 0, none⟩ 1 1 [.slice (some ⟨wo.heap.size, 0, none⟩) i i] rfl rfl (cell_one_new _ _ _) hone (by omega) (by unfold maxLen; omega) (by omega) (by simp; omega) _ rfl ?_)
                  intro g cap w5 hown5 hgrow hat hlt5
                  have hO5 := hO2.push hm2 (tab_len _ _) hown5 hgrow
                  have hb5 := (hb2.alloc (o := .cells #[.slice (some ⟨wo.heap.size, 0, none⟩) i i] 22) hszb).grown hgrow (by simp; omega) (fun k hk => hrow.out k hk)
                  go_wp2
                  go_roundw
                  case rel => exact ⟨t + 1, _, _, rfl, by go_num, hlt, hO5, hb5⟩
                  case measure => simp [intOf]; omega
            · have htk' : t = k := by omega
              subst htk'
              obtain ⟨A2, c2, hV2, hRs⟩ := hO.rs (by omega)
              subst hV2
              go_wp2
              go_ret2
              exact ⟨A2, c2, _, _, _, by rw [hNN.out, hCC.out]; rfl, by rw [hNN.out]; exact hRs, hb⟩
end Go.Proofs.Ytobobbhifajhmaa
