/- Seeds: the document's. -/
import Derived.Test.YtoljffghaklpdaaGreatDoorPZ
import Derived.Test.YtoljffghaklpdaaGreatDoorNB
namespace Go.Proofs.YtoljffghaklpdaaGreatDoor
open Go.RowKit

theorem scan_at {f : Nat → Int} (i : Nat) (_ : 0 ≤ f i) : fs f (i + 1) = if (if i = 0 then 0 else f (fs f i)) < f i then i else fs f i := by
  rw [fs_succ]
  rcases Nat.eq_zero_or_pos i with h | h
  · subst h
    simp only [show fs f 0 = 0 from rfl, ite_self]
  · rw [if_neg (show ¬ i = 0 by omega)]
theorem scan_far {f : Nat → Int} (i : Nat) (h0 : 0 ≤ f i) : f (fs f (i + 1)) = if (if i = 0 then 0 else f (fs f i)) < f i then f i else (if i = 0 then 0 else f (fs f i)) := by
  rw [scan_at i h0]
  rcases Nat.eq_zero_or_pos i with h | h
  · subst h
    rw [if_pos rfl]
    split
    · rfl
    · show f 0 = 0; omega
  · rw [if_neg (show ¬ i = 0 by omega)]
    split <;> rfl
theorem own_lit1 (w : World) (base : Nat) (B : Option Addr) (L C : Nat) (hb : base ≤ w.heap.size) : (w.alloc (.cells #[.slice B L C] 28)).ownsRow base 28 1 (.slice (some ⟨w.heap.size, 0, none⟩) 1 1) 1 [.slice B L C] :=
  ⟨rfl, .inr ⟨w.heap.size, 1, #[.slice B L C], rfl, hb, Blk.new w 28 #[.slice B L C], Nat.le_refl _, by decide, rfl, rfl⟩⟩
theorem sdS_one (vs : List (List Int)) : sdS vs 1 = [vs.getD 0 []] := by
  rw [sdS_succ]
  have : sdN vs 0 = 0 := if_pos rfl
  rw [this, sdS]
  rfl

set_option maxHeartbeats 6400000 in
set_option maxRecDepth 100000 in
theorem RSeeds_any (A : Option Addr) (N c K m : Nat) (vs : List (List Int)) (w : World) (h : Rr w A N c vs) (hN : 1 ≤ N) (hN2 : N ≤ 10000) (hm : m ≤ 64) (hv : VecS m vs) (hK1 : 1 ≤ K) (hK2 : K ≤ 256) :
    Calls Tryz.prog 28 #[.slice A N c, .int .i64 (K : Int)] w fun e w' => ∃ j, SdP vs K j ∧ RetRr w j (sdS vs j) e w' := by
  have hl := Lib.hid h.len
  have hcap := h.cap
  have htop := h.top
  have hsv := Lib.hid (fun j => sd_vec hv (by rw [hl.out]; exact hN) j)
  have hv := Lib.hid hv
  have hnx := Lib.hid (fun j => show sdN vs j < N by have := sdN_lt vs j (by rw [hl.out]; exact hN); rw [hl.out] at this; exact this)
  obtain ⟨i0, hi, hz0, hz1, hz2⟩ := info_parts info_sl
  obtain ⟨j0, hj, hj0, hj1, hj2⟩ := info_parts info_int
  obtain ⟨ad, B0, L0, C0, x0, rfl, hc0, hx0, hS0, hB00, hL00⟩ := h.at_ (show 0 < N by omega)
  have hc0 : w.cell? ad = some (.slice B0 L0 C0) := by rw [show ad.add 0 = ad from by unfold Addr.add; simp] at hc0; exact hc0
  have hx0l := (hv.out x0 (List.mem_of_getElem? hx0.out)).1
  have hL0 : L0 = m := by rw [← hS0.len]; exact hx0l
  subst hL0
  have hsx := Lib.hid (Src.of_sl hS0 hB00)
  have hp0 : 0 < N := by omega
  go_enter Tryz.func28, Tryz.ntmps28
  go_wp2_with (at_builtin; refine wpList_append_any rfl (.const (.slice none 0 0)) (.tmp 12) 28 rfl w.heap.size 3 j0 (.int .i64 0) 1 8 Tryz.underlying28 hj hj0 hj1 hj2 rfl (by decide) (.slice none 0 0) 0 [] rfl (World.ownsRow_nil _ _ _ _) B0 L0 C0 (ivs .i64 x0) rfl hsx.out (by unfold maxLen; omega) (by omega) (Nat.le_refl _) ?_; intro V2 w2 h1 h2 h3; obtain ⟨A2, c2, rfl⟩ := own_slice h1)
  have hb2 : Below w.heap.size w w2 := (Below.refl w.heap.size w).grown h2 (Nat.le_refl _) (fun k e => by cases e)
  have hown2 : w2.ownsRow w.heap.size 3 1 (.slice A2 L0 c2) L0 (ivs .i64 x0) := by simpa using h1
  have hb3 := hb2.alloc hb2.size (.cells #[.slice A2 L0 c2] 28)
  have hO : OwnRr (w2.alloc (.cells #[.slice A2 L0 c2] 28)) w.heap.size (.slice (some ⟨w2.heap.size, 0, none⟩) 1 1) 1 [.slice A2 L0 c2] (sdS vs 1) := by
    rw [sdS_one, getD_some hx0.out]
    refine ⟨own_lit1 w2 w.heap.size A2 L0 c2 hb2.size, rfl, fun i v hv9 => ?_⟩
    have hi9 : i = 0 := by have := lt_of_some hv9; simpa using this
    subst hi9
    simp at hv9
    subst hv9
    refine ⟨x0, rfl, ?_, by omega⟩
    rw [hx0l]
    exact hown2.alloc _
  have hd0 : Hid (∀ i, i < 1 → 0 < sdD vs i (sdN vs i)) := fun i hi9 => by rw [show i = 0 by omega, sdD_zero]; decide
  clear h1 h2 h3 hsx hown2
  go_wp2
  generalize w2.alloc (.cells #[.slice A2 L0 c2] 28) = w3 at *
  generalize w2.heap.size = gq at *
  go_loopw [5] (fun ov wr' => ∃ (j : Nat) (V : Value) (news : List Value) (wr : World), wr = wr' ∧ V = ov ∧ 1 ≤ j ∧ j ≤ K ∧ OwnRr wr w.heap.size V j news (sdS vs j) ∧ Hid (∀ i, i < j → 0 < sdD vs i (sdN vs i)) ∧ Below w.heap.size w wr) (fun ov _ => match ov with | .slice _ n _ => K - n | _ => 0)
  case atStart => exact ⟨1, _, _, _, rfl, rfl, Nat.le_refl _, hK1, hO, hd0, hb3⟩
  case round =>
    obtain ⟨j, V, news, wr, rfl, rfl, hj1', hjK, hO2, hd, hbr⟩ := hrel
    clear hO hd0 hb3 hb2
    obtain ⟨AV, cV, rfl⟩ := own_slice hO2.own
    rcases Nat.lt_or_ge j K with hlt | hge
    · obtain ⟨Aq, cq, eq, hRj⟩ := hO2.rr
      injection eq with eq1 eq2 eq3
      subst eq1 eq3
      have hcapj := hRj.cap
      have htopj := hRj.top
      go_wp2
      go_loopw [6, 7, 8] (fun av fv iv wx' => ∃ (i : Nat) (wx : World), wx = wx' ∧ iv = .int .i64 i ∧ av = .int .i64 ((fs (sdD vs j) i : Nat) : Int) ∧ fv = .int .i64 (if i = 0 then 0 else sdD vs j (fs (sdD vs j) i)) ∧ i ≤ N ∧ Below wr.heap.size wr wx) (fun _ _ iv _ => N - (intOf iv).toNat)
      case atStart => exact ⟨0, _, rfl, rfl, rfl, rfl, Nat.zero_le _, Below.refl _ _⟩
      case round =>
        obtain ⟨i, wx, rfl, rfl, rfl, rfl, hiN, hbx⟩ := hrel
        have hbwx := hbr.trans (hbx.mono hbr.size)
        rcases Nat.lt_or_ge i N with hil | hig
        · have hr := h.below hbwx
          have hr' := hRj.below hbx
          obtain ⟨ad2, B, L, C, x, e2, hc, hx, hS, _⟩ := hr.at_ hil
          injection e2 with e2
          subst e2
          have hum := hv.out x (List.mem_of_getElem? hx.out)
          have hLm : L = L0 := by rw [← hS.len]; exact hum.1
          subst hLm
          have hxl := Lib.hid hum.1
          have hxb := Lib.hid hum.2
          have hsl := sdS_len vs j
          have hnb := (nrS_bd hxb.out (by rw [hxl.out]; exact hm) (fun u h8 => by rw [hxl.out]; exact hsv.out j u h8) (k := j) (by rw [hsl]; exact Nat.le_refl _)).2.2.2 (by omega)
          have hna := Lib.hid (nrS_at hxb.out (by rw [hxl.out]; exact hm) (fun u h8 => by rw [hxl.out]; exact hsv.out j u h8) (k := j) (by omega) (by rw [hsl]; exact Nat.le_refl _))
          have hRN := Lib.hid (fun (q : Nat) => RNearest_any B AV L C j cV x (sdS vs j) (wx.drewN q) (hS.drewN q) (hr'.below (bel_drewN (Below.refl _ _) q)) hxb.out hm (by omega) (fun u h8 => hsv.out j u h8))
          obtain ⟨Q, hQ⟩ : ∃ Q, (nrS x (sdS vs j) j).1 = Q := ⟨_, rfl⟩
          have hQ2 : Q < j := by rw [← hQ]; exact hnb.2
          rw [hQ] at hRN hna
          obtain ⟨ad9, B9, L9, C9, y9, e9, hc9, hy9, hS9, _, hLb9⟩ := hr'.at_ hQ2
          subst e9
          have hu9 := hsv.out j y9 (List.mem_of_getElem? hy9.out)
          have hL9 : L9 = L := by rw [← hS9.len]; exact hu9.1
          subst hL9
          have hRD := Lib.hid (fun (q : Nat) => RDistance_any B B9 L9 C C9 x y9 (wx.drewN q) (hS.drewN q) (hS9.drewN q) hm hxb.out hu9.2)
          have hE := Lib.hid (show dist x y9 = sdD vs j i by unfold sdD; rw [getD_some hx.out, hna.out, getD_some hy9.out])
          rw [hE.out] at hRD
          have hsa := Lib.hid (scan_at (f := sdD vs j) i (sdD_nn vs j i))
          have hsf := Lib.hid (scan_far (f := sdD vs j) i (sdD_nn vs j i))
          have hsf2 := Lib.hid (show (if i + 1 = 0 then (0 : Int) else sdD vs j (fs (sdD vs j) (i + 1))) = sdD vs j (fs (sdD vs j) (i + 1)) from if_neg (by omega))
          obtain ⟨F, hF⟩ : ∃ F, (if i = 0 then (0 : Int) else sdD vs j (fs (sdD vs j) i)) = F := ⟨_, rfl⟩
          rw [hF] at hsa hsf ⊢
          obtain ⟨E, hEe⟩ : ∃ E, sdD vs j i = E := ⟨_, rfl⟩
          rw [hEe] at hsa hsf hRD
          have hF := Lib.hid hF
          have hEe := Lib.hid hEe
          clear hum hu9 hQ hnb hE hna
          have i0' : (0 : Int) ≤ (i : Int) := by omega
          have i1 : (i : Int) < (N : Int) := by omega
          have i2 : (0 : Int) ≤ (Q : Int) := by omega
          have i3 : (Q : Int) < (j : Int) := by omega
          by_cases hFE : F < E
          · rw [if_pos hFE] at hsa hsf
            have hq : decide (F < E) = true := decide_eq_true hFE
            go_wp2
            go_quiet (first | (go_at_call 83; exact Calls.quiet_of (hRN.out _)) | (go_at_call 82; exact Calls.quiet_of (hRD.out _)))
            have hbz := bel_drewN hbx nq
            generalize wx.drewN nq = wz at *
            go_wp2
            go_roundw
            case rel => exact ⟨i + 1, _, rfl, by go_num, by rw [hsa.out], by rw [hsf2.out, hsf.out], hil, hbz⟩
            case measure => simp [intOf]; omega
          · rw [if_neg hFE] at hsa hsf
            have hq : decide (F < E) = false := decide_eq_false hFE
            go_wp2
            go_quiet (first | (go_at_call 83; exact Calls.quiet_of (hRN.out _)) | (go_at_call 82; exact Calls.quiet_of (hRD.out _)))
            have hbz := bel_drewN hbx nq
            generalize wx.drewN nq = wz at *
            go_wp2
            go_roundw
            case rel => exact ⟨i + 1, _, rfl, by go_num, by rw [hsa.out], by rw [hsf2.out, hsf.out], hil, hbz⟩
            case measure => simp [intOf]; omega
        · have hiN' : N = i := by omega
          subst hiN'
          have hnn := sdD_nn vs j (fs (sdD vs j) N)
          have hsn := Lib.hid (show sdN vs j = fs (sdD vs j) N by unfold sdN; rw [if_neg (by omega), hl.out])
          have hfin : (if N = 0 then (0 : Int) else sdD vs j (fs (sdD vs j) N)) = sdD vs j (fs (sdD vs j) N) := if_neg (by omega)
          rw [hfin]
          obtain ⟨nx, hnxe⟩ : ∃ nx, fs (sdD vs j) N = nx := ⟨_, rfl⟩
          rw [hnxe] at hsn hnn ⊢
          obtain ⟨dv, hdv⟩ : ∃ dv, sdD vs j nx = dv := ⟨_, rfl⟩
          rw [hdv] at hnn ⊢
          have hnlt : nx < N := by have := hnx.out j; rw [hsn.out] at this; exact this
          have hnxe := Lib.hid hnxe
          have hdv := Lib.hid hdv
          clear hfin
          by_cases hz : dv = 0
          · have hstop := Lib.hid (show sdD vs j (sdN vs j) ≤ 0 by rw [hsn.out, hdv.out, hz]; exact Int.le_refl _)
            have hzz : (dv == 0) = true := by simp [hz]
            have hRe := hRj.below hbx
            go_wp2
            go_ret
            exact ⟨j, ⟨hjK, hd.out, fun _ => hstop.out⟩, _, _, rfl, hRe, hbwx⟩
          · have hzz : (dv == 0) = false := by rw [beq_eq_false_iff_ne]; exact hz
            have hd2 := Lib.hid (show ∀ i, i < j + 1 → 0 < sdD vs i (sdN vs i) from fun i hi9 => by
              rcases Nat.lt_or_ge i j with h9 | h9
              · exact hd.out i h9
              · rw [show i = j by omega, hsn.out, hdv.out]; omega)
            obtain ⟨ad2, B, L, C, x, e2, hc, hx, hS, hB0, hL0'⟩ := (h.below hbwx).at_ hnlt
            injection e2 with e2
            subst e2
            have hxl := (hv.out x (List.mem_of_getElem? hx.out)).1
            have hLm : L = L0 := by rw [← hS.len]; exact hxl
            subst hLm
            have hsx := Lib.hid (Src.of_sl hS hB0)
            have hO4 := hO2.below hbx
            have hS2 := Lib.hid (show sdS vs (j + 1) = sdS vs j ++ [x] by rw [sdS_succ, hsn.out, getD_some hx.out])
            have hrow := Lib.hid (fun q (hq : (Value.slice AV j cV).ownBlock = some q) => (hO4.own.lt q hq).1)
            have i0' : (0 : Int) ≤ (nx : Int) := by omega
            have i1 : (nx : Int) < (N : Int) := by omega
            go_wp2_with (first
              | (at_builtin; refine wpList_append_any rfl (.const (.slice none 0 0)) (.tmp 51) 28 rfl wx.heap.size 3 j0 (.int .i64 0) 1 8 Tryz.underlying28 hj hj0 hj1 hj2 rfl (by decide) (.slice none 0 0) 0 [] rfl (World.ownsRow_nil _ _ _ _) B L C (ivs .i64 x) rfl hsx.out (by unfold maxLen; omega) (by omega) (Nat.le_refl _) ?_; intro V3 w4 g1 g2 g3; obtain ⟨A3, c3, rfl⟩ := own_slice g1; have hb4 : Below wx.heap.size wx w4 := (Below.refl wx.heap.size wx).grown g2 (Nat.le_refl _) (fun q e => by cases e); have hs3 : w4.ownsRow w.heap.size 3 1 (.slice A3 L c3) L (ivs .i64 x) := own_mono (by simpa using g1) hbwx.size; have hO5 := hO4.below hb4; have hbel5 := hbwx.trans (hb4.mono hbwx.size); have hsrc := Lib.hid (src_lit w4 28 A3 L c3); have hbz : w.heap.size ≤ (w4.alloc (.cells #[.slice A3 L c3] 28)).heap.size := (by have := hbel5.size; simp; omega); clear g1 g2 g3)
              | (at_builtin; refine wpList_append_any rfl (.tmp 47) (.tmp 53) 34 rfl w.heap.size 28 i0 nilV 1 24 Tryz.underlying34 hi hz0 hz1 hz2 rfl (by decide) (.slice AV j cV) j news rfl (hO5.own.alloc _) (some ⟨w4.heap.size, 0, none⟩) 1 1 [.slice A3 L c3] rfl hsrc.out (by unfold maxLen; omega) (by omega) hbz ?_; intro V4 w5 g4 g5 g6; have hO6 := OwnRr.push hO5 (x := x) (by rw [hxl]; exact hs3) (by rw [hxl]; omega) g4 g5; obtain ⟨A4, c4, rfl⟩ := own_slice g4; have hb7 : Below w.heap.size w w5 := (hbel5.alloc hbel5.size _).grown g5 hbz hrow.out; clear g4 g5 g6))
            go_wp2
            go_roundw
            case rel => exact ⟨j + 1, _, _, _, rfl, rfl, by omega, hlt, by rw [hS2.out]; exact hO6, hd2.out, hb7⟩
            case measure => simp only []; omega
    · have hjK' : K = j := by omega
      subst hjK'
      obtain ⟨Aq, cq, eq, hRj⟩ := hO2.rr
      injection eq with eq1 eq2 eq3
      subst eq1 eq3
      go_wp2
      go_ret
      exact ⟨K, ⟨Nat.le_refl _, hd.out, fun e9 => absurd e9 (Nat.lt_irrefl _)⟩, _, _, rfl, hRj, hbr⟩
end Go.Proofs.YtoljffghaklpdaaGreatDoor
