/- A recording at another rate: the whole call. -/
import Derived.Test.YtobobbhifajhmaaV6
import Derived.Deep.RegionWith
import Derived.Laws.ResultCell
namespace Go.Proofs.Ytobobbhifajhmaa
open Go.RowKit

theorem smooth0_any (A : Option Addr) (c : Nat) (wd : Int) (w : World) :
    Calls Try.prog 93 #[.slice A 0 c, .int .i64 wd] w fun e w' => e = .returned (.slice none 0 0) ∧ w.alloc (.cells #[.slice A 0 c] 22) = w' := by
  go_enter Try.func93, Try.ntmps93
  go_wp2
  go_ret
  exact ⟨rfl, rfl⟩
theorem interpolate0_any (A : Option Addr) (c : Nat) (u d : Int) (w : World) (hu1 : 1 ≤ u) (hu2 : u ≤ 16) (hd1 : 1 ≤ d) (hd2 : d ≤ 16) :
    Calls Try.prog 72 #[.slice A 0 c, .int .i64 u, .int .i64 d, .int .i64 0] w (RetL .i64 w []) := by
  have hmk : ∀ w : World, (Instr.makeSlice 22 (.int .i64 0) (.int .i64 0)).run Try.prog w = .ok (.slice (some ⟨w.heap.size, 0, none⟩) 0 0) (w.alloc (.cells #[] 3)) := fun w => make_int 0 (by omega) w
  go_enter Try.func72, Try.ntmps72
  go_wp2_with fail
  refine (divideUp_any _ _ _ (by omega) (by omega) (by omega) (by omega)).mono ?_
  rintro e w' ⟨rfl, rfl⟩
  go_wp2_with fail
  refine (smooth0_any _ _ _ _).mono ?_
  rintro e w' ⟨rfl, rfl⟩
  go_wp2
  go_loop [23] (fun iv => iv = .int .i64 0) (fun _ => 0)
  case atStart => rfl
  case round =>
    subst hrel
    go_wp2
    go_ret
    exact ⟨_, _, _, rfl, ⟨rfl, Nat.le_refl _, by decide, fun h => absurd h (by omega)⟩, ((Below.refl _ _).alloc (Nat.le_refl _) _).alloc (by simp) _, fresh_at (by simp)⟩

theorem interpolate_all (A : Option Addr) (n c u d m : Nat) (xs : List Int) (w : World) (h : Sl .i64 w A n c xs) (hn : n ≤ 200000) (hx : ∀ x ∈ xs, -32768 ≤ x ∧ x ≤ 32768)
    (hu1 : 1 ≤ u) (hu2 : u ≤ 16) (hd1 : 1 ≤ d) (hd2 : d ≤ 16) (hm : m ≤ 200000) (hlt : ∀ j, j < m → j * d / u < n) :
    Calls Try.prog 72 #[.slice A n c, .int .i64 (u : Int), .int .i64 (d : Int), .int .i64 (m : Int)] w (RetL .i64 w (tab m (ipAt xs u d))) := by
  rcases Nat.eq_zero_or_pos n with rfl | hp
  · have hm0 : m = 0 := by
      rcases Nat.eq_zero_or_pos m with h0 | h0
      · exact h0
      · exact absurd (hlt 0 h0) (Nat.not_lt_zero _)
    subst hm0
    exact interpolate0_any A c u d w (by omega) (by omega) (by omega) (by omega)
  · exact interpolate_any A n c u d m xs w h hp hn hx hu1 hu2 hd1 hd2 hm hlt
theorem cnt_lt {n u d m : Nat} (hu : 1 ≤ u) (hd : 1 ≤ d) (hm : (((n : Int) * u + d - 1) / d : Int) = (m : Int)) : ∀ j, j < m → j * d / u < n := by
  intro j hj
  rw [Nat.div_lt_iff_lt_mul (by omega)]
  have h1 : ((j : Int) + 1) ≤ ((n : Int) * u + d - 1) / d := by rw [hm]; omega
  have h2 := Int.mul_le_of_le_ediv (by omega) h1
  rw [Int.add_mul] at h2
  have e1 : ((j * d : Nat) : Int) = (j : Int) * d := Int.natCast_mul _ _
  have e2 : ((n * u : Nat) : Int) = (n : Int) * u := Int.natCast_mul _ _
  omega

/-- what Resample returns -/
def rsCnt (n : Nat) (u d : Int) : Int := ((n : Int) * u + d - 1) / d
def rsC (rate : Int) (xs : List Int) (u d : Int) : Int :=
  if chkR rate xs = 0 then (if okB 1 16 u && okB 1 16 d then (if rate * u % d = 0 then (if rate * u / d ≤ 192000 then (if rsCnt xs.length u d ≤ 200000 then 0 else 5) else 2) else 2) else 2) else chkR rate xs
def rsR (rate : Int) (xs : List Int) (u d : Int) : Int := if rsC rate xs u d = 0 then rate * u / d else 0
def rsL (rate : Int) (xs : List Int) (u d : Int) : List Int := if rsC rate xs u d = 0 then tab (rsCnt xs.length u d).toNat (ipAt xs u.toNat d.toNat) else []

def RetRec (w : World) (rate : Int) (ys : List Int) (code : Int) (e : Ending) (w' : World) : Prop :=
  ∃ A m c, e = .returned (.tuple #[.agg #[.int .i64 rate, .slice A m c], .int .i64 code]) ∧ Sl .i64 w' A m c ys ∧ Below w.heap.size w w'

theorem load_rec {g : Nat} {W : World} {a b : Value} (h : Blk W g 24 #[a, b]) : (loadVar 24 ⟨g, 0, none⟩).run Try.prog W = .ok (.agg #[a, b]) W := by
  have q0 : W.cell? ⟨g, 0, none⟩ = some a := h.cell 0
  have q1 : W.cell? ⟨g, 1, none⟩ = some b := h.cell 1
  simp [go_sem, q0, q1]
theorem ret_rec2 {fn : Func} {R : Ending → World → Prop} {act : Act} {W : World} {g p u : Nat} {a b : Value} (hr : fn.results = #[.cell p 24, .tmp u]) (hs : act.tmps.getD p undef = .pointer (some ⟨g, 0, none⟩))
    (hB : Blk W g 24 #[a, b]) (hd : act.defers = []) (hR : R (.returned (.tuple #[.agg #[a, b], act.tmps.getD u undef])) W) : bodyPost Try.prog fn R .ret act W :=
  bodyPost_ret (v := .tuple #[.agg #[a, b], act.tmps.getD u undef]) (by rw [results_cell_tmp hr, hs]; simp [asAddr, load_rec hB]) hd hR

theorem chkR_cases (rate : Int) (xs : List Int) : (chkR rate xs = 0 ∧ xs.length ≤ 200000 ∧ allB (-32768) 32767 xs = true ∧ 1 ≤ rate ∧ rate ≤ 192000) ∨ chkR rate xs = 2 ∨ chkR rate xs = 5 := by
  unfold chkR
  rcases chk_cases (-32768) 32767 xs with ⟨_, h2⟩ | ⟨h1, ha, h2⟩ | ⟨_, _, h2⟩ <;> rw [h2]
  · exact .inr (.inr rfl)
  · cases h3 : okB 1 192000 rate with
    | true => exact .inl ⟨rfl, h1, ha, (okB_iff.1 h3).1, (okB_iff.1 h3).2⟩
    | false => exact .inr (.inl rfl)
  · exact .inr (.inl rfl)

set_option maxHeartbeats 1600000 in
set_option maxRecDepth 100000 in
theorem Resample_any (rate : Int) (A : Option Addr) (n c : Nat) (xs : List Int) (u d : Int) (w : World) (h : Sl .i64 w A n c xs) :
    Calls Try.prog 31 #[.agg #[.int .i64 rate, .slice A n c], .int .i64 u, .int .i64 d] w (RetRec w (rsR rate xs u d) (rsL rate xs u d) (rsC rate xs u d)) := by
  have hB0 := (Blk.new w 24 #[.int .i64 rate, .slice A n c]).alloc (.cells #[.int .i64 0, .slice none 0 0] 24)
  have hR0 := Blk.new (w.alloc (.cells #[.int .i64 rate, .slice A n c] 24)) 24 #[.int .i64 0, .slice none 0 0]
  rw [show (w.alloc (.cells #[.int .i64 rate, .slice A n c] 24)).heap.size = w.heap.size + 1 from by simp] at hR0
  have hw0 := ((Below.refl w.heap.size w).alloc (Nat.le_refl _) (.cells #[.int .i64 rate, .slice A n c] 24)).alloc (by simp) (.cells #[.int .i64 0, .slice none 0 0] 24)
  have h1 := h.below hw0
  have hl := Lib.hid h.len
  have hcap := h.cap
  have htop := h.top
  rcases chkR_cases rate xs with ⟨hk, hn, hall, hr1, hr2⟩ | hk | hk
  · have hall := Lib.hid hall
    rw [hl.out] at hn
    have hk' := Lib.hid hk
    cases hu : okB 1 16 u with
    | false =>
      have hC := Lib.hid (show rsC rate xs u d = 2 by unfold rsC; rw [hk, hu]; rfl)
      have hL := Lib.hid (show rsL rate xs u d = [] by unfold rsL; rw [hC.out]; rfl)
      have hR := Lib.hid (show rsR rate xs u d = 0 by unfold rsR; rw [hC.out]; rfl)
      clear hk
      go_enter Try.func31, Try.ntmps31
      go_wp2_with fail
      generalize (w.alloc (.cells #[.int .i64 rate, .slice A n c] 24)).alloc (.cells #[.int .i64 0, .slice none 0 0] 24) = w1 at *
      refine (checkRecording_any _ _ _ _ _ _ h1).mono ?_
      rintro e w2 ⟨rfl, hb2⟩
      rw [hk'.out]
      have hR2 := hR0.below hb2
      have hB2 := hB0.below hb2
      have b0 := hB2.cell 0
      have b1 := hB2.cell 1
      have f0 := hR2.frozen 0
      have f1 := hR2.frozen 1
      have c0 := hR2.cell 0
      have c1 := hR2.cell 1
      have hsz := hb2.size
      have hsz0 := hw0.size
      go_wp2_with (go_at_call 70; refine (within_any _ _ _ _).mono ?_; rintro e w' ⟨rfl, rfl⟩)
      exact ret_rec2 rfl rfl ((hR2.set_ 0 _).set_ 1 _) rfl ⟨none, 0, 0, by rw [hR.out, hC.out]; rfl, by rw [hL.out]; exact Sl.nil _ _, ((hw0.trans (hb2.mono hsz0)).setCell (p := ⟨w.heap.size + 1, 0, none⟩) (by simp) _).setCell (p := ⟨w.heap.size + 1, 1, none⟩) (by simp) _⟩
    | true =>
      cases hd : okB 1 16 d with
      | false =>
        have hC := Lib.hid (show rsC rate xs u d = 2 by unfold rsC; rw [hk, hu, hd]; rfl)
        have hL := Lib.hid (show rsL rate xs u d = [] by unfold rsL; rw [hC.out]; rfl)
        have hR := Lib.hid (show rsR rate xs u d = 0 by unfold rsR; rw [hC.out]; rfl)
        clear hk
        go_enter Try.func31, Try.ntmps31
        go_wp2_with fail
        generalize (w.alloc (.cells #[.int .i64 rate, .slice A n c] 24)).alloc (.cells #[.int .i64 0, .slice none 0 0] 24) = w1 at *
        refine (checkRecording_any _ _ _ _ _ _ h1).mono ?_
        rintro e w2 ⟨rfl, hb2⟩
        rw [hk'.out]
        have hR2 := hR0.below hb2
        have hB2 := hB0.below hb2
        have b0 := hB2.cell 0
        have b1 := hB2.cell 1
        have f0 := hR2.frozen 0
        have f1 := hR2.frozen 1
        have c0 := hR2.cell 0
        have c1 := hR2.cell 1
        have hsz := hb2.size
        have hsz0 := hw0.size
        go_wp2_with (go_at_call 70; refine (within_any _ _ _ _).mono ?_; rintro e w' ⟨rfl, rfl⟩)
        exact ret_rec2 rfl rfl ((hR2.set_ 0 _).set_ 1 _) rfl ⟨none, 0, 0, by rw [hR.out, hC.out]; rfl, by rw [hL.out]; exact Sl.nil _ _, ((hw0.trans (hb2.mono hsz0)).setCell (p := ⟨w.heap.size + 1, 0, none⟩) (by simp) _).setCell (p := ⟨w.heap.size + 1, 1, none⟩) (by simp) _⟩
      | true =>
        obtain ⟨hu1, hu2⟩ := okB_iff.1 hu
        obtain ⟨hd1, hd2⟩ := okB_iff.1 hd
        have hru1 : 0 ≤ rate * u := Int.mul_nonneg (by omega) (by omega)
        have hru2 : rate * u ≤ 192000 * 16 := Int.mul_le_mul hr2 hu2 (by omega) (by omega)
        by_cases hm : rate * u % d = 0
        · by_cases hg : rate * u / d ≤ 192000
          · by_cases hc : rsCnt n u d ≤ 200000
            · obtain ⟨U, rfl⟩ : ∃ U : Nat, u = (U : Int) := ⟨u.toNat, by omega⟩
              obtain ⟨D, rfl⟩ : ∃ D : Nat, d = (D : Int) := ⟨d.toNat, by omega⟩
              obtain ⟨M, hM⟩ : ∃ M : Nat, rsCnt n U D = (M : Int) := ⟨(rsCnt n U D).toNat, by
                have : 0 ≤ rsCnt n U D := Int.ediv_nonneg (by have := Int.mul_nonneg (Int.natCast_nonneg n) (Int.natCast_nonneg U); omega) (by omega)
                omega⟩
              have hC := Lib.hid (show rsC rate xs U D = 0 by unfold rsC; rw [hk, hu, hd, hm, if_pos hg, hl.out, if_pos hc]; rfl)
              have hL := Lib.hid (show rsL rate xs U D = tab M (ipAt xs U D) by unfold rsL; rw [hC.out, hl.out, hM]; rfl)
              have hR := Lib.hid (show rsR rate xs U D = rate * U / D by unfold rsR; rw [hC.out]; rfl)
              have hM2 := Lib.hid (show ((n : Int) * U + D - 1) / D = (M : Int) from hM)
              rw [hM] at hc
              have hnu1 : 0 ≤ (n : Int) * (U : Int) := Int.mul_nonneg (by omega) (by omega)
              have hnu2 : (n : Int) * (U : Int) ≤ 200000 * 16 := Int.mul_le_mul (by omega) hu2 (by omega) (by omega)
              have hd' := hd2
              clear hk
              go_enter Try.func31, Try.ntmps31
              go_wp2_with fail
              generalize (w.alloc (.cells #[.int .i64 rate, .slice A n c] 24)).alloc (.cells #[.int .i64 0, .slice none 0 0] 24) = w1 at *
              refine (checkRecording_any _ _ _ _ _ _ h1).mono ?_
              rintro e w2 ⟨rfl, hb2⟩
              rw [hk'.out]
              have hR2 := hR0.below hb2
              have hB2 := hB0.below hb2
              have b0 := hB2.cell 0
              have b1 := hB2.cell 1
              have f0 := hR2.frozen 0
              have f1 := hR2.frozen 1
              have c0 := hR2.cell 0
              have c1 := hR2.cell 1
              have hsz := hb2.size
              have hsz0 := hw0.size
              go_wp2_with (go_at_call 70; refine (within_any _ _ _ _).mono ?_; rintro e w' ⟨rfl, rfl⟩)
              refine (divideUp_any _ _ _ (by omega) (by omega) (by omega) (by omega)).mono ?_
              rintro e w' ⟨rfl, rfl⟩
              rw [hM2.out]
              go_wp2_with fail
              have hcl := Lib.hid (cnt_lt (n := n) (u := U) (d := D) (m := M) (by omega) (by omega) hM2.out)
              have hx3 := Lib.hid (show ∀ x ∈ xs, -32768 ≤ x ∧ x ≤ 32768 from fun x hx => by have := allB_mem hall.out x hx; omega)
              have h2 := h1.below hb2
              have wq : IntKind.i64.wrap ((rate * (U : Int)).tdiv (D : Int)) = rate * U / D := by
                rw [Int.tdiv_eq_ediv_of_nonneg hru1]
                exact IntWalk.i64_in _ (by have := Int.ediv_nonneg hru1 (show (0 : Int) ≤ D by omega); omega)
              have hD0 : ¬ D = 0 := by omega
              go_region_held3 (fun wx => wx.cell? ⟨w.heap.size, 1, none⟩ = some (.slice A n c)) (first | exact b1 | exact e1 | go_keep)
                (first | (go_at_call 72; refine (interpolate_all _ _ _ _ _ _ _ _ h2.drew hn hx3.out (by omega) (by omega) (by omega) (by omega) (by omega) hcl.out).mono ?_; rintro e w5 ⟨A5, m5, c5, rfl, hS5, hb5, hf5⟩; have hB5 := hB2.drew.below hb5; have e1 : w5.cell? ⟨w.heap.size, 1, none⟩ = some (.slice A n c) := hB5.cell 1; have hR5 := hR2.drew.below hb5; have g0 := hR5.frozen 0; have g1 := hR5.frozen 1; have k0 := hR5.cell 0; have k1 := hR5.cell 1))
              all_goals
                clear wq
                go_wp2
                have hfr := Lib.hid (show 0 < m5 → ∀ ad, A5 = some ad → ad.block ≠ w.heap.size + 1 from fun _ ad he => by have h7 := hf5.out ad he; have h8 := hR2.lt; have h9 : w2.drew.heap.size = w2.heap.size := rfl; omega)
                exact ret_rec2 rfl rfl ((hR5.set_ 0 _).set_ 1 _) rfl ⟨A5, m5, c5, by rw [hR.out, hC.out]; rfl, by rw [hL.out]; exact (hS5.farn hfr.out 0 _).farn hfr.out 1 _, (((bel_drewN (hw0.trans (hb2.mono hsz0)) 1).trans (hb5.mono (Nat.le_trans hsz0 hsz))).setCell (p := ⟨w.heap.size + 1, 0, none⟩) (by simp) _).setCell (p := ⟨w.heap.size + 1, 1, none⟩) (by simp) _⟩
            · have hC := Lib.hid (show rsC rate xs u d = 5 by unfold rsC; rw [hk, hu, hd, hm, if_pos hg, hl.out, if_neg hc]; rfl)
              have hL := Lib.hid (show rsL rate xs u d = [] by unfold rsL; rw [hC.out]; rfl)
              have hR := Lib.hid (show rsR rate xs u d = 0 by unfold rsR; rw [hC.out]; rfl)
              have hnu1 : 0 ≤ (n : Int) * u := Int.mul_nonneg (by omega) (by omega)
              have hnu2 : (n : Int) * u ≤ 200000 * 16 := Int.mul_le_mul (by omega) hu2 (by omega) (by omega)
              have hc2 : 200000 < ((n : Int) * u + d - 1) / d := by unfold rsCnt at hc; omega
              clear hk
              go_enter Try.func31, Try.ntmps31
              go_wp2_with fail
              generalize (w.alloc (.cells #[.int .i64 rate, .slice A n c] 24)).alloc (.cells #[.int .i64 0, .slice none 0 0] 24) = w1 at *
              refine (checkRecording_any _ _ _ _ _ _ h1).mono ?_
              rintro e w2 ⟨rfl, hb2⟩
              rw [hk'.out]
              have hR2 := hR0.below hb2
              have hB2 := hB0.below hb2
              have b0 := hB2.cell 0
              have b1 := hB2.cell 1
              have f0 := hR2.frozen 0
              have f1 := hR2.frozen 1
              have c0 := hR2.cell 0
              have c1 := hR2.cell 1
              have hsz := hb2.size
              have hsz0 := hw0.size
              go_wp2_with (first | (go_at_call 70; refine (within_any _ _ _ _).mono ?_; rintro e w' ⟨rfl, rfl⟩) | (go_at_call 71; refine (divideUp_any _ _ _ (by omega) (by omega) (by omega) (by omega)).mono ?_; rintro e w' ⟨rfl, rfl⟩))
              exact ret_rec2 rfl rfl ((hR2.set_ 0 _).set_ 1 _) rfl ⟨none, 0, 0, by rw [hR.out, hC.out]; rfl, by rw [hL.out]; exact Sl.nil _ _, ((hw0.trans (hb2.mono hsz0)).setCell (p := ⟨w.heap.size + 1, 0, none⟩) (by simp) _).setCell (p := ⟨w.heap.size + 1, 1, none⟩) (by simp) _⟩
          · have hC := Lib.hid (show rsC rate xs u d = 2 by unfold rsC; rw [hk, hu, hd, hm, if_neg hg]; rfl)
            have hL := Lib.hid (show rsL rate xs u d = [] by unfold rsL; rw [hC.out]; rfl)
            have hR := Lib.hid (show rsR rate xs u d = 0 by unfold rsR; rw [hC.out]; rfl)
            have hg : 192000 < rate * u / d := by omega
            clear hk
            go_enter Try.func31, Try.ntmps31
            go_wp2_with fail
            generalize (w.alloc (.cells #[.int .i64 rate, .slice A n c] 24)).alloc (.cells #[.int .i64 0, .slice none 0 0] 24) = w1 at *
            refine (checkRecording_any _ _ _ _ _ _ h1).mono ?_
            rintro e w2 ⟨rfl, hb2⟩
            rw [hk'.out]
            have hR2 := hR0.below hb2
            have hB2 := hB0.below hb2
            have b0 := hB2.cell 0
            have b1 := hB2.cell 1
            have f0 := hR2.frozen 0
            have f1 := hR2.frozen 1
            have c0 := hR2.cell 0
            have c1 := hR2.cell 1
            have hsz := hb2.size
            have hsz0 := hw0.size
            go_wp2_with (go_at_call 70; refine (within_any _ _ _ _).mono ?_; rintro e w' ⟨rfl, rfl⟩)
            exact ret_rec2 rfl rfl ((hR2.set_ 0 _).set_ 1 _) rfl ⟨none, 0, 0, by rw [hR.out, hC.out]; rfl, by rw [hL.out]; exact Sl.nil _ _, ((hw0.trans (hb2.mono hsz0)).setCell (p := ⟨w.heap.size + 1, 0, none⟩) (by simp) _).setCell (p := ⟨w.heap.size + 1, 1, none⟩) (by simp) _⟩
        · have hC := Lib.hid (show rsC rate xs u d = 2 by unfold rsC; rw [hk, hu, hd, if_neg hm]; rfl)
          have hL := Lib.hid (show rsL rate xs u d = [] by unfold rsL; rw [hC.out]; rfl)
          have hR := Lib.hid (show rsR rate xs u d = 0 by unfold rsR; rw [hC.out]; rfl)
          clear hk
          go_enter Try.func31, Try.ntmps31
          go_wp2_with fail
          generalize (w.alloc (.cells #[.int .i64 rate, .slice A n c] 24)).alloc (.cells #[.int .i64 0, .slice none 0 0] 24) = w1 at *
          refine (checkRecording_any _ _ _ _ _ _ h1).mono ?_
          rintro e w2 ⟨rfl, hb2⟩
          rw [hk'.out]
          have hR2 := hR0.below hb2
          have hB2 := hB0.below hb2
          have b0 := hB2.cell 0
          have b1 := hB2.cell 1
          have f0 := hR2.frozen 0
          have f1 := hR2.frozen 1
          have c0 := hR2.cell 0
          have c1 := hR2.cell 1
          have hsz := hb2.size
          have hsz0 := hw0.size
          go_wp2_with (go_at_call 70; refine (within_any _ _ _ _).mono ?_; rintro e w' ⟨rfl, rfl⟩)
          exact ret_rec2 rfl rfl ((hR2.set_ 0 _).set_ 1 _) rfl ⟨none, 0, 0, by rw [hR.out, hC.out]; rfl, by rw [hL.out]; exact Sl.nil _ _, ((hw0.trans (hb2.mono hsz0)).setCell (p := ⟨w.heap.size + 1, 0, none⟩) (by simp) _).setCell (p := ⟨w.heap.size + 1, 1, none⟩) (by simp) _⟩
  all_goals
    have hC := Lib.hid (show rsC rate xs u d = chkR rate xs by unfold rsC; rw [hk]; rfl)
    have hL := Lib.hid (show rsL rate xs u d = [] by unfold rsL; rw [hC.out, hk]; rfl)
    have hR := Lib.hid (show rsR rate xs u d = 0 by unfold rsR; rw [hC.out, hk]; rfl)
    have hk' := Lib.hid hk
    go_enter Try.func31, Try.ntmps31
    go_wp2_with fail
    generalize (w.alloc (.cells #[.int .i64 rate, .slice A n c] 24)).alloc (.cells #[.int .i64 0, .slice none 0 0] 24) = w1 at *
    refine (checkRecording_any _ _ _ _ _ _ h1).mono ?_
    rintro e w2 ⟨rfl, hb2⟩
    have hR2 := hR0.below hb2
    have f0 := hR2.frozen 0
    have f1 := hR2.frozen 1
    have c0 := hR2.cell 0
    have c1 := hR2.cell 1
    have hsz := hb2.size
    have hsz0 := hw0.size
    go_wp2
    exact ret_rec2 rfl rfl ((hR2.set_ 0 _).set_ 1 _) rfl ⟨none, 0, 0, by rw [hR.out, hC.out, hk'.out]; rfl, by rw [hL.out]; exact Sl.nil _ _, ((hw0.trans (hb2.mono hsz0)).setCell (p := ⟨w.heap.size + 1, 0, none⟩) (by simp) _).setCell (p := ⟨w.heap.size + 1, 1, none⟩) (by simp) _⟩
end Go.Proofs.Ytobobbhifajhmaa
