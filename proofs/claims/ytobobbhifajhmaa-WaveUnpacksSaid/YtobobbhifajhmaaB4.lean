/- The bytes of a recording: the law's walk. -/
import Derived.Test.YtobobbhifajhmaaB3
import Derived.Test.YtobobbhifajhmaaK3
import Derived.Laws.BytesArg
import Derived.Deep.RegionHeld3
namespace Go.Proofs.Ytobobbhifajhmaa
open Go.RowKit

theorem conv_own {w : World} {B g n c : Nat} {bs : List Int} (h : w.ownsRow B 5 1 (.slice (some ⟨g, 0, none⟩) n c) n (ivs .u8 bs)) : (convert 27 9 (.slice (some ⟨g, 0, none⟩) n c)).run Try.prog w = .ok (.string (strOfNums bs)) w :=
  run_convert_bytes_arg (P := Try.prog) w 27 5 Try.underlying27 Try.underlying5 g 0 n c bs (by have := h.1; rw [ivs_len] at this; omega) (fun i hi => by
    have hl := h.1
    rw [ivs_len] at hl
    have := h.cells (g := g) rfl i (.int .u8 (bs.getD i 0)) (by
      rw [getD_in (show i < bs.length by omega)]
      simp [ivs, show i < bs.length by omega])
    rw [add_new] at this
    rw [Nat.zero_add]; exact this) 9 Try.underlying9

theorem RValid_all (rate : Int) (A : Option Addr) (n c : Nat) (xs : List Int) (w : World) (h : Sl .i64 w A n c xs) :
    Calls Try.prog 25 #[.agg #[.int .i64 rate, .slice A n c]] w fun e w' => e = .returned (.bool (chkR rate xs == 0)) ∧ Below w.heap.size w w' := by
  have hcap := h.cap
  have htop := h.top
  rcases Nat.lt_or_ge 200000 n with hn | hn
  · have hr : chkR rate xs = 5 := by unfold chkR chk; rw [if_pos (show 200000 < xs.length by rw [h.len]; exact hn)]; rfl
    have hv := Lib.hid (show (chkR rate xs == 0) = false by rw [hr]; rfl)
    clear hr
    have hb := (Below.refl w.heap.size w).alloc (Nat.le_refl _) (.cells #[.int .i64 rate, .slice A n c] 24)
    have d0 : decide ((n : Int) ≤ 200000) = false := decide_eq_false (by omega)
    by_cases h2 : 1 ≤ rate
    · by_cases h3 : rate ≤ 192000
      · go_enter Try.func25, Try.ntmps25
        go_wp2
        go_ret
        exact ⟨ret_bool hv.out.symm, hb⟩
      · have hd : decide (rate ≤ 192000) = false := decide_eq_false h3
        go_enter Try.func25, Try.ntmps25
        go_wp2
        go_ret
        exact ⟨ret_bool hv.out.symm, hb⟩
    · have hd : decide (1 ≤ rate) = false := decide_eq_false h2
      have hd2 : ¬ 0 < rate := by omega
      have hd3 : decide (0 < rate) = false := decide_eq_false hd2
      go_enter Try.func25, Try.ntmps25
      go_wp2
      go_ret
      exact ⟨ret_bool hv.out.symm, hb⟩
  · refine (RValid_any rate A n c xs w h hn).mono ?_
    rintro e w' ⟨rfl, hb⟩
    refine ⟨ret_bool ?_, hb⟩
    unfold chkR chk
    rw [if_neg (show ¬ 200000 < xs.length by rw [h.len]; omega)]
    cases allB (-32768) 32767 xs <;> cases okB 1 192000 rate <;> rfl

abbrev YesB (w : World) (e : Ending) (w' : World) : Prop := e = .returned (.bool true) ∧ Below w.heap.size w w'
/-- a conversion that is carried out where it stands -/
abbrev cvF (a b : TypeId) (x : Operand) : Op := Op.convert a b x
theorem bne_same (b : Bool) : (b != b) = false := by cases b <;> rfl

set_option maxHeartbeats 1600000 in
set_option maxRecDepth 100000 in
theorem packs_any (rate : Int) (A : Option Addr) (n c : Nat) (xs : List Int) (w : World) (h : Sl .i64 w A n c xs) :
    Calls Try.prog 3 #[.agg #[.int .i64 rate, .slice A n c]] w (YesB w) := by
  have hcap := h.cap
  have htop := h.top
  have hB1 := Blk.new w 24 #[.int .i64 rate, .slice A n c]
  have hb1 := (Below.refl w.heap.size w).alloc (Nat.le_refl _) (.cells #[.int .i64 rate, .slice A n c] 24)
  have h1 := h.below hb1
  cases hn : shB n with
  | false =>
    have hs := Lib.hid hn
    clear hn
    go_enter Try.func3, Try.ntmps3
    go_wp2_with fail
    generalize w.alloc (.cells #[.int .i64 rate, .slice A n c] 24) = w1 at *
    refine (short_any _ _).mono ?_
    rintro e w2 ⟨he, rfl⟩
    rw [hs.out] at he
    subst he
    go_wp2_with fail
    refine (known_any _).mono ?_
    rintro e w7 ⟨rfl, hb7⟩
    go_wp2
    go_ret
    exact ⟨rfl, hb1.trans (hb7.mono hb1.size)⟩
  | true =>
    have hs := Lib.hid hn
    clear hn
    have hV1 := Lib.hid (fun (w9 : World) (h9 : Sl .i64 w9 A n c xs) => Valid_any rate A n c xs w9 h9)
    have hV2 := Lib.hid (fun (w9 : World) (h9 : Sl .i64 w9 A n c xs) => RValid_all rate A n c xs w9 h9)
    have hW := Lib.hid (fun (w9 : World) (h9 : Sl .i64 w9 A n c xs) => RWrong_any rate A n c xs w9 h9)
    by_cases hk : chkR rate xs = 0
    · have hP1 := Lib.hid (fun (w9 : World) (h9 : Sl .i64 w9 A n c xs) => Pack_ok rate A n c xs w9 h9 hk)
      have hP2 := Lib.hid (fun (w9 : World) (h9 : Sl .i64 w9 A n c xs) => RPack_ok rate A n c xs w9 h9 hk)
      rw [hk] at hV1 hV2 hW
      clear hk
      generalize pkB rate xs = pb at *
      go_enter Try.func3, Try.ntmps3
      go_wp2_with fail
      generalize w.alloc (.cells #[.int .i64 rate, .slice A n c] 24) = w1 at *
      refine (short_any _ _).mono ?_
      rintro e w2 ⟨he, rfl⟩
      rw [hs.out] at he
      subst he
      have r0 := hB1.cell 0
      have r1 := hB1.cell 1
      go_wp2_with fail
      refine (hP1.out _ h1).mono ?_
      rintro e w2 ⟨V2, rfl, hown2, hb2⟩
      obtain ⟨g2, c2, rfl, hg2, hlt2⟩ := hown2.form (by omega)
      have hb12 := hb1.trans (hb2.mono hb1.size)
      have hB2 := hB1.below hb2
      have h2 := h1.below hb2
      clear r0 r1
      have hSlK := Lib.hid (fun (wx : World) (hb : Below w2.heap.size w2 wx) => h2.below hb)
      have hKeep := Lib.hid (fun (wx : World) (hb : Below w2.heap.size w2 wx) => show wx.cell? ⟨w.heap.size, 0, none⟩ = some (.int .i64 rate) ∧ wx.cell? ⟨w.heap.size, 1, none⟩ = some (.slice A n c) from ⟨(hB2.below hb).cell 0, (hB2.below hb).cell 1⟩)
      have hbd : Below w2.heap.size w2 w2.drew := bel_drewN (Below.refl _ _) 1
      go_wp2_with fail
      go_region_held3 (fun wx => wx.cell? ⟨w.heap.size, 0, none⟩ = some (.int .i64 rate) ∧ wx.cell? ⟨w.heap.size, 1, none⟩ = some (.slice A n c)) (first | exact hKeep.out _ hbF | exact hKeep.out _ hbX1 | exact hKeep.out _ hbX2 | exact hKeep.out _ hbd | go_keep)
        (first
          | (go_at_call 24; first
              | (refine (hV1.out _ (hSlK.out _ hbX2)).mono ?_; rintro e wF ⟨rfl, hbA⟩; have hbF : Below w2.heap.size w2 wF := hbX2.trans (hbA.mono hbX2.size))
              | (refine (hV1.out _ (hSlK.out _ hbd)).mono ?_; rintro e wA ⟨rfl, hbA⟩; have hbX1 : Below w2.heap.size w2 wA := hbd.trans (hbA.mono hbd.size)))
          | (go_at_call 25; first
              | (refine (hV2.out _ (hSlK.out _ hbX1)).mono ?_; rintro e wF ⟨rfl, hbB⟩; have hbF : Below w2.heap.size w2 wF := hbX1.trans (hbB.mono hbX1.size))
              | (refine (hV2.out _ (hSlK.out _ hbd)).mono ?_; rintro e wB ⟨rfl, hbB⟩; have hbX2 : Below w2.heap.size w2 wB := hbd.trans (hbB.mono hbd.size))))
      all_goals
        have hBF := hB2.below hbF
        have hSF := h2.below hbF
        have hownF := own_below hown2 hbF
        have hb1F := hb12.trans (hbF.mono hb12.size)
        have r0 : wF.cell? ⟨w.heap.size, 0, none⟩ = some (.int .i64 rate) := hBF.cell 0
        have r1 : wF.cell? ⟨w.heap.size, 1, none⟩ = some (.slice A n c) := hBF.cell 1
        go_wp2_with fail
        refine (hW.out _ hSF).mono ?_
        rintro e w6 ⟨rfl, hb6⟩
        have hB6 := hBF.below hb6
        have hS6 := hSF.below hb6
        have hown6 := own_below hownF hb6
        have hb16 := hb1F.trans (hb6.mono hb1F.size)
        clear r0 r1
        obtain ⟨sb, hsb⟩ : ∃ sb, strOfNums pb = sb := ⟨_, rfl⟩
        have hsb' := Lib.hid hsb
        clear hsb
        have hSl6 := Lib.hid (fun (wx : World) (hb : Below w6.heap.size w6 wx) => hS6.below hb)
        have hK6 := Lib.hid (fun (wx : World) (hb : Below w6.heap.size w6 wx) => show (wx.cell? ⟨w.heap.size, 0, none⟩ = some (.int .i64 rate) ∧ wx.cell? ⟨w.heap.size, 1, none⟩ = some (.slice A n c)) ∧ (convert 27 9 (.slice (some ⟨g2, 0, none⟩) (16 + n * 2) c2)).run Try.prog wx = .ok (.string sb) wx from ⟨⟨(hB6.below hb).cell 0, (hB6.below hb).cell 1⟩, by rw [← hsb'.out]; exact conv_own (own_below hown6 hb)⟩)
        have hbd6 : Below w6.heap.size w6 w6.drew := bel_drewN (Below.refl _ _) 1
        clear hKeep hSlK
        go_wp2_with fail
        rw [show Op.convert 27 9 (Operand.tmp 43) = cvF 27 9 (Operand.tmp 43) from rfl]
        go_region_held3 (fun wx => (wx.cell? ⟨w.heap.size, 0, none⟩ = some (.int .i64 rate) ∧ wx.cell? ⟨w.heap.size, 1, none⟩ = some (.slice A n c)) ∧ (convert 27 9 (.slice (some ⟨g2, 0, none⟩) (16 + n * 2) c2)).run Try.prog wx = .ok (.string sb) wx) (first | exact hK6.out _ hb9 | exact hK6.out _ hb8 | exact hK6.out _ hbd6 | go_keep)
          (first
            | (go_at_call 27; refine (hP2.out _ (hSl6.out _ hbd6)).mono ?_; rintro e w8 ⟨V8, rfl, hown8, hb8a⟩; obtain ⟨g8, c8, rfl, hg8, hlt8⟩ := hown8.form (by omega); have hb8 : Below w6.heap.size w6 w8 := hbd6.trans (hb8a.mono hbd6.size); have hcv8 : (convert 27 9 (.slice (some ⟨g8, 0, none⟩) (16 + n * 2) c8)).run Try.prog w8 = .ok (.string sb) w8 := by rw [← hsb'.out]; exact conv_own hown8)
            | (go_at_call 22; refine (known_any _).mono ?_; rintro e w9 ⟨rfl, hb9a⟩; have hb9 : Below w6.heap.size w6 w9 := hb8.trans (hb9a.mono hb8.size)))
        all_goals
          go_wp2
          go_ret
          exact ⟨rfl, hb16.trans (hb9.mono hb16.size)⟩
    · obtain ⟨k, hke⟩ : ∃ k, chkR rate xs = k := ⟨_, rfl⟩
      rw [hke] at hk hV1 hV2 hW
      have hkb : (k == 0) = false := by simpa using hk
      have hP1 := Lib.hid (fun (w9 : World) (h9 : Sl .i64 w9 A n c xs) => Pack_bad rate A n c xs w9 h9 k hke hkb)
      clear hke
      go_enter Try.func3, Try.ntmps3
      go_wp2_with fail
      generalize w.alloc (.cells #[.int .i64 rate, .slice A n c] 24) = w1 at *
      refine (short_any _ _).mono ?_
      rintro e w2 ⟨he, rfl⟩
      rw [hs.out] at he
      subst he
      have r0 := hB1.cell 0
      have r1 := hB1.cell 1
      go_wp2_with fail
      refine (hP1.out _ h1).mono ?_
      rintro e w2 ⟨rfl, hb2⟩
      have hb12 := hb1.trans (hb2.mono hb1.size)
      have hB2 := hB1.below hb2
      have h2 := h1.below hb2
      clear r0 r1
      have hSlK := Lib.hid (fun (wx : World) (hb : Below w2.heap.size w2 wx) => h2.below hb)
      have hKeep := Lib.hid (fun (wx : World) (hb : Below w2.heap.size w2 wx) => show wx.cell? ⟨w.heap.size, 0, none⟩ = some (.int .i64 rate) ∧ wx.cell? ⟨w.heap.size, 1, none⟩ = some (.slice A n c) from ⟨(hB2.below hb).cell 0, (hB2.below hb).cell 1⟩)
      have hbd : Below w2.heap.size w2 w2.drew := bel_drewN (Below.refl _ _) 1
      go_wp2_with fail
      go_region_held3 (fun wx => wx.cell? ⟨w.heap.size, 0, none⟩ = some (.int .i64 rate) ∧ wx.cell? ⟨w.heap.size, 1, none⟩ = some (.slice A n c)) (first | exact hKeep.out _ hbF | exact hKeep.out _ hbX1 | exact hKeep.out _ hbX2 | exact hKeep.out _ hbd | go_keep)
        (first
          | (go_at_call 24; first
              | (refine (hV1.out _ (hSlK.out _ hbX2)).mono ?_; rintro e wF ⟨rfl, hbA⟩; have hbF : Below w2.heap.size w2 wF := hbX2.trans (hbA.mono hbX2.size))
              | (refine (hV1.out _ (hSlK.out _ hbd)).mono ?_; rintro e wA ⟨rfl, hbA⟩; have hbX1 : Below w2.heap.size w2 wA := hbd.trans (hbA.mono hbd.size)))
          | (go_at_call 25; first
              | (refine (hV2.out _ (hSlK.out _ hbX1)).mono ?_; rintro e wF ⟨rfl, hbB⟩; have hbF : Below w2.heap.size w2 wF := hbX1.trans (hbB.mono hbX1.size))
              | (refine (hV2.out _ (hSlK.out _ hbd)).mono ?_; rintro e wB ⟨rfl, hbB⟩; have hbX2 : Below w2.heap.size w2 wB := hbd.trans (hbB.mono hbd.size))))
      all_goals
        have hBF := hB2.below hbF
        have hSF := h2.below hbF
        have hb1F := hb12.trans (hbF.mono hb12.size)
        have r0 : wF.cell? ⟨w.heap.size, 0, none⟩ = some (.int .i64 rate) := hBF.cell 0
        have r1 : wF.cell? ⟨w.heap.size, 1, none⟩ = some (.slice A n c) := hBF.cell 1
        go_wp2_with fail
        refine (hW.out _ hSF).mono ?_
        rintro e w6 ⟨rfl, hb6⟩
        have hb16 := hb1F.trans (hb6.mono hb1F.size)
        clear r0 r1
        go_wp2_with fail
        refine (known_any _).mono ?_
        rintro e w9 ⟨rfl, hb9⟩
        go_wp2
        go_ret
        exact ⟨rfl, hb16.trans (hb9.mono hb16.size)⟩
end Go.Proofs.Ytobobbhifajhmaa
