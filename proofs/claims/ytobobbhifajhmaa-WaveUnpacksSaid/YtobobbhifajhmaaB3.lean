/- The document's own bytes of a recording. -/
import Derived.Test.YtobobbhifajhmaaB2
import Derived.Lib.SmallJoins
namespace Go.Proofs.Ytobobbhifajhmaa
open Go.RowKit

theorem Valid_any (rate : Int) (A : Option Addr) (n c : Nat) (xs : List Int) (w : World) (h : Sl .i64 w A n c xs) :
    Calls Try.prog 24 #[.agg #[.int .i64 rate, .slice A n c]] w fun e w' => e = .returned (.bool (chkR rate xs == 0)) ∧ Below w.heap.size w w' := by
  have hb1 := (Below.refl w.heap.size w).alloc (Nat.le_refl _) (.cells #[.int .i64 rate, .slice A n c] 24)
  have h1 := h.below hb1
  go_enter Try.func24, Try.ntmps24
  go_wp2_with fail
  refine (checkRecording_any _ _ _ _ _ _ h1).mono ?_
  rintro e w2 ⟨rfl, hb2⟩
  go_wp2
  go_ret
  exact ⟨rfl, hb1.trans (hb2.mono hb1.size)⟩

theorem Rput_at (x : Int) (size : Nat) (sz : Int) (hsz : sz = (size : Int)) (w : World) (hx1 : 0 ≤ x) (hx2 : x ≤ 9223372036854775807) (hs : size ≤ 1000) (hs0 : 0 < size) :
    Calls Try.prog 65 #[.int .i64 x, .int .i64 sz] w fun e w' => ∃ g c, e = .returned (.slice (some ⟨g, 0, none⟩) size c) ∧ w.heap.size ≤ g ∧ Src w' (some ⟨g, 0, none⟩) size c (ivs .u8 (le x size)) 1 ∧ Below w.heap.size w w' := by
  subst hsz
  refine (Rput_any x size w hx1 hx2 hs).mono ?_
  rintro e w' ⟨V, rfl, hown, hb⟩
  obtain ⟨g, c, rfl, h1, h2⟩ := hown.form hs0
  refine ⟨g, c, rfl, h1, ⟨hown.1, fun e => by (cases e), fun ad e => ?_, oneCell_ivs _ _⟩, hb⟩
  injection e with e
  subst e
  exact hown.cells rfl

/-- the sample as a number that is not negative -/
def pos (x : Int) : Int := if x < 0 then x + 65536 else x
theorem le_pos (x : Int) : le (pos x) 2 = le x 2 := by
  unfold pos
  split
  · exact le_neg x
  · rfl

set_option maxHeartbeats 3200000 in
set_option maxRecDepth 100000 in
theorem RPack_ok (rate : Int) (A : Option Addr) (n c : Nat) (xs : List Int) (w : World) (h : Sl .i64 w A n c xs) (hk : chkR rate xs = 0) :
    Calls Try.prog 27 #[.agg #[.int .i64 rate, .slice A n c]] w fun e w' => ∃ V, e = .returned V ∧ w'.ownsRow w.heap.size 5 1 V (16 + n * 2) (ivs .u8 (pkB rate xs)) ∧ Below w.heap.size w w' := by
  obtain ⟨i0, hi, hz0, hz1, hz2⟩ := info_parts info_byte
  have hl := Lib.hid h.len
  have hcap := h.cap
  have htop := h.top
  have hr : chkR rate xs = 0 ∧ xs.length ≤ 200000 ∧ allB (-32768) 32767 xs = true ∧ 1 ≤ rate ∧ rate ≤ 192000 := by
    rcases chkR_cases rate xs with h | h | h
    · exact h
    · rw [hk] at h; cases h
    · rw [hk] at h; cases h
  obtain ⟨_, hn, hall, hr1, hr2⟩ := hr
  rw [hl.out] at hn
  clear hk
  have hall := Lib.hid hall
  have hB1 := Blk.new w 24 #[.int .i64 rate, .slice A n c]
  have hb1 := (Below.refl w.heap.size w).alloc (Nat.le_refl _) (.cells #[.int .i64 rate, .slice A n c] 24)
  have hlt1 := hB1.lt
  have hcv := Go.Joins.run_convert_bytes_const_at (P := Try.prog) (w.alloc (.cells #[.int .i64 rate, .slice A n c] 24)) 27 5 #[.int .u8 69, .int .u8 65, .int .u8 82, .int .u8 49] 4 4 (w.heap.size + 1) (by simp) Try.underlying27 Try.underlying5
  have hs1 : (w.alloc (.cells #[.int .i64 rate, .slice A n c] 24)).heap.size = w.heap.size + 1 := by simp
  generalize hwa : (w.alloc (.cells #[.int .i64 rate, .slice A n c] 24)).alloc (.cells #[.int .u8 69, .int .u8 65, .int .u8 82, .int .u8 49] 5 (Array.size #[Value.int .u8 69, .int .u8 65, .int .u8 82, .int .u8 49], Array.size #[Value.int .u8 69, .int .u8 65, .int .u8 82, .int .u8 49] + 1)) = wa at *
  have hba : Below (w.heap.size + 1) (w.alloc (.cells #[.int .i64 rate, .slice A n c] 24)) wa := by rw [← hwa, ← hs1]; exact (Below.refl _ _).alloc (Nat.le_refl _) _
  have hqa : wa.heap[w.heap.size + 1]? = some (.cells #[.int .u8 69, .int .u8 65, .int .u8 82, .int .u8 49] 5 (4, 5)) := by rw [← hwa, ← hs1]; exact heap_alloc_new _ _
  have hOa : OwnL wa (w.heap.size + 1) 5 (.slice (some ⟨w.heap.size + 1, 0, none⟩) 4 4) 4 (ivs .u8 [69, 65, 82, 49]) := .inr ⟨w.heap.size + 1, _, _, rfl, Nat.le_refl _, hqa, rfl, rfl⟩
  have hsza : w.heap.size + 2 ≤ wa.heap.size := by rw [← hwa]; simp
  have hbelA : Below w.heap.size w wa := hb1.trans (hba.mono (by omega))
  clear hwa hqa
  have hBa := hB1.under hba (by omega)
  have r0 : wa.cell? ⟨w.heap.size, 0, none⟩ = some (.int .i64 rate) := hBa.cell 0
  go_enter Try.func27, Try.ntmps27
  go_wp2_with fail
  clear r0
  refine (Rput_at rate 4 4 rfl _ (by omega) (by omega) (by omega) (by omega)).mono ?_
  rintro e w3 ⟨g3, c3, rfl, hg3, hsrc3, hb3⟩
  have hO3 := hOa.far (fun k _ hlt => hb3.block k hlt)
  have hbel3 := hbelA.trans (hb3.mono hbelA.size)
  have hB3 := hBa.under (hb3.mono (show w.heap.size + 1 ≤ wa.heap.size by omega)) (by omega)
  have hsz3 := hb3.size
  clear hcv hOa hba hBa
  go_wp2_with (at_builtin; refine wpList_append_L rfl (.tmp 7) (.tmp 10) 27 rfl (w.heap.size + 1) 5 i0 (.int .u8 0) 1 Try.underlying27 hi hz0 hz1 hz2 rfl (.slice (some ⟨w.heap.size + 1, 0, none⟩) 4 4) 4 (ivs .u8 [69, 65, 82, 49]) rfl hO3 ⟨g3, 0, none⟩ 4 c3 (ivs .u8 (le rate 4)) rfl hsrc3.len (hsrc3.cell _ rfl) hsrc3.one (by omega) (by unfold maxLen; omega) (by omega) (by omega) ?_)
  intro g4 cap4 w4 hown4 hgrow4 _ _
  have hbel4 := hbel3.grown hgrow4 (by omega) (fun q hq => by simp [Value.ownBlock] at hq; omega)
  have hB4 := hB3.grown hgrow4 (by simp [Value.ownBlock])
  have hsz4 := hgrow4.size
  rw [← ivs_app] at hown4
  clear hO3 hsrc3
  have r1 : w4.cell? ⟨w.heap.size, 1, none⟩ = some (.slice A n c) := hB4.cell 1
  go_wp2_with fail
  clear r1
  refine (Rput_at (n : Int) 4 4 rfl _ (by omega) (by omega) (by omega) (by omega)).mono ?_
  rintro e w5 ⟨g5, c5, rfl, hg5, hsrc5, hb5⟩
  have hown5 := own_below hown4 hb5
  have hbel5 := hbel4.trans (hb5.mono hbel4.size)
  have hB5 := hB4.below hb5
  have hsz5 := hb5.size
  clear hown4 hB4
  go_wp2_with (at_builtin; refine wpList_append_any rfl (.tmp 12) (.tmp 16) 27 rfl (w.heap.size + 1) 5 i0 (.int .u8 0) 1 1 Try.underlying27 hi hz0 hz1 hz2 rfl (by decide) (.slice (some ⟨g4, 0, none⟩) (4 + 4) cap4) (4 + 4) (ivs .u8 ([69, 65, 82, 49] ++ le rate 4)) rfl hown5 (some ⟨g5, 0, none⟩) 4 c5 (ivs .u8 (le (n : Int) 4)) rfl hsrc5 ?k2 ?k3 ?k4 ?_)
  case k2 => unfold maxLen; omega
  case k3 => omega
  case k4 => omega
  intro V6 w6 hown6 hgrow6 _
  have hrow6 : ∀ q, (Value.slice (some ⟨g4, 0, none⟩) (4 + 4) cap4).ownBlock = some q → w.heap.size + 1 ≤ q := fun q hq => (hown5.lt q hq).1
  have hbel6 := hbel5.grown hgrow6 hbel5.size (fun q hq => by have := hrow6 q hq; omega)
  have hB6 := hB5.grown hgrow6 (fun e => by have := hrow6 _ e.symm; omega)
  have hsz6 := hgrow6.size
  rw [← ivs_app] at hown6
  clear hown5 hB5 hsrc5
  have hown6 : w6.ownsRow (w.heap.size + 1) 5 1 V6 12 (ivs .u8 ([69, 65, 82, 49] ++ le rate 4 ++ le (n : Int) 4)) := hown6
  obtain ⟨hd, hhd⟩ : ∃ hd, [69, 65, 82, 49] ++ le rate 4 ++ le (n : Int) 4 = hd := ⟨_, rfl⟩
  rw [hhd] at hown6
  have hO6 : w6.ownsRow (w.heap.size + 1) 5 1 V6 (12 + 2 * 0) (ivs .u8 (hd ++ smp (xs.take 0))) := by rw [show smp (xs.take 0) = [] from rfl, List.append_nil]; exact hown6
  have hhd' := Lib.hid hhd
  clear hhd hown6 hrow6
  go_wp2
  go_loopw [3, 4] (fun ov iv wr => ∃ (k : Nat) (V : Value), k ≤ n ∧ iv = .int .i64 k ∧ V = ov ∧ wr.ownsRow (w.heap.size + 1) 5 1 V (12 + 2 * k) (ivs .u8 (hd ++ smp (xs.take k))) ∧ Blk wr w.heap.size 24 #[.int .i64 rate, .slice A n c] ∧ Below w.heap.size w wr) (fun _ iv _ => n - (intOf iv).toNat)
  case atStart => exact ⟨0, V6, Nat.zero_le _, rfl, rfl, hO6, hB6, hbel6⟩
  case round =>
    obtain ⟨k, V, hk, rfl, rfl, hO, hBr, hbel⟩ := hrel
    have hr := h.below hbel
    have hszr := hbel.size
    have hlr := hBr.lt
    have r1 : wr.cell? ⟨w.heap.size, 1, none⟩ = some (.slice A n c) := hBr.cell 1
    rcases Nat.lt_or_ge k n with hlt | hge
    · obtain ⟨ad, x, rfl, hcx, hx⟩ := hr.at_ hlt
      have hxb := allB_get hall.out (by rw [hl.out]; exact hlt) hx.out
      have hx1 := hxb.1
      have hx2 := hxb.2
      have i1 : (k : Int) < (n : Int) := by omega
      have hnx := Lib.hid (show hd ++ smp (xs.take (k + 1)) = (hd ++ smp (xs.take k)) ++ le x 2 by rw [take_snocD (by rw [hl.out]; exact hlt) hx.out, smp_snoc, List.append_assoc])
      have hVlt := Lib.hid hO.lt
      clear hxb
      by_cases hneg : x < 0
      case' pos =>
        have p0 : 0 ≤ x + 65536 := by omega
        have p1 : x + 65536 ≤ 9223372036854775807 := by omega
        have p2 : IntKind.i64.wrap (x + 65536) = x + 65536 := IntWalk.i64_in _ (by omega)
        go_wp2_with fail
        refine (Rput_at (x + 65536) 2 2 rfl _ p0 p1 (by omega) (by omega)).mono ?_
      case' neg =>
        go_wp2_with fail
        refine (Rput_at x 2 2 rfl _ (by omega) (by omega) (by omega) (by omega)).mono ?_
      all_goals
        rintro e w7 ⟨g7, c7, rfl, hg7, hsrc7, hb7⟩
        have hsrc7 : Src w7 (some ⟨g7, 0, none⟩) 2 c7 (ivs .u8 (le x 2)) 1 := by first | exact hsrc7 | (rw [← le_neg x]; exact hsrc7)
        have hO7 := own_below hO hb7
        have hB7 := hBr.below hb7
        have hbel7 := hbel.trans (hb7.mono hszr)
        have hsz7 := hb7.size
        clear hO hBr r1
        go_wp2_with (at_builtin; refine wpList_append_any rfl (.tmp 34) (.tmp 36) 27 rfl (w.heap.size + 1) 5 i0 (.int .u8 0) 1 1 Try.underlying27 hi hz0 hz1 hz2 rfl (by decide) V (12 + 2 * k) (ivs .u8 (hd ++ smp (xs.take k))) rfl hO7 (some ⟨g7, 0, none⟩) 2 c7 (ivs .u8 (le x 2)) rfl hsrc7 ?k2 ?k3 ?k4 ?_)
        case k2 => unfold maxLen; omega
        case k3 => omega
        case k4 => omega
        intro V8 w8 hO8 hgrow8 _
        rw [← ivs_app, ← hnx.out] at hO8
        have hO9 : w8.ownsRow (w.heap.size + 1) 5 1 V8 (12 + 2 * (k + 1)) (ivs .u8 (hd ++ smp (xs.take (k + 1)))) := hO8
        have hbel8 := hbel7.grown hgrow8 hbel7.size (fun q hq => by have := hVlt.out q hq; omega)
        have hB8 := hB7.grown hgrow8 (fun e => by have := hVlt.out _ e.symm; omega)
        clear hO8 hO7 hsrc7
        go_wp2
        go_roundw
        case rel => exact ⟨k + 1, V8, by omega, by go_num, rfl, hO9, hB8, hbel8⟩
        case measure => simp [intOf]; omega
    · have hkn : k = n := by omega
      subst hkn
      have hfull := Lib.hid (show hd ++ smp (xs.take k) = hdB rate xs by rw [List.take_of_length_le (by rw [hl.out]; exact Nat.le_refl _), ← hhd'.out]; unfold hdB; rw [hl.out])
      rw [hfull.out] at hO
      obtain ⟨Ab, cb, hV, hSb⟩ := Sl.of_own hO
      have hVlt := Lib.hid hO.lt
      subst hV
      go_wp2_with fail
      refine (RSum_any _ _ _ _ _ hSb (hdB_by rate xs)).mono ?_
      rintro e w6 ⟨rfl, rfl⟩
      have hck := ck_bd (hdB rate xs)
      have hck1 := hck.1
      have hck2 := hck.2
      have hpk := Lib.hid (show hdB rate xs ++ le (ck (hdB rate xs)) 4 = pkB rate xs from rfl)
      clear hck
      generalize ck (hdB rate xs) = ckv at *
      go_wp2_with fail
      refine (Rput_at ckv 4 4 rfl _ hck1 (by omega) (by omega) (by omega)).mono ?_
      rintro e w7 ⟨g7, c7, rfl, hg7, hsrc7, hb7⟩
      have hO7 := own_below hO hb7
      have hbel7 := hbel.trans (hb7.mono hszr)
      have hsz7 := hb7.size
      clear hO hSb
      go_wp2_with (at_builtin; refine wpList_append_any rfl (.tmp 38) (.tmp 41) 27 rfl (w.heap.size + 1) 5 i0 (.int .u8 0) 1 1 Try.underlying27 hi hz0 hz1 hz2 rfl (by decide) (.slice Ab (12 + 2 * k) cb) (12 + 2 * k) (ivs .u8 (hdB rate xs)) rfl hO7 (some ⟨g7, 0, none⟩) 4 c7 (ivs .u8 (le ckv 4)) rfl hsrc7 ?k2 ?k3 ?k4 ?_)
      case k2 => unfold maxLen; omega
      case k3 => omega
      case k4 => omega
      intro V8 w8 hO8 hgrow8 _
      rw [← ivs_app, hpk.out, show 12 + 2 * k + 4 = 16 + k * 2 by omega] at hO8
      have hbel8 := hbel7.grown hgrow8 hbel7.size (fun q hq => by have := hVlt.out q hq; omega)
      go_wp2
      go_ret
      exact ⟨V8, rfl, own_mono hO8 (by omega), hbel8⟩
end Go.Proofs.Ytobobbhifajhmaa
