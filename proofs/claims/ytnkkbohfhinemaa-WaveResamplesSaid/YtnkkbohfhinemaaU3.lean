/- A recording at another rate: the law's walk. -/
import Derived.Test.YtnkkbohfhinemaaU2
import Derived.Test.YtnkkbohfhinemaaK3
namespace Go.Proofs.Ytnkkbohfhinemaa
open Go.RowKit

theorem rsC_bad {rate : Int} {xs : List Int} {u d : Int} (hk : chkR rate xs = 0) (h : rsBad rate u d) : rsC rate xs u d = 2 := by
  unfold rsC
  rw [if_pos hk]
  by_cases h1 : (okB 1 16 u && okB 1 16 d) = true
  · rw [if_pos h1]
    rw [Bool.and_eq_true, okB_iff, okB_iff] at h1
    rcases h with h | h | h | h | h | h
    · omega
    · omega
    · omega
    · omega
    · rw [if_neg h]
    · split
      · rw [if_neg (by omega)]
      · rfl
  · rw [if_neg h1]
theorem rsC_good {rate : Int} {xs : List Int} {u d : Int} (hk : chkR rate xs = 0) (h : ¬ rsBad rate u d) : rsC rate xs u d = if rsCnt xs.length u d ≤ 200000 then 0 else 5 := by
  unfold rsBad at h
  have c1 : ¬ u < 1 := fun e => h (.inl e)
  have c2 : ¬ 16 < u := fun e => h (.inr (.inl e))
  have c3 : ¬ d < 1 := fun e => h (.inr (.inr (.inl e)))
  have c4 : ¬ 16 < d := fun e => h (.inr (.inr (.inr (.inl e))))
  have c5 : rate * u % d = 0 := Classical.byContradiction fun e => h (.inr (.inr (.inr (.inr (.inl e)))))
  have c6 : ¬ 192000 < rate * u / d := fun e => h (.inr (.inr (.inr (.inr (.inr e)))))
  unfold rsC
  rw [if_pos hk, okB_mk (by omega) (by omega), okB_mk (by omega) (by omega), Bool.and_self, if_pos rfl, if_pos c5, if_pos (by omega)]

theorem RRes_any (rate : Int) (A : Option Addr) (n c : Nat) (xs : List Int) (u d : Int) (w : World) (h : Sl .i64 w A n c xs) :
    Calls Try.prog 32 #[.agg #[.int .i64 rate, .slice A n c], .int .i64 u, .int .i64 d] w (RetRec w (rsR rate xs u d) (rsL rate xs u d) (rsC rate xs u d)) := by
  rcases chkR_cases rate xs with ⟨hk, hn, hall, hr1, hr2⟩ | hk | hk
  · rw [h.len] at hn
    by_cases hb : rsBad rate u d
    · have hC := rsC_bad (xs := xs) hk hb
      have hno := rs_no (rate := rate) (xs := xs) (u := u) (d := d) (by rw [hC]; decide)
      rw [hC, hno.1, hno.2]
      exact RRes_arg rate A n c xs u d w h hk hr1 hr2 hb
    · have hC := rsC_good (xs := xs) hk hb
      rw [h.len] at hC
      by_cases hc : rsCnt n u d ≤ 200000
      · rw [if_pos hc] at hC
        obtain ⟨_, ⟨U, D, M, rfl, rfl, hU1, hU2, hD1, hD2, hm, hM, hM2, hL⟩, hR⟩ := rs_ok hC
        rw [hC, hL, hR]
        rw [h.len] at hM
        exact RRes_ok rate A n c xs U D M w h hk hn (fun x hx => by have := allB_mem hall x hx; omega) hr1 hr2 hb hM hM2
      · rw [if_neg hc] at hC
        have hno := rs_no (rate := rate) (xs := xs) (u := u) (d := d) (by rw [hC]; decide)
        rw [hC, hno.1, hno.2]
        exact RRes_long rate A n c xs u d w h hk hn hr1 hr2 hb (by omega)
  · have hC : rsC rate xs u d = 2 := by unfold rsC; rw [hk]; rfl
    have hno := rs_no (rate := rate) (xs := xs) (u := u) (d := d) (by rw [hC]; decide)
    rw [hC, hno.1, hno.2]
    exact RRes_wrong rate A n c xs u d w h 2 hk rfl
  · have hC : rsC rate xs u d = 5 := by unfold rsC; rw [hk]; rfl
    have hno := rs_no (rate := rate) (xs := xs) (u := u) (d := d) (by rw [hC]; decide)
    rw [hC, hno.1, hno.2]
    exact RRes_wrong rate A n c xs u d w h 5 hk rfl

abbrev YesU (w : World) (e : Ending) (w' : World) : Prop := e = .returned (.bool true) ∧ Below w.heap.size w w'

set_option maxHeartbeats 3200000 in
set_option maxRecDepth 100000 in
theorem resamples_any (rate : Int) (A : Option Addr) (n c : Nat) (xs : List Int) (u d : Int) (w : World) (h : Sl .i64 w A n c xs) :
    Calls Try.prog 6 #[.agg #[.int .i64 rate, .slice A n c], .int .i64 u, .int .i64 d] w (YesU w) := by
  have hcap := h.cap
  have htop := h.top
  have hB1 := Blk.new w 24 #[.int .i64 rate, .slice A n c]
  have hb1 := (Below.refl w.heap.size w).alloc (Nat.le_refl _) (.cells #[.int .i64 rate, .slice A n c] 24)
  have h1 := h.below hb1
  cases hn : shB n with
  | false =>
    have hs := Lib.hid hn
    clear hn
    go_enter Try.func6, Try.ntmps6
    go_wp2_with fail
    generalize w.alloc (.cells #[.int .i64 rate, .slice A n c] 24) = w1 at *
    refine (short_any _ _).mono ?_
    rintro e w2 ⟨he, rfl⟩
    rw [hs.out] at he
    subst he
    go_wp2_with fail
    refine (known_any _).mono ?_
    rintro e w7 ⟨rfl, hb7⟩
    go_wp2
    go_ret
    exact ⟨rfl, hb1.trans (hb7.mono hb1.size)⟩
  | true =>
    have hs := Lib.hid hn
    clear hn
    have hP := Lib.hid (fun (w9 : World) (h9 : Sl .i64 w9 A n c xs) => Resample_any rate A n c xs u d w9 h9)
    have hQ := Lib.hid (fun (w9 : World) (h9 : Sl .i64 w9 A n c xs) => RRes_any rate A n c xs u d w9 h9)
    generalize rsR rate xs u d = R at *
    generalize rsL rate xs u d = L at *
    generalize rsC rate xs u d = C at *
    go_enter Try.func6, Try.ntmps6
    go_wp2_with fail
    generalize w.alloc (.cells #[.int .i64 rate, .slice A n c] 24) = w1 at *
    refine (short_any _ _).mono ?_
    rintro e w2 ⟨he, rfl⟩
    rw [hs.out] at he
    subst he
    have r0 := hB1.cell 0
    have r1 := hB1.cell 1
    go_wp2_with fail
    refine (hP.out _ h1).mono ?_
    rintro e w2 ⟨A2, m2, c2, rfl, hS2, hb2⟩
    clear r0 r1
    have hb12 := hb1.trans (hb2.mono hb1.size)
    have hB3 := (hB1.below hb2).alloc (.cells #[.int .i64 R, .slice A2 m2 c2] 24)
    have h3 := (h1.below hb2).alloc (.cells #[.int .i64 R, .slice A2 m2 c2] 24)
    have hS3 := hS2.alloc (.cells #[.int .i64 R, .slice A2 m2 c2] 24)
    have hC3 := Blk.new w2 24 #[.int .i64 R, .slice A2 m2 c2]
    have hb3 := hb12.alloc hb12.size (.cells #[.int .i64 R, .slice A2 m2 c2] 24)
    have r0 : (w2.alloc (.cells #[.int .i64 R, .slice A2 m2 c2] 24)).cell? ⟨w.heap.size, 0, none⟩ = some (.int .i64 rate) := hB3.cell 0
    have r1 : (w2.alloc (.cells #[.int .i64 R, .slice A2 m2 c2] 24)).cell? ⟨w.heap.size, 1, none⟩ = some (.slice A n c) := hB3.cell 1
    go_wp2_with fail
    clear r0 r1
    generalize w2.alloc (.cells #[.int .i64 R, .slice A2 m2 c2] 24) = w3 at *
    refine (hQ.out _ h3).mono ?_
    rintro e w4 ⟨A4, m4, c4, rfl, hS4, hb4⟩
    have hb14 := hb3.trans (hb4.mono hb3.size)
    have hC5 := (hC3.below hb4).alloc (.cells #[.int .i64 R, .slice A4 m4 c4] 24)
    have hS5 := (hS3.below hb4).alloc (.cells #[.int .i64 R, .slice A4 m4 c4] 24)
    have hT5 := hS4.alloc (.cells #[.int .i64 R, .slice A4 m4 c4] 24)
    have hD5 := Blk.new w4 24 #[.int .i64 R, .slice A4 m4 c4]
    have hb5 := hb14.alloc hb14.size (.cells #[.int .i64 R, .slice A4 m4 c4] 24)
    have q0 : (w4.alloc (.cells #[.int .i64 R, .slice A4 m4 c4] 24)).cell? ⟨w2.heap.size, 0, none⟩ = some (.int .i64 R) := hC5.cell 0
    have q1 : (w4.alloc (.cells #[.int .i64 R, .slice A4 m4 c4] 24)).cell? ⟨w2.heap.size, 1, none⟩ = some (.slice A2 m2 c2) := hC5.cell 1
    go_wp2_with fail
    refine (Same_any _ _ _ _ _ _ _ _ _ hS5 hT5).mono ?_
    rintro e w6 ⟨k6, he, rfl⟩
    rw [sameB_yes rfl] at he
    subst he
    have hb6 := bel_drewN hb5 k6
    generalize (w4.alloc (.cells #[.int .i64 R, .slice A4 m4 c4] 24)).drewN k6 = w6 at *
    go_wp2_with fail
    refine (known_any _).mono ?_
    rintro e w7 ⟨rfl, hb7⟩
    go_wp2
    go_ret
    exact ⟨rfl, hb6.trans (hb7.mono hb6.size)⟩
end Go.Proofs.Ytnkkbohfhinemaa
