/- The document's own recording at another rate: too long, and the loop. -/
import Derived.Test.YtobobbhifajhmaaU1
import Derived.Deep.RegionLaw
import Derived.Deep.AppendLies
namespace Go.Proofs.Ytobobbhifajhmaa
open Go.RowKit

set_option maxHeartbeats 3200000 in
set_option maxRecDepth 100000 in
theorem RRes_long (rate : Int) (A : Option Addr) (n c : Nat) (xs : List Int) (u d : Int) (w : World) (h : Sl .i64 w A n c xs) (hk : chkR rate xs = 0) (hn : n ≤ 200000) (hr1 : 1 ≤ rate) (hr2 : rate ≤ 192000) (hbad : ¬ rsBad rate u d) (hM : 200000 < rsCnt n u d) :
    Calls Try.prog 32 #[.agg #[.int .i64 rate, .slice A n c], .int .i64 u, .int .i64 d] w (RetRec w 0 [] 5) := by
  have hcap := h.cap
  have htop := h.top
  have hk := Lib.hid hk
  have hB0 := (Blk.new w 24 #[.int .i64 rate, .slice A n c]).alloc (.cells #[.int .i64 0, .slice none 0 0] 24)
  have hR0 := Blk.new (w.alloc (.cells #[.int .i64 rate, .slice A n c] 24)) 24 #[.int .i64 0, .slice none 0 0]
  rw [show (w.alloc (.cells #[.int .i64 rate, .slice A n c] 24)).heap.size = w.heap.size + 1 from by simp] at hR0
  have hw0 := ((Below.refl w.heap.size w).alloc (Nat.le_refl _) (.cells #[.int .i64 rate, .slice A n c] 24)).alloc (by simp) (.cells #[.int .i64 0, .slice none 0 0] 24)
  have h1 := h.below hw0
  unfold rsBad at hbad
  have c1 : ¬ u < 1 := fun e => hbad (.inl e)
  have c2 : ¬ 16 < u := fun e => hbad (.inr (.inl e))
  have c3 : ¬ d < 1 := fun e => hbad (.inr (.inr (.inl e)))
  have c4 : ¬ 16 < d := fun e => hbad (.inr (.inr (.inr (.inl e))))
  have c5 : rate * u % d = 0 := Classical.byContradiction fun e => hbad (.inr (.inr (.inr (.inr (.inl e)))))
  have c6 : ¬ 192000 < rate * u / d := fun e => hbad (.inr (.inr (.inr (.inr (.inr e)))))
  clear hbad
  have hQ1 : 1 ≤ rate * u / d := by
    have h2 : 1 * 1 ≤ rate * u := Int.mul_le_mul hr1 (by omega) (by omega) (by omega)
    have h3 := Int.mul_ediv_add_emod (rate * u) d
    rw [c5] at h3
    rcases Int.lt_or_le (rate * u / d) 1 with h4 | h4
    · have h5 : d * (rate * u / d) ≤ d * 0 := Int.mul_le_mul_of_nonneg_left (by omega) (by omega)
      omega
    · exact h4
  obtain ⟨P, hP⟩ : ∃ P, rate * u = P := ⟨_, rfl⟩
  have hP0 : 0 ≤ P := by rw [← hP]; exact Int.mul_nonneg (by omega) (by omega)
  have hP1 : P ≤ 192000 * 16 := by rw [← hP]; exact Int.mul_le_mul hr2 (by omega) (by omega) (by omega)
  rw [hP] at c5 c6 hQ1
  have em : P.tmod d = 0 := by rw [← c5]; exact Int.tmod_eq_emod_of_nonneg hP0
  have ed : P.tdiv d = P / d := Int.tdiv_eq_ediv_of_nonneg hP0
  have hdz : ¬ d = 0 := by omega
  have c7 : ¬ P / d < 1 := by omega
  have hnu1 : 0 ≤ (n : Int) * u := Int.mul_nonneg (by omega) (by omega)
  have hnu2 : (n : Int) * u ≤ 200000 * 16 := Int.mul_le_mul (by omega) (by omega) (by omega) (by omega)
  unfold rsCnt at hM
  clear c5
  go_enter Try.func32, Try.ntmps32
  go_wp2_with fail
  generalize (w.alloc (.cells #[.int .i64 rate, .slice A n c] 24)).alloc (.cells #[.int .i64 0, .slice none 0 0] 24) = w1 at *
  refine (RWrong_any _ _ _ _ _ _ h1).mono ?_
  rintro e w2 ⟨he, hb2⟩
  rw [hk.out] at he
  subst he
  have hR2 := hR0.below hb2
  have hB2 := hB0.below hb2
  have b0 := hB2.cell 0
  have b1 := hB2.cell 1
  have f0 := hR2.frozen 0
  have f1 := hR2.frozen 1
  have k0 := hR2.cell 0
  have k1 := hR2.cell 1
  have hsz := hb2.size
  have hsz0 := hw0.size
  go_wp2_with (go_at_call 73; refine (Rup_any _ _ _ (by omega) (by omega) (by omega) (by omega)).mono ?_; rintro e w' ⟨rfl, rfl⟩)
  exact ret_rec2 rfl rfl ((hR2.set_ 0 _).set_ 1 _) rfl ⟨none, 0, 0, rfl, Sl.nil _ _, ((hw0.trans (hb2.mono hsz0)).setCell (p := ⟨w.heap.size + 1, 0, none⟩) (by simp) _).setCell (p := ⟨w.heap.size + 1, 1, none⟩) (by simp) _⟩

/-- a load that is carried out where it stands -/
abbrev ldF (t : TypeId) (x : Operand) : Op := Op.load t x
/-- the head of a round: k samples are done -/
structure RsR (w2 : World) (gr go gs : Nat) (rate Q : Int) (A : Option Addr) (n c : Nat) (V : Value) (k : Nat) (f : Nat → Int) (wr : World) : Prop where
  r : Blk wr gr 24 #[.int .i64 rate, .slice A n c]
  o : Blk wr go 24 #[.int .i64 0, .slice none 0 0]
  s : Blk wr gs 24 #[.int .i64 Q, V]
  own : wr.ownsRow (gs + 1) 3 1 V k (ivs .i64 (tab k f))
  bel : Below w2.heap.size w2 wr
theorem RsR.drewN {w2 : World} {gr go gs : Nat} {rate Q : Int} {A : Option Addr} {n c : Nat} {V : Value} {k : Nat} {f : Nat → Int} {wr : World} (h : RsR w2 gr go gs rate Q A n c V k f wr) (i : Nat) : RsR w2 gr go gs rate Q A n c V k f (wr.drewN i) :=
  ⟨h.r.drewN i, h.o.drewN i, h.s.drewN i, h.own, bel_drewN h.bel i⟩

set_option maxHeartbeats 8000000 in
set_option maxRecDepth 100000 in
theorem RRes_ok (rate : Int) (A : Option Addr) (n c : Nat) (xs : List Int) (U D M : Nat) (w : World) (h : Sl .i64 w A n c xs) (hk : chkR rate xs = 0) (hn : n ≤ 200000) (hx : ∀ x ∈ xs, -32768 ≤ x ∧ x ≤ 32768) (hr1 : 1 ≤ rate) (hr2 : rate ≤ 192000) (hbad : ¬ rsBad rate U D) (hM : rsCnt n U D = M) (hM2 : M ≤ 200000) :
    Calls Try.prog 32 #[.agg #[.int .i64 rate, .slice A n c], .int .i64 (U : Int), .int .i64 (D : Int)] w (RetRec w (rate * U / D) (tab M (ipAt xs U D)) 0) := by
  obtain ⟨i0, hi, hz0, hz1, hz2⟩ := info_parts info_int
  have hcap := h.cap
  have htop := h.top
  have hl := Lib.hid h.len
  have hk := Lib.hid hk
  have hx := Lib.hid hx
  have hB0 := (Blk.new w 24 #[.int .i64 rate, .slice A n c]).alloc (.cells #[.int .i64 0, .slice none 0 0] 24)
  have hR0 := Blk.new (w.alloc (.cells #[.int .i64 rate, .slice A n c] 24)) 24 #[.int .i64 0, .slice none 0 0]
  rw [show (w.alloc (.cells #[.int .i64 rate, .slice A n c] 24)).heap.size = w.heap.size + 1 from by simp] at hR0
  have hw0 := ((Below.refl w.heap.size w).alloc (Nat.le_refl _) (.cells #[.int .i64 rate, .slice A n c] 24)).alloc (by simp) (.cells #[.int .i64 0, .slice none 0 0] 24)
  have h1 := h.below hw0
  unfold rsBad at hbad
  have c1 : ¬ (U : Int) < 1 := fun e => hbad (.inl e)
  have c2 : ¬ (16 : Int) < U := fun e => hbad (.inr (.inl e))
  have c3 : ¬ (D : Int) < 1 := fun e => hbad (.inr (.inr (.inl e)))
  have c4 : ¬ (16 : Int) < D := fun e => hbad (.inr (.inr (.inr (.inl e))))
  have c5 : rate * (U : Int) % (D : Int) = 0 := Classical.byContradiction fun e => hbad (.inr (.inr (.inr (.inr (.inl e)))))
  have c6 : ¬ 192000 < rate * (U : Int) / (D : Int) := fun e => hbad (.inr (.inr (.inr (.inr (.inr e)))))
  clear hbad
  have hQ1 : 1 ≤ rate * (U : Int) / (D : Int) := by
    have h2 : 1 * 1 ≤ rate * (U : Int) := Int.mul_le_mul hr1 (by omega) (by omega) (by omega)
    have h3 := Int.mul_ediv_add_emod (rate * (U : Int)) (D : Int)
    rw [c5] at h3
    rcases Int.lt_or_le (rate * (U : Int) / (D : Int)) 1 with h4 | h4
    · have h5 : (D : Int) * (rate * (U : Int) / (D : Int)) ≤ (D : Int) * 0 := Int.mul_le_mul_of_nonneg_left (by omega) (by omega)
      omega
    · exact h4
  have hcl := Lib.hid (cnt_lt (n := n) (u := U) (d := D) (m := M) (by omega) (by omega) hM)
  obtain ⟨P, hP⟩ : ∃ P, rate * (U : Int) = P := ⟨_, rfl⟩
  have hP0 : 0 ≤ P := by rw [← hP]; exact Int.mul_nonneg (by omega) (by omega)
  have hP1 : P ≤ 192000 * 16 := by rw [← hP]; exact Int.mul_le_mul hr2 (by omega) (by omega) (by omega)
  rw [hP] at c5 c6 hQ1 ⊢
  have em : P.tmod (D : Int) = 0 := by rw [← c5]; exact Int.tmod_eq_emod_of_nonneg hP0
  obtain ⟨Q, hQ⟩ : ∃ Q, P / (D : Int) = Q := ⟨_, rfl⟩
  have ed : P.tdiv (D : Int) = Q := by rw [← hQ]; exact Int.tdiv_eq_ediv_of_nonneg hP0
  rw [hQ] at c6 hQ1 ⊢
  clear hQ c5
  have hdz : ¬ D = 0 := by omega
  have c7 : ¬ Q < 1 := by omega
  have hnu1 : 0 ≤ (n : Int) * (U : Int) := Int.mul_nonneg (by omega) (by omega)
  have hnu2 : (n : Int) * (U : Int) ≤ 200000 * 16 := Int.mul_le_mul (by omega) (by omega) (by omega) (by omega)
  have hMe := Lib.hid (show ((n : Int) * (U : Int) + (D : Int) - 1) / (D : Int) = (M : Int) from hM)
  have hwd : 1 ≤ wdt U D ∧ wdt U D ≤ 16 := by
    unfold wdt
    refine ⟨(Nat.le_div_iff_mul_le (by omega)).2 (by omega), ?_⟩
    have : (D + U - 1) / U < 17 := (Nat.div_lt_iff_lt_mul (by omega)).2 (by omega)
    omega
  have hwe := Lib.hid (show ((D : Int) + (U : Int) - 1) / (U : Int) = ((wdt U D : Nat) : Int) by
    unfold wdt
    rw [Int.natCast_ediv, Int.natCast_sub (by omega), Int.natCast_add]; rfl)
  have hw1 := hwd.1
  have hw2 := hwd.2
  clear hwd hM
  go_enter Try.func32, Try.ntmps32
  go_wp2_with fail
  generalize (w.alloc (.cells #[.int .i64 rate, .slice A n c] 24)).alloc (.cells #[.int .i64 0, .slice none 0 0] 24) = w1 at *
  refine (RWrong_any _ _ _ _ _ _ h1).mono ?_
  rintro e w2 ⟨he, hb2⟩
  rw [hk.out] at he
  subst he
  have hR2 := hR0.below hb2
  have hB2 := hB0.below hb2
  have b0 := hB2.cell 0
  have b1 := hB2.cell 1
  have hsz := hb2.size
  have hsz0 := hw0.size
  go_wp2_with fail
  refine (Rup_any _ _ _ (by omega) (by omega) (by omega) (by omega)).mono ?_
  rintro e w' ⟨rfl, rfl⟩
  rw [hMe.out]
  go_wp2_with fail
  refine (Rup_any _ _ _ (by omega) (by omega) (by omega) (by omega)).mono ?_
  rintro e w' ⟨rfl, rfl⟩
  rw [hwe.out]
  have h2 := h1.below hb2
  go_wp2
  have hlt0 := hR2.lt
  go_loopw [13] (fun iv wr => ∃ (k : Nat) (V : Value), iv = .int .i64 k ∧ k ≤ M ∧ RsR w2 w.heap.size (w.heap.size + 1) w2.heap.size rate Q A n c V k (ipAt xs U D) wr) (fun iv _ => M - (intOf iv).toNat)
  case atStart => exact ⟨0, _, rfl, Nat.zero_le _, hB2.alloc _, hR2.alloc _, Blk.new _ _ _, World.ownsRow_nil _ _ _ _, (Below.refl _ _).alloc (Nat.le_refl _) _⟩
  case round =>
    obtain ⟨k, V, rfl, hkM, hQR⟩ := hrel
    rcases Nat.lt_or_ge k M with hlt | hge
    · have hq := hcl.out k hlt
      have hjd : (k : Int) * (D : Int) ≤ 200000 * 16 := Int.mul_le_mul (by omega) (by omega) (by omega) (by omega)
      have hjd0 : 0 ≤ (k : Int) * (D : Int) := Int.mul_nonneg (by omega) (by omega)
      have hf2 : k * D % U < U := Nat.mod_lt _ (by omega)
      have e1m : (k : Int) * (D : Int) / (U : Int) = ((k * D / U : Nat) : Int) := by rw [Int.natCast_ediv, Int.natCast_mul]
      have e2m : (k : Int) * (D : Int) % (U : Int) = ((k * D % U : Nat) : Int) := by rw [Int.natCast_emod, Int.natCast_mul]
      have hv := Lib.hid (show rnd (smAt xs (wdt U D) (k * D / U) * ((U : Int) - ((k * D % U : Nat) : Int)) + smAt xs (wdt U D) (k * D / U + 1) * ((k * D % U : Nat) : Int)) U = ipAt xs U D k from rfl)
      have hUz : ¬ U = 0 := by omega
      generalize k * D / U = q at *
      generalize k * D % U = f at *
      go_wp2
      go_quiet (fail)
      simp only [e1m, e2m]
      clear e1m e2m
      have hQR := hQR.drewN nq
      generalize wr.drewN nq = wr2 at *
      obtain ⟨hRr, hRo, hRs, hRown, hRb⟩ := hQR
      have hr := (h2.below hRb)
      have hSd : Sl .i64 wr2.drew A n c xs := hr.drew
      have hbx := smAt_bd hx.out (by rw [hl.out]; omega) hw1 q
      have hby := smAt_bd hx.out (by rw [hl.out]; omega) hw1 (q + 1)
      have hC := Lib.hid (fun (iv : Int) (h0 : 0 ≤ iv) (h1 : iv ≤ 1000000) => Rsmooth_all (wdt U D) iv h0 h1 A n c xs wr2.drew hSd (by omega) hn hx.out hw1 hw2)
      have hv2 := hv.out
      obtain ⟨x, hxe⟩ : ∃ x, smAt xs (wdt U D) q = x := ⟨_, rfl⟩
      obtain ⟨y, hye⟩ : ∃ y, smAt xs (wdt U D) (q + 1) = y := ⟨_, rfl⟩
      rw [hxe] at hbx hv2
      rw [hye] at hby hv2
      clear hv
      have hv := Lib.hid hv2
      have hxt := Lib.hid (show smAt xs (wdt U D) ((q : Int)).toNat = x by rw [Int.toNat_natCast]; exact hxe)
      have hyt := Lib.hid (show smAt xs (wdt U D) ((q : Int) + 1).toNat = y by rw [show ((q : Int) + 1).toNat = q + 1 by omega]; exact hye)
      clear hxe hye hv2
      have hx2 : -524288 ≤ x := by omega
      have hx3 : x ≤ 524288 := by omega
      have hy2 : -524288 ≤ y := by omega
      have hy3 : y ≤ 524288 := by omega
      have hp1 := mul_bd (a := (U : Int) - (f : Int)) (b := x) (m := 16) (q := 524288) (by omega) (by omega) hx2 hx3 (by omega)
      have hp2 := mul_bd (a := (f : Int)) (b := y) (m := 16) (q := 524288) (by omega) (by omega) hy2 hy3 (by omega)
      rw [Int.mul_comm _ x] at hp1
      rw [Int.mul_comm _ y] at hp2
      have p1 := hp1.1
      have p2 := hp1.2
      have p3 := hp2.1
      have p4 := hp2.2
      have hfu : (f : Int) < (U : Int) := by omega
      clear hbx hby hp1 hp2 hjd hjd0
      have wr1 : IntKind.i64.wrap ((q : Int) + 1) = (q : Int) + 1 := IntWalk.i64_in _ (by omega)
      have wr3 : IntKind.i64.wrap ((U : Int) - (f : Int)) = (U : Int) - (f : Int) := IntWalk.i64_in _ (by omega)
      have wr4 : IntKind.i64.wrap (x * ((U : Int) - (f : Int))) = x * ((U : Int) - (f : Int)) := IntWalk.i64_in _ (by omega)
      have wr5 : IntKind.i64.wrap (y * (f : Int)) = y * (f : Int) := IntWalk.i64_in _ (by omega)
      have wr6 : IntKind.i64.wrap (x * ((U : Int) - (f : Int)) + y * (f : Int)) = x * ((U : Int) - (f : Int)) + y * (f : Int) := IntWalk.i64_in _ (by omega)
      have cr1 : wr2.cell? ⟨w.heap.size, 1, none⟩ = some (.slice A n c) := hRr.cell 1
      have cs1 : wr2.cell? ⟨w2.heap.size, 1, none⟩ = some V := hRs.cell 1
      have cr1d : wr2.drew.cell? ⟨w.heap.size, 1, none⟩ = some (.slice A n c) := hRr.cell 1
      have cs1d : wr2.drew.cell? ⟨w2.heap.size, 1, none⟩ = some V := hRs.cell 1
      have hown2 : wr2.drew.ownsRow (w2.heap.size + 1) 3 1 V k (ivs .i64 (tab k (ipAt xs U D))) := hRown
      have hszR := hRs.lt
      have hrow := Lib.hid (fun k (hk : V.ownBlock = some k) => (hown2.lt k hk).1)
      have hRs2 := (hRs.drewN 1).alloc (.cells #[.int .i64 (rnd (x * ((U : Int) - (f : Int)) + y * (f : Int)) U)] 3)
      have cs1a : (wr2.drew.alloc (.cells #[.int .i64 (rnd (x * ((U : Int) - (f : Int)) + y * (f : Int)) U)] 3)).cell? ⟨w2.heap.size, 1, none⟩ = some V := hRs2.cell 1
      have hRr2 := (hRr.drewN 1).alloc (.cells #[.int .i64 (rnd (x * ((U : Int) - (f : Int)) + y * (f : Int)) U)] 3)
      have hRo2 := (hRo.drewN 1).alloc (.cells #[.int .i64 (rnd (x * ((U : Int) - (f : Int)) + y * (f : Int)) U)] 3)
      go_wp2
      rw [show Op.load 22 (Operand.tmp 100) = ldF 22 (Operand.tmp 100) from rfl]
      go_region_held3 (fun wx => wx.cell? ⟨w.heap.size, 1, none⟩ = some (.slice A n c)) (first | exact cr1d | exact cr1 | exact hRr2.cell 1 | exact hRr5.cell 1 | exact hRr6.out _ | go_keep)
        (first
          | (refine step_append_lies _ (by rfl) _ _ _ (by rfl) (w2.heap.size + 1) 3 i0 (.int .i64 0) 1 8 Try.underlying22 hi hz0 hz1 hz2 (by rfl) (by decide) V k (ivs .i64 (tab k (ipAt xs U D))) (by rfl) (hown2.alloc _) ⟨wr2.heap.size, 0, none⟩ 1 1 [.int .i64 (rnd (x * ((U : Int) - (f : Int)) + y * (f : Int)) U)] (by rfl) (by rfl) (news_one _ _ _) (oneCell1 _) (by omega) (by unfold maxLen; omega) (by omega) (by simp; omega) _ rfl ?_; intro g cap w5 hown5 hgrow hat hlt5; have hRs5 := hRs2.grown hgrow (fun e => by have := hrow.out _ e.symm; omega); have hRr5 := hRr2.grown hgrow (fun e => by have := hrow.out _ e.symm; omega); have hRr6 := Lib.hid (fun v => (hRr5.far (p := ⟨w2.heap.size, 1, none⟩) (by simp; omega) v).cell 1); have s1 := hRs5.cell 1; have sf := hRs5.frozen 1)
          | (go_at_call 75; refine (hC.out _ (by omega) (by omega)).mono ?_; rintro e w' ⟨rfl, rfl⟩; first | rw [hxt.out] | rw [hyt.out])
          | (go_at_call 74; refine (Round_any _ _ _ (by omega) (by omega) (by omega) (by omega)).mono ?_; rintro e w' ⟨rfl, rfl⟩))
      all_goals
        have hRo5 := hRo2.grown hgrow (fun e => by have := hrow.out _ e.symm; omega)
        have hb5 := (((bel_drewN hRb 1).alloc (o := .cells #[.int .i64 (rnd (x * ((U : Int) - (f : Int)) + y * (f : Int)) U)] 3) (bel_drewN hRb 1).size).grown hgrow (by have := hRb.size; simp; omega) (fun k hk => by have := hrow.out k hk; omega)).setCell (p := ⟨w2.heap.size, 1, none⟩) (Nat.le_refl _) (.slice (some ⟨g, 0, none⟩) (k + 1) cap)
        have hown6 : (w5.setCell ⟨w2.heap.size, 1, none⟩ (.slice (some ⟨g, 0, none⟩) (k + 1) cap)).ownsRow (w2.heap.size + 1) 3 1 (.slice (some ⟨g, 0, none⟩) (k + 1) cap) (k + 1) (ivs .i64 (tab (k + 1) (ipAt xs U D))) := by
          rw [tab_succ, ivs_snoc, ← hv.out]
          exact own_same hown5 (fun j h1 _ => Below.heap_setCell w5 _ _ j (fun e => by dsimp only at e; omega))
        have hfin : RsR w2 w.heap.size (w.heap.size + 1) w2.heap.size rate Q A n c (.slice (some ⟨g, 0, none⟩) (k + 1) cap) (k + 1) (ipAt xs U D) (w5.setCell ⟨w2.heap.size, 1, none⟩ (.slice (some ⟨g, 0, none⟩) (k + 1) cap)) :=
          ⟨hRr5.far (by simp; omega) _, hRo5.far (by simp; omega) _, hRs5.set_ 1 _, hown6, hb5⟩
        clear hown5 hown6 hb5 s1 sf
        go_wp2
        go_roundw
        case rel => exact ⟨k + 1, _, by go_num, hlt, hfin⟩
        case measure => simp [intOf]; omega
    · have hkM' : k = M := by omega
      subst hkM'
      obtain ⟨hRr, hRo, hRs, hRown, hRb⟩ := hQR
      obtain ⟨A2, c2, rfl, hS2⟩ := Sl.of_own hRown
      have k0 : wr.cell? ⟨w2.heap.size, 0, none⟩ = some (.int .i64 Q) := hRs.cell 0
      have k1 : wr.cell? ⟨w2.heap.size, 1, none⟩ = some (.slice A2 k c2) := hRs.cell 1
      have o0 := hRo.cell 0
      have o1 := hRo.cell 1
      have f0 := hRo.frozen 0
      have f1 := hRo.frozen 1
      have hfr := Lib.hid (show 0 < k → ∀ ad, A2 = some ad → ad.block ≠ w.heap.size + 1 from fun _ ad he => by
        subst he
        have := (hRown.lt ad.block rfl).1
        omega)
      go_wp2
      exact ret_rec2 rfl rfl ((hRo.set_ 0 _).set_ 1 _) rfl ⟨A2, k, c2, rfl, (hS2.farn hfr.out 0 _).farn hfr.out 1 _, ((((hw0.trans (hb2.mono hsz0)).trans (hRb.mono (Nat.le_trans hsz0 hsz))).setCell (p := ⟨w.heap.size + 1, 0, none⟩) (by simp) _).setCell (p := ⟨w.heap.size + 1, 1, none⟩) (by simp) _)⟩
end Go.Proofs.Ytobobbhifajhmaa
