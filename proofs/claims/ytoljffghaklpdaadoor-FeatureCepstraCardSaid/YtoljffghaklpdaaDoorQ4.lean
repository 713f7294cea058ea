import Derived.Test.YtoljffghaklpdaaDoorQ0

namespace Go.Proofs.YtoljffghaklpdaaDoor.Fr
open Go.RowKit Num

/-- a digit and its rest -/
structure Two (u u1 Y q r : Nat) : Prop where
  q : q = (u * 4294967296 + u1) / Y
  r : r = (u * 4294967296 + u1) % Y

/-- the quotient and the rest, put together -/
theorem end_letters {hi lo y s P Y y1 y0 U V u1 u0 Q R Z F : Nat} (H : Sh hi lo y s P Y y1 y0 U V u1 u0) (h : hi < y) (hlo : lo ≤ 18446744073709551615) (T1 : Two U u1 Y Q R) (T2 : Two R u0 Y Z F) :
    ∃ D D2 F2 : Nat, IntKind.u64.wrap ((Q : Int) * 4294967296) = (D : Int) ∧ IntKind.u64.wrap ((D : Int) + (Z : Int)) = (D2 : Int) ∧ (F : Int) / 2 ^ s = (F2 : Int) ∧
      (hi * bs .u64 + lo) / y = D2 ∧ (hi * bs .u64 + lo) % y = F2 := by
  have b7 := H.UY
  have hYp : 0 < Y := by omega
  have k1 := kn_two (B := 4294967296) (u := U) (a := u1) (b := u0) hYp
  rw [← T1.q, ← T1.r, ← T2.q, ← T2.r, H.eN, H.eY] at k1
  have k2 := kn_shift (n := hi * 18446744073709551616 + lo) (y := y) H.P0
  rw [k2.1] at k1
  have k3 := k1.2
  have hs := kn_small (B := 4294967296) (y1 := y1) (y0 := y0) (u := U) (u1 := u1) (by rw [← H.Y2]; exact b7) H.u1b
  rw [← H.Y2, ← T1.q] at hs
  have hd : (hi * 18446744073709551616 + lo) / y < 18446744073709551616 := by
    rw [Nat.div_lt_iff_lt_mul (by omega)]
    have := Nat.mul_le_mul_right 18446744073709551616 h
    rw [Nat.succ_mul] at this
    rw [Nat.mul_comm 18446744073709551616]
    omega
  rw [← k3] at k2
  refine ⟨Q * 4294967296, (hi * 18446744073709551616 + lo) / y, F / P, ?_, ?_, ?_, rfl, k2.2.symm⟩
  · rw [IntKind.wrap_u64]; omega
  · rw [← k1.1, IntKind.wrap_u64]; omega
  · rw [← H.hP.out, Int.natCast_ediv]

set_option maxHeartbeats 1600000 in
set_option maxRecDepth 100000 in
theorem div64_any (hi lo y : Nat) (w : World) (h : hi < y) (hlo : lo ≤ 18446744073709551615) (hyb : y ≤ 18446744073709551615) (hp : 0 < hi) :
  Calls Tryd.prog 132 #[.int .u64 (hi : Int), .int .u64 (lo : Int), .int .u64 (y : Int)] w fun e w' => ∃ m, e = .returned (.tuple #[.int .u64 (((hi * bs .u64 + lo) / y : Nat) : Int), .int .u64 (((hi * bs .u64 + lo) % y : Nat) : Int)]) ∧ w' = w.drewN m := by
  obtain ⟨s, P, Y, y1, y0, U, V, u1, u0, H⟩ := sh_of hi lo y h hlo hyb
  have hs := H.hs.out
  have hs1 := H.s1
  have hY := H.hY.out
  have hd1 := H.hd1.out
  have hd0 := H.hd0.out
  have hU := H.hU.out
  have hV := H.hV.out
  have hV1 := H.hV1.out
  have hV0 := H.hV0.out
  have b1 := H.y1a
  have b2 := H.y1b
  have b3 := H.y0b
  have b4 := H.u1b
  have b5 := H.u0b
  have b6 := H.Yb
  have b7 := H.UY
  have b8 := Lib.hid H.Y2
  have hYp : 0 < Y := by omega
  obtain ⟨q, r, m0, hq, hqy, hr, hrb, hqt, hk0⟩ := first_guess (u1 := u1) b7 b8.out b6 b3 b1 b2 b4
  have hk := Lib.hid hk0
  clear hk0
  obtain ⟨Q, eQ⟩ : ∃ Q, Q = (U * 4294967296 + u1) / Y := ⟨_, rfl⟩
  obtain ⟨R, eR⟩ : ∃ R, R = (U * 4294967296 + u1) % Y := ⟨_, rfl⟩
  obtain ⟨A, A2, A3, hA, hA2, hA3, hA4⟩ := rest_after b6 hYp eQ eR
  have hRY : R < Y := by rw [eR]; exact Nat.mod_lt _ hYp
  obtain ⟨q', r', m0', hq', hqy', hr', hrb', hqt', hk0'⟩ := first_guess (u1 := u0) hRY b8.out b6 b3 b1 b2 b5
  have hk' := Lib.hid hk0'
  clear hk0'
  obtain ⟨Z, eZ⟩ : ∃ Z, Z = (R * 4294967296 + u0) / Y := ⟨_, rfl⟩
  obtain ⟨F, eF⟩ : ∃ F, F = (R * 4294967296 + u0) % Y := ⟨_, rfl⟩
  obtain ⟨C, C2, C3, hC, hC2, hC3, hC4⟩ := rest_after b6 hYp eZ eF
  have T1 : Two U u1 Y Q R := ⟨eQ, eR⟩
  have T2 : Two R u0 Y Z F := ⟨eZ, eF⟩
  clear eQ eR eZ eF
  obtain ⟨D, D2, F2, hD, hD2, hF2, hE1, hE2⟩ := end_letters H h hlo T1 T2
  rw [hE1, hE2]
  clear hE1 hE2
  have hy0 : y1 ≠ 0 := by omega
  have h0 : ((y : Int) == 0) = false := by rw [beq_eq_false_iff_ne]; omega
  have h1 : ¬ (y : Int) ≤ hi := by omega
  have h2 : ((hi : Int) == 0) = false := by rw [beq_eq_false_iff_ne]; omega
  go_enter Tryd.func132, Tryd.ntmps132
  go_wp2_with fail
  refine (Tryd.bits_LeadingZeros64 _ _ (by omega) (by omega)).mono ?_
  rw [Int.toNat_natCast, hs]
  clear hs
  rintro e w2 ⟨rfl, rfl⟩
  go_wp2
  go_loopw [15, 16] (fun qv rv wr => ∃ q r, Gs y1 y0 U u1 qv rv q r ∧ wr = w2) (fun qv _ _ => (intOf qv).toNat)
  case atStart => exact ⟨q, r, ⟨rfl, rfl, by omega, hk, by omega⟩, rfl⟩
  case round =>
    clear hk hr hq hqy hqt hrb hY hd1 hd0 hU hV hV1 hV0 h0 h1 h2
    obtain ⟨qq, rr, ⟨rfl, rfl, hrb, hk, hq1⟩, rfl⟩ := hrel
    have hcase : (qq < 4294967296 ∧ qq * y0 ≤ 4294967296 * rr + u1) ∨ (4294967296 ≤ qq ∨ 4294967296 * rr + u1 < qq * y0) := by omega
    rcases hcase with ⟨hqb, hg⟩ | hg
    · have he := kn_done hk.out (by rw [← b8.out]; exact b7) hg
      rw [← b8.out, ← T1.q] at he
      subst he
      obtain ⟨a, b, c, ea, ec, g1, g2, g3⟩ := guard_nums hqb hrb b3 b4
      rw [← ea, ← ec] at hg
      clear ea ec
      have hnd : decide ((4294967296 : Int) ≤ (qq : Int)) = false := by rw [decide_eq_false_iff_not]; omega
      go_wp2
      go_loopw [16, 18] (fun rv qv wv => ∃ q r, Gs y1 y0 R u0 qv rv q r ∧ wv = wr) (fun _ qv _ => (intOf qv).toNat)
      case atStart => exact ⟨q', r', ⟨rfl, rfl, hrb', hk', hqt'⟩, rfl⟩
      case round =>
        clear hk' hq' hqy' hr' hrb' hqt'
        obtain ⟨qq, rr, ⟨rfl, rfl, hrb, hk, hq1⟩, rfl⟩ := hrel
        have hcase : (qq < 4294967296 ∧ qq * y0 ≤ 4294967296 * rr + u0) ∨ (4294967296 ≤ qq ∨ 4294967296 * rr + u0 < qq * y0) := by omega
        rcases hcase with ⟨hqb, hg⟩ | hg
        · have he := kn_done hk.out (by rw [← b8.out]; exact hRY) hg
          rw [← b8.out, ← T2.q] at he
          subst he
          obtain ⟨a, b, c, ea, ec, g1, g2, g3⟩ := guard_nums hqb hrb b3 b5
          rw [← ea, ← ec] at hg
          clear ea ec
          have hnd : decide ((4294967296 : Int) ≤ (qq : Int)) = false := by rw [decide_eq_false_iff_not]; omega
          go_wp2
          go_ret2
          exact ⟨0, rfl, rfl⟩
        · obtain ⟨h1q, hqB, hk2⟩ := kn_step hk.out (by rw [← b8.out]; exact hRY) b5 hg
          obtain ⟨qp, hqp⟩ : ∃ qp, qq - 1 = qp := ⟨_, rfl⟩
          have hsub : IntKind.u64.wrap ((qq : Int) - 1) = (qp : Int) := by
            rw [show (qq : Int) - 1 = (qp : Int) by omega]
            exact IntWalk.u64_in _ ⟨by omega, by omega⟩
          have hlt : qp < qq := by omega
          rw [hqp] at hqB hk2
          clear hqp
          obtain ⟨r2, hr2⟩ : ∃ r2, rr + y1 = r2 := ⟨_, rfl⟩
          have hsum : IntKind.u64.wrap ((rr : Int) + (y1 : Int)) = (r2 : Int) := by
            rw [show (rr : Int) + (y1 : Int) = (r2 : Int) by omega]
            exact IntWalk.u64_in _ ⟨by omega, by omega⟩
          rw [hr2] at hk2
          clear hr2
          rcases Nat.lt_or_ge r2 4294967296 with hrn | hrn
          · have hnr : decide ((4294967296 : Int) ≤ (r2 : Int)) = false := by rw [decide_eq_false_iff_not]; omega
            have hk3 := Lib.hid hk2
            clear hk2
            rcases Nat.lt_or_ge qq 4294967296 with hqb | hqb
            · obtain ⟨a, b, c, ea, ec, g1, g2, g3⟩ := guard_nums hqb hrb b3 b5
              have hg2 : c < a := by rw [ea, ec]; omega
              clear ea ec hg
              have hnd : decide ((4294967296 : Int) ≤ (qq : Int)) = false := by rw [decide_eq_false_iff_not]; omega
              go_wp2
              go_roundw
              case rel => exact ⟨qp, r2, ⟨rfl, rfl, hrn, hk3, by omega⟩, trivial⟩
              case measure => simp [intOf]; omega
            · clear hg
              have hnd : decide ((4294967296 : Int) ≤ (qq : Int)) = true := by rw [decide_eq_true_iff]; omega
              go_wp2
              go_roundw
              case rel => exact ⟨qp, r2, ⟨rfl, rfl, hrn, hk3, by omega⟩, trivial⟩
              case measure => simp [intOf]; omega
          · have hnr : decide ((4294967296 : Int) ≤ (r2 : Int)) = true := by rw [decide_eq_true_iff]; omega
            have he := kn_over hk2 (by rw [← b8.out]; exact hRY) b3 hqB hrn
            rw [← b8.out, ← T2.q] at he
            clear hk2
            subst he
            rcases Nat.lt_or_ge qq 4294967296 with hqb | hqb
            · obtain ⟨a, b, c, ea, ec, g1, g2, g3⟩ := guard_nums hqb hrb b3 b5
              have hg2 : c < a := by rw [ea, ec]; omega
              clear ea ec hg
              have hnd : decide ((4294967296 : Int) ≤ (qq : Int)) = false := by rw [decide_eq_false_iff_not]; omega
              go_wp2
              go_ret2
              exact ⟨0, rfl, rfl⟩
            · clear hg
              have hnd : decide ((4294967296 : Int) ≤ (qq : Int)) = true := by rw [decide_eq_true_iff]; omega
              go_wp2
              go_ret2
              exact ⟨0, rfl, rfl⟩
    · obtain ⟨h1q, hqB, hk2⟩ := kn_step hk.out (by rw [← b8.out]; exact b7) b4 hg
      obtain ⟨qp, hqp⟩ : ∃ qp, qq - 1 = qp := ⟨_, rfl⟩
      have hsub : IntKind.u64.wrap ((qq : Int) - 1) = (qp : Int) := by
        rw [show (qq : Int) - 1 = (qp : Int) by omega]
        exact IntWalk.u64_in _ ⟨by omega, by omega⟩
      have hlt : qp < qq := by omega
      rw [hqp] at hqB hk2
      clear hqp
      obtain ⟨r2, hr2⟩ : ∃ r2, rr + y1 = r2 := ⟨_, rfl⟩
      have hsum : IntKind.u64.wrap ((rr : Int) + (y1 : Int)) = (r2 : Int) := by
        rw [show (rr : Int) + (y1 : Int) = (r2 : Int) by omega]
        exact IntWalk.u64_in _ ⟨by omega, by omega⟩
      rw [hr2] at hk2
      clear hr2
      rcases Nat.lt_or_ge r2 4294967296 with hrn | hrn
      · have hnr : decide ((4294967296 : Int) ≤ (r2 : Int)) = false := by rw [decide_eq_false_iff_not]; omega
        have hk3 := Lib.hid hk2
        clear hk2
        rcases Nat.lt_or_ge qq 4294967296 with hqb | hqb
        · obtain ⟨a, b, c, ea, ec, g1, g2, g3⟩ := guard_nums hqb hrb b3 b4
          have hg2 : c < a := by rw [ea, ec]; omega
          clear ea ec hg
          have hnd : decide ((4294967296 : Int) ≤ (qq : Int)) = false := by rw [decide_eq_false_iff_not]; omega
          go_wp2
          go_roundw
          case rel => exact ⟨qp, r2, ⟨rfl, rfl, hrn, hk3, by omega⟩, trivial⟩
          case measure => simp [intOf]; omega
        · clear hg
          have hnd : decide ((4294967296 : Int) ≤ (qq : Int)) = true := by rw [decide_eq_true_iff]; omega
          go_wp2
          go_roundw
          case rel => exact ⟨qp, r2, ⟨rfl, rfl, hrn, hk3, by omega⟩, trivial⟩
          case measure => simp [intOf]; omega
      · have hnr : decide ((4294967296 : Int) ≤ (r2 : Int)) = true := by rw [decide_eq_true_iff]; omega
        have he := kn_over hk2 (by rw [← b8.out]; exact b7) b3 hqB hrn
        rw [← b8.out, ← T1.q] at he
        clear hk2
        subst he
        rcases Nat.lt_or_ge qq 4294967296 with hqb | hqb
        · obtain ⟨a, b, c, ea, ec, g1, g2, g3⟩ := guard_nums hqb hrb b3 b4
          have hg2 : c < a := by rw [ea, ec]; omega
          clear ea ec hg
          have hnd : decide ((4294967296 : Int) ≤ (qq : Int)) = false := by rw [decide_eq_false_iff_not]; omega
          go_wp2
          go_loopw [16, 18] (fun rv qv wv => ∃ q r, Gs y1 y0 R u0 qv rv q r ∧ wv = wr) (fun _ qv _ => (intOf qv).toNat)
          case atStart => exact ⟨q', r', ⟨rfl, rfl, hrb', hk', hqt'⟩, rfl⟩
          case round =>
            clear hk' hq' hqy' hr' hrb' hqt'
            obtain ⟨qq, rr, ⟨rfl, rfl, hrb, hk, hq1⟩, rfl⟩ := hrel
            have hcase : (qq < 4294967296 ∧ qq * y0 ≤ 4294967296 * rr + u0) ∨ (4294967296 ≤ qq ∨ 4294967296 * rr + u0 < qq * y0) := by omega
            rcases hcase with ⟨hqb, hg⟩ | hg
            · have he := kn_done hk.out (by rw [← b8.out]; exact hRY) hg
              rw [← b8.out, ← T2.q] at he
              subst he
              obtain ⟨a, b, c, ea, ec, g1, g2, g3⟩ := guard_nums hqb hrb b3 b5
              rw [← ea, ← ec] at hg
              clear ea ec
              have hnd : decide ((4294967296 : Int) ≤ (qq : Int)) = false := by rw [decide_eq_false_iff_not]; omega
              go_wp2
              go_ret2
              exact ⟨0, rfl, rfl⟩
            · obtain ⟨h1q, hqB, hk2⟩ := kn_step hk.out (by rw [← b8.out]; exact hRY) b5 hg
              obtain ⟨qp, hqp⟩ : ∃ qp, qq - 1 = qp := ⟨_, rfl⟩
              have hsub : IntKind.u64.wrap ((qq : Int) - 1) = (qp : Int) := by
                rw [show (qq : Int) - 1 = (qp : Int) by omega]
                exact IntWalk.u64_in _ ⟨by omega, by omega⟩
              have hlt : qp < qq := by omega
              rw [hqp] at hqB hk2
              clear hqp
              obtain ⟨r2, hr2⟩ : ∃ r2, rr + y1 = r2 := ⟨_, rfl⟩
              have hsum : IntKind.u64.wrap ((rr : Int) + (y1 : Int)) = (r2 : Int) := by
                rw [show (rr : Int) + (y1 : Int) = (r2 : Int) by omega]
                exact IntWalk.u64_in _ ⟨by omega, by omega⟩
              rw [hr2] at hk2
              clear hr2
              rcases Nat.lt_or_ge r2 4294967296 with hrn | hrn
              · have hnr : decide ((4294967296 : Int) ≤ (r2 : Int)) = false := by rw [decide_eq_false_iff_not]; omega
                have hk3 := Lib.hid hk2
                clear hk2
                rcases Nat.lt_or_ge qq 4294967296 with hqb | hqb
                · obtain ⟨a, b, c, ea, ec, g1, g2, g3⟩ := guard_nums hqb hrb b3 b5
                  have hg2 : c < a := by rw [ea, ec]; omega
                  clear ea ec hg
                  have hnd : decide ((4294967296 : Int) ≤ (qq : Int)) = false := by rw [decide_eq_false_iff_not]; omega
                  go_wp2
                  go_roundw
                  case rel => exact ⟨qp, r2, ⟨rfl, rfl, hrn, hk3, by omega⟩, trivial⟩
                  case measure => simp [intOf]; omega
                · clear hg
                  have hnd : decide ((4294967296 : Int) ≤ (qq : Int)) = true := by rw [decide_eq_true_iff]; omega
                  go_wp2
                  go_roundw
                  case rel => exact ⟨qp, r2, ⟨rfl, rfl, hrn, hk3, by omega⟩, trivial⟩
                  case measure => simp [intOf]; omega
              · have hnr : decide ((4294967296 : Int) ≤ (r2 : Int)) = true := by rw [decide_eq_true_iff]; omega
                have he := kn_over hk2 (by rw [← b8.out]; exact hRY) b3 hqB hrn
                rw [← b8.out, ← T2.q] at he
                clear hk2
                subst he
                rcases Nat.lt_or_ge qq 4294967296 with hqb | hqb
                · obtain ⟨a, b, c, ea, ec, g1, g2, g3⟩ := guard_nums hqb hrb b3 b5
                  have hg2 : c < a := by rw [ea, ec]; omega
                  clear ea ec hg
                  have hnd : decide ((4294967296 : Int) ≤ (qq : Int)) = false := by rw [decide_eq_false_iff_not]; omega
                  go_wp2
                  go_ret2
                  exact ⟨0, rfl, rfl⟩
                · clear hg
                  have hnd : decide ((4294967296 : Int) ≤ (qq : Int)) = true := by rw [decide_eq_true_iff]; omega
                  go_wp2
                  go_ret2
                  exact ⟨0, rfl, rfl⟩
        · clear hg
          have hnd : decide ((4294967296 : Int) ≤ (qq : Int)) = true := by rw [decide_eq_true_iff]; omega
          go_wp2
          go_loopw [16, 18] (fun rv qv wv => ∃ q r, Gs y1 y0 R u0 qv rv q r ∧ wv = wr) (fun _ qv _ => (intOf qv).toNat)
          case atStart => exact ⟨q', r', ⟨rfl, rfl, hrb', hk', hqt'⟩, rfl⟩
          case round =>
            clear hk' hq' hqy' hr' hrb' hqt'
            obtain ⟨qq, rr, ⟨rfl, rfl, hrb, hk, hq1⟩, rfl⟩ := hrel
            have hcase : (qq < 4294967296 ∧ qq * y0 ≤ 4294967296 * rr + u0) ∨ (4294967296 ≤ qq ∨ 4294967296 * rr + u0 < qq * y0) := by omega
            rcases hcase with ⟨hqb, hg⟩ | hg
            · have he := kn_done hk.out (by rw [← b8.out]; exact hRY) hg
              rw [← b8.out, ← T2.q] at he
              subst he
              obtain ⟨a, b, c, ea, ec, g1, g2, g3⟩ := guard_nums hqb hrb b3 b5
              rw [← ea, ← ec] at hg
              clear ea ec
              have hnd : decide ((4294967296 : Int) ≤ (qq : Int)) = false := by rw [decide_eq_false_iff_not]; omega
              go_wp2
              go_ret2
              exact ⟨0, rfl, rfl⟩
            · obtain ⟨h1q, hqB, hk2⟩ := kn_step hk.out (by rw [← b8.out]; exact hRY) b5 hg
              obtain ⟨qp, hqp⟩ : ∃ qp, qq - 1 = qp := ⟨_, rfl⟩
              have hsub : IntKind.u64.wrap ((qq : Int) - 1) = (qp : Int) := by
                rw [show (qq : Int) - 1 = (qp : Int) by omega]
                exact IntWalk.u64_in _ ⟨by omega, by omega⟩
              have hlt : qp < qq := by omega
              rw [hqp] at hqB hk2
              clear hqp
              obtain ⟨r2, hr2⟩ : ∃ r2, rr + y1 = r2 := ⟨_, rfl⟩
              have hsum : IntKind.u64.wrap ((rr : Int) + (y1 : Int)) = (r2 : Int) := by
                rw [show (rr : Int) + (y1 : Int) = (r2 : Int) by omega]
                exact IntWalk.u64_in _ ⟨by omega, by omega⟩
              rw [hr2] at hk2
              clear hr2
              rcases Nat.lt_or_ge r2 4294967296 with hrn | hrn
              · have hnr : decide ((4294967296 : Int) ≤ (r2 : Int)) = false := by rw [decide_eq_false_iff_not]; omega
                have hk3 := Lib.hid hk2
                clear hk2
                rcases Nat.lt_or_ge qq 4294967296 with hqb | hqb
                · obtain ⟨a, b, c, ea, ec, g1, g2, g3⟩ := guard_nums hqb hrb b3 b5
                  have hg2 : c < a := by rw [ea, ec]; omega
                  clear ea ec hg
                  have hnd : decide ((4294967296 : Int) ≤ (qq : Int)) = false := by rw [decide_eq_false_iff_not]; omega
                  go_wp2
                  go_roundw
                  case rel => exact ⟨qp, r2, ⟨rfl, rfl, hrn, hk3, by omega⟩, trivial⟩
                  case measure => simp [intOf]; omega
                · clear hg
                  have hnd : decide ((4294967296 : Int) ≤ (qq : Int)) = true := by rw [decide_eq_true_iff]; omega
                  go_wp2
                  go_roundw
                  case rel => exact ⟨qp, r2, ⟨rfl, rfl, hrn, hk3, by omega⟩, trivial⟩
                  case measure => simp [intOf]; omega
              · have hnr : decide ((4294967296 : Int) ≤ (r2 : Int)) = true := by rw [decide_eq_true_iff]; omega
                have he := kn_over hk2 (by rw [← b8.out]; exact hRY) b3 hqB hrn
                rw [← b8.out, ← T2.q] at he
                clear hk2
                subst he
                rcases Nat.lt_or_ge qq 4294967296 with hqb | hqb
                · obtain ⟨a, b, c, ea, ec, g1, g2, g3⟩ := guard_nums hqb hrb b3 b5
                  have hg2 : c < a := by rw [ea, ec]; omega
                  clear ea ec hg
                  have hnd : decide ((4294967296 : Int) ≤ (qq : Int)) = false := by rw [decide_eq_false_iff_not]; omega
                  go_wp2
                  go_ret2
                  exact ⟨0, rfl, rfl⟩
                · clear hg
                  have hnd : decide ((4294967296 : Int) ≤ (qq : Int)) = true := by rw [decide_eq_true_iff]; omega
                  go_wp2
                  go_ret2
                  exact ⟨0, rfl, rfl⟩

theorem div_said : DivSaid := by
  intro hi lo y w h hlo hy
  rcases Nat.eq_zero_or_pos hi with rfl | hp
  · rw [Nat.zero_mul, Nat.zero_add]
    exact div64_zero lo y hlo (by omega) hy w
  · exact div64_any hi lo y w h hlo hy hp
end Go.Proofs.YtoljffghaklpdaaDoor.Fr
