import Derived.Test.YtbgihlfblmilmaaGreatDoorQ0
import Derived.Test.YtbgihlfblmilmaaGreatDoorPD
import Derived.Deep.QuietTactic
import Derived.BigQuiet
import Derived.IntWalk
namespace Go.Proofs.YtbgihlfblmilmaaGreatDoor.Fr
open Go.RowKit Num

/-- a digit and its rest -/
structure Two (u u1 Y q r : Nat) : Prop where
  q : q = (u * 4294967296 + u1) / Y
  r : r = (u * 4294967296 + u1) % Y

/-- the quotient and the rest, put together -/
theorem end_letters {hi lo y s P Y y1 y0 U V u1 u0 Q R Z F : Nat} (H : Sh hi lo y s P Y y1 y0 U V u1 u0) (h : hi < y) (hlo : lo ≤ 18446744073709551615) (T1 : Two U u1 Y Q R) (T2 : Two R u0 Y Z F) :
    ∃ D D2 F2 : Nat, IntKind.u64.wrap ((Q : Int) * 4294967296) = (D : Int) ∧ IntKind.u64.wrap ((D : Int) + (Z : Int)) = (D2 : Int) ∧ (F : Int) / 2 ^ s = (F2 : Int) ∧
      (hi * bs .u64 + lo) / y = D2 ∧ (hi * bs .u64 + lo) % y = F2 := by
  have b7 := H.UY
  have hYp : 0 < Y := by omega
  have k1 := kn_two (B := 4294967296) (u := U) (a := u1) (b := u0) hYp
  rw [← T1.q, ← T1.r, ← T2.q, ← T2.r, H.eN, H.eY] at k1
  have k2 := kn_shift (n := hi * 18446744073709551616 + lo) (y := y) H.P0
  rw [k2.1] at k1
  have k3 := k1.2
  have hs := kn_small (B := 4294967296) (y1 := y1) (y0 := y0) (u := U) (u1 := u1) (by rw [← H.Y2]; exact b7) H.u1b
  rw [← H.Y2, ← T1.q] at hs
  have hd : (hi * 18446744073709551616 + lo) / y < 18446744073709551616 := by
    rw [Nat.div_lt_iff_lt_mul (by omega)]
    have := Nat.mul_le_mul_right 18446744073709551616 h
    rw [Nat.succ_mul] at this
    rw [Nat.mul_comm 18446744073709551616]
    omega
  rw [← k3] at k2
  refine ⟨Q * 4294967296, (hi * 18446744073709551616 + lo) / y, F / P, ?_, ?_, ?_, rfl, k2.2.symm⟩
  · rw [IntKind.wrap_u64]; omega
  · rw [← k1.1, IntKind.wrap_u64]; omega
  · rw [← H.hP.out, Int.natCast_ediv]

set_option maxHeartbeats 1600000 in
set_option maxRecDepth 100000 in
theorem div64_any (hi lo y : Nat) (w : World) (h : hi < y) (hlo : lo ≤ 18446744073709551615) (hyb : y ≤ 18446744073709551615) (hp : 0 < hi) :
  Calls Tryz.prog 150 #[.int .u64 (hi : Int), .int .u64 (lo : Int), .int .u64 (y : Int)] w fun e w' => ∃ m, e = .returned (.tuple #[.int .u64 (((hi * bs .u64 + lo) / y : Nat) : Int), .int .u64 (((hi * bs .u64 + lo) % y : Nat) : Int)]) ∧ w' = w.drewN m := by
  obtain ⟨s, P, Y, y1, y0, U, V, u1, u0, H⟩ := sh_of hi lo y h hlo hyb
  have hs := H.hs.out
  have hs1 := H.s1
  have hY := H.hY.out
  have hd1 := H.hd1.out
  have hd0 := H.hd0.out
  have hU := H.hU.out
  have hV := H.hV.out
  have hV1 := H.hV1.out
  have hV0 := H.hV0.out
  have b1 := H.y1a
  have b2 := H.y1b
  have b3 := H.y0b
  have b4 := H.u1b
  have b5 := H.u0b
  have b6 := H.Yb
  have b7 := H.UY
  have b8 := Lib.hid H.Y2
  have hYp : 0 < Y := by omega
  obtain ⟨q, r, m0, hq, hqy, hr, hrb, hqt, hk0⟩ := first_guess (u1 := u1) b7 b8.out b6 b3 b1 b2 b4
  have hk := Lib.hid hk0
  clear hk0
  obtain ⟨Q, eQ⟩ : ∃ Q, Q = (U * 4294967296 + u1) / Y := ⟨_, rfl⟩
  obtain ⟨R, eR⟩ : ∃ R, R = (U * 4294967296 + u1) % Y := ⟨_, rfl⟩
  obtain ⟨A, A2, A3, hA, hA2, hA3, hA4⟩ := rest_after b6 hYp eQ eR
  have hRY : R < Y := by rw [eR]; exact Nat.mod_lt _ hYp
  obtain ⟨q', r', m0', hq', hqy', hr', hrb', hqt', hk0'⟩ := first_guess (u1 := u0) hRY b8.out b6 b3 b1 b2 b5
  have hk' := Lib.hid hk0'
  clear hk0'
  obtain ⟨Z, eZ⟩ : ∃ Z, Z = (R * 4294967296 + u0) / Y := ⟨_, rfl⟩
  obtain ⟨F, eF⟩ : ∃ F, F = (R * 4294967296 + u0) % Y := ⟨_, rfl⟩
  obtain ⟨C, C2, C3, hC, hC2, hC3, hC4⟩ := rest_after b6 hYp eZ eF
  have T1 : Two U u1 Y Q R := ⟨eQ, eR⟩
  have T2 : Two R u0 Y Z F := ⟨eZ, eF⟩
  clear eQ eR eZ eF
  obtain ⟨D, D2, F2, hD, hD2, hF2, hE1, hE2⟩ := end_letters H h hlo T1 T2
  rw [hE1, hE2]
  clear hE1 hE2
  have hy0 : y1 ≠ 0 := by omega
  have h0 : ((y : Int) == 0) = false := by rw [beq_eq_false_iff_ne]; omega
  have h1 : ¬ (y : Int) ≤ hi := by omega
  have h2 : ((hi : Int) == 0) = false := by rw [beq_eq_false_iff_ne]; omega
  go_enter Tryz.func150, Tryz.ntmps150
  go_wp2_with fail
  refine (Tryz.bits_LeadingZeros64 _ _ (by omega) (by omega)).mono ?_
  rw [Int.toNat_natCast, hs]
  clear hs
  rintro e w2 ⟨rfl, rfl⟩
  go_wp2
  go_loopw [15, 16] (fun qv rv wr => ∃ q r, Gs y1 y0 U u1 qv rv q r ∧ wr = w2) (fun qv _ _ => (intOf qv).toNat)
  case atStart => exact ⟨q, r, ⟨rfl, rfl, by omega, hk, by omega⟩, rfl⟩
  case round =>
    clear hk hr hq hqy hqt hrb hY hd1 hd0 hU hV hV1 hV0 h0 h1 h2
    obtain ⟨qq, rr, ⟨rfl, rfl, hrb, hk, hq1⟩, rfl⟩ := hrel
    have hcase : (qq < 4294967296 ∧ qq * y0 ≤ 4294967296 * rr + u1) ∨ (4294967296 ≤ qq ∨ 4294967296 * rr + u1 < qq * y0) := by omega
    rcases hcase with ⟨hqb, hg⟩ | hg
    · have he := kn_done hk.out (by rw [← b8.out]; exact b7) hg
      rw [← b8.out, ← T1.q] at he
      subst he
      obtain ⟨a, b, c, ea, ec, g1, g2, g3⟩ := guard_nums hqb hrb b3 b4
      rw [← ea, ← ec] at hg
      clear ea ec
      have hnd : decide ((4294967296 : Int) ≤ (qq : Int)) = false := by rw [decide_eq_false_iff_not]; omega
      go_wp2
      go_loopw [16, 18] (fun rv qv wv => ∃ q r, Gs y1 y0 R u0 qv rv q r ∧ wv = wr) (fun _ qv _ => (intOf qv).toNat)
      case atStart => exact ⟨q', r', ⟨rfl, rfl, hrb', hk', hqt'⟩, rfl⟩
      case round =>
        clear hk' hq' hqy' hr' hrb' hqt'
        obtain ⟨qq, rr, ⟨rfl, rfl, hrb, hk, hq1⟩, rfl⟩ := hrel
        have hcase : (qq < 4294967296 ∧ qq * y0 ≤ 4294967296 * rr + u0) ∨ (4294967296 ≤ qq ∨ 4294967296 * rr + u0 < qq * y0) := by omega
        rcases hcase with ⟨hqb, hg⟩ | hg
        · have he := kn_done hk.out (by rw [← b8.out]; exact hRY) hg
          rw [← b8.out, ← T2.q] at he
          subst he
          obtain ⟨a, b, c, ea, ec, g1, g2, g3⟩ := guard_nums hqb hrb b3 b5
          rw [← ea, ← ec] at hg
          clear ea ec
          have hnd : decide ((4294967296 : Int) ≤ (qq : Int)) = false := by rw [decide_eq_false_iff_not]; omega
          go_wp2
          go_ret2
          exact ⟨0, rfl, rfl⟩
        · obtain ⟨h1q, hqB, hk2⟩ := kn_step hk.out (by rw [← b8.out]; exact hRY) b5 hg
          obtain ⟨qp, hqp⟩ : ∃ qp, qq - 1 = qp := ⟨_, rfl⟩
          have hsub : IntKind.u64.wrap ((qq : Int) - 1) = (qp : Int) := by
            rw [show (qq : Int) - 1 = (qp : Int) by omega]
            exact IntWalk.u64_in _ ⟨by omega, by omega⟩
          have hlt : qp < qq := by omega
          rw [hqp] at hqB hk2
          clear hqp
          obtain ⟨r2, hr2⟩ : ∃ r2, rr + y1 = r2 := ⟨_, rfl⟩
          have hsum : IntKind.u64.wrap ((rr : Int) + (y1 : Int)) = (r2 : Int) := by
            rw [show (rr : Int) + (y1 : Int) = (r2 : Int) by omega]
            exact IntWalk.u64_in _ ⟨by omega, by omega⟩
          rw [hr2] at hk2
          clear hr2
          rcases Nat.lt_or_ge r2 4294967296 with hrn | hrn
          · have hnr : decide ((4294967296 : Int) ≤ (r2 : Int)) = false := by rw [decide_eq_false_iff_not]; omega
            have hk3 := Lib.hid hk2
            clear hk2
            rcases Nat.lt_or_ge qq 4294967296 with hqb | hqb
            · obtain ⟨a, b, c, ea, ec, g1, g2, g3⟩ := guard_nums hqb hrb b3 b5
              have hg2 : c < a := by rw [ea, ec]; omega
              clear ea ec hg
              have hnd : decide ((4294967296 : Int) ≤ (qq : Int)) = false := by rw [decide_eq_false_iff_not]; omega
              go_wp2
              go_roundw
              case rel => exact ⟨qp, r2, ⟨rfl, rfl, hrn, hk3, by omega⟩, trivial⟩
              case measure => simp [intOf]; omega
            · clear hg
              have hnd : decide ((4294967296 : Int) ≤ (qq : Int)) = true := by rw [decide_eq_true_iff]; omega
              go_wp2
              go_roundw
              case rel => exact ⟨qp, r2, ⟨rfl, rfl, hrn, hk3, by omega⟩, trivial⟩
              case measure => simp [intOf]; omega
          · have hnr : decide ((4294967296 : Int) ≤ (r2 : Int)) = true := by rw [decide_eq_true_iff]; omega
            have he := kn_over hk2 (by rw [← b8.out]; exact hRY) b3 hqB hrn
            rw [← b8.out, ← T2.q] at he
            clear hk2
            subst he
            rcases Nat.lt_or_ge qq 4294967296 with hqb | hqb
            · obtain ⟨a, b, c, ea, ec, g1, g2, g3⟩ := guard_nums hqb hrb b3 b5
              have hg2 : c < a := by rw [ea, ec]; omega
              clear ea ec hg
              have hnd : decide ((4294967296 : Int) ≤ (qq : Int)) = false := by rw [decide_eq_false_iff_not]; omega
              go_wp2
              go_ret2
              exact ⟨0, rfl, rfl⟩
            · clear hg
              have hnd : decide ((4294967296 : Int) ≤ (qq : Int)) = true := by rw [decide_eq_true_iff]; omega
              go_wp2
              go_ret2
              exact ⟨0, rfl, rfl⟩
    · obtain ⟨h1q, hqB, hk2⟩ := kn_step hk.out (by rw [← b8.out]; exact b7) b4 hg
      obtain ⟨qp, hqp⟩ : ∃ qp, qq - 1 = qp := ⟨_, rfl⟩
      have hsub : IntKind.u64.wrap ((qq : Int) - 1) = (qp : Int) := by
        rw [show (qq : Int) - 1 = (qp : Int) by omega]
        exact IntWalk.u64_in _ ⟨by omega, by omega⟩
      have hlt : qp < qq := by omega
      rw [hqp] at hqB hk2
      clear hqp
      obtain ⟨r2, hr2⟩ : ∃ r2, rr + y1 = r2 := ⟨_, rfl⟩
      have hsum : IntKind.u64.wrap ((rr : Int) + (y1 : Int)) = (r2 : Int) := by
        rw [show (rr : Int) + (y1 : Int) = (r2 : Int) by omega]
        exact IntWalk.u64_in _ ⟨by omega, by omega⟩
      rw [hr2] at hk2
      clear hr2
      rcases Nat.lt_or_ge r2 4294967296 with hrn | hrn
      · have hnr : decide ((4294967296 : Int) ≤ (r2 : Int)) = false := by rw [decide_eq_false_iff_not]; omega
        have hk3 := Lib.hid hk2
        clear hk2
        rcases Nat.lt_or_ge qq 4294967296 with hqb | hqb
        · obtain ⟨a, b, c, ea, ec, g1, g2, g3⟩ := guard_nums hqb hrb b3 b4
          have hg2 : c < a := by rw [ea, ec]; omega
          clear ea ec hg
          have hnd : decide ((4294967296 : Int) ≤ (qq : Int)) = false := by rw [decide_eq_false_iff_not]; omega
          go_wp2
          go_roundw
          case rel => exact ⟨qp, r2, ⟨rfl, rfl, hrn, hk3, by omega⟩, trivial⟩
          case measure => simp [intOf]; omega
        · clear hg
          have hnd : decide ((4294967296 : Int) ≤ (qq : Int)) = true := by rw [decide_eq_true_iff]; omega
          go_wp2
          go_roundw
          case rel => exact ⟨qp, r2, ⟨rfl, rfl, hrn, hk3, by omega⟩, trivial⟩
          case measure => simp [intOf]; omega
      · have hnr : decide ((4294967296 : Int) ≤ (r2 : Int)) = true := by rw [decide_eq_true_iff]; omega
        have he := kn_over hk2 (by rw [← b8.out]; exact b7) b3 hqB hrn
        rw [← b8.out, ← T1.q] at he
        clear hk2
        subst he
        rcases Nat.lt_or_ge qq 4294967296 with hqb | hqb
        · obtain ⟨a, b, c, ea, ec, g1, g2, g3⟩ := guard_nums hqb hrb b3 b4
          have hg2 : c < a := by rw [ea, ec]; omega
          clear ea ec hg
          have hnd : decide ((4294967296 : Int) ≤ (qq : Int)) = false := by rw [decide_eq_false_iff_not]; omega
          go_wp2
          go_loopw [16, 18] (fun rv qv wv => ∃ q r, Gs y1 y0 R u0 qv rv q r ∧ wv = wr) (fun _ qv _ => (intOf qv).toNat)
          case atStart => exact ⟨q', r', ⟨rfl, rfl, hrb', hk', hqt'⟩, rfl⟩
          case round =>
            clear hk' hq' hqy' hr' hrb' hqt'
            obtain ⟨qq, rr, ⟨rfl, rfl, hrb, hk, hq1⟩, rfl⟩ := hrel
            have hcase : (qq < 4294967296 ∧ qq * y0 ≤ 4294967296 * rr + u0) ∨ (4294967296 ≤ qq ∨ 4294967296 * rr + u0 < qq * y0) := by omega
            rcases hcase with ⟨hqb, hg⟩ | hg
            · have he := kn_done hk.out (by rw [← b8.out]; exact hRY) hg
              rw [← b8.out, ← T2.q] at he
              subst he
              obtain ⟨a, b, c, ea, ec, g1, g2, g3⟩ := guard_nums hqb hrb b3 b5
              rw [← ea, ← ec] at hg
              clear ea ec
              have hnd : decide ((4294967296 : Int) ≤ (qq : Int)) = false := by rw [decide_eq_false_iff_not]; omega
              go_wp2
              go_ret2
              exact ⟨0, rfl, rfl⟩
            · obtain ⟨h1q, hqB, hk2⟩ := kn_step hk.out (by rw [← b8.out]; exact hRY) b5 hg
              obtain ⟨qp, hqp⟩ : ∃ qp, qq - 1 = qp := ⟨_, rfl⟩
              have hsub : IntKind.u64.wrap ((qq : Int) - 1) = (qp : Int) := by
                rw [show (qq : Int) - 1 = (qp : Int) by omega]
                exact IntWalk.u64_in _ ⟨by omega, by omega⟩
              have hlt : qp < qq := by omega
              rw [hqp] at hqB hk2
              clear hqp
              obtain ⟨r2, hr2⟩ : ∃ r2, rr + y1 = r2 := ⟨_, rfl⟩
              have hsum : IntKind.u64.wrap ((rr : Int) + (y1 : Int)) = (r2 : Int) := by
                rw [show (rr : Int) + (y1 : Int) = (r2 : Int) by omega]
                exact IntWalk.u64_in _ ⟨by omega, by omega⟩
              rw [hr2] at hk2
              clear hr2
              rcases Nat.lt_or_ge r2 4294967296 with hrn | hrn
              · have hnr : decide ((4294967296 : Int) ≤ (r2 : Int)) = false := by rw [decide_eq_false_iff_not]; omega
                have hk3 := Lib.hid hk2
                clear hk2
                rcases Nat.lt_or_ge qq 4294967296 with hqb | hqb
                · obtain ⟨a, b, c, ea, ec, g1, g2, g3⟩ := guard_nums hqb hrb b3 b5
                  have hg2 : c < a := by rw [ea, ec]; omega
                  clear ea ec hg
                  have hnd : decide ((4294967296 : Int) ≤ (qq : Int)) = false := by rw [decide_eq_false_iff_not]; omega
                  go_wp2
                  go_roundw
                  case rel => exact ⟨qp, r2, ⟨rfl, rfl, hrn, hk3, by omega⟩, trivial⟩
                  case measure => simp [intOf]; omega
                · clear hg
                  have hnd : decide ((4294967296 : Int) ≤ (qq : Int)) = true := by rw [decide_eq_true_iff]; omega
                  go_wp2
                  go_roundw
                  case rel => exact ⟨qp, r2, ⟨rfl, rfl, hrn, hk3, by omega⟩, trivial⟩
                  case measure => simp [intOf]; omega
              · have hnr : decide ((4294967296 : Int) ≤ (r2 : Int)) = true := by rw [decide_eq_true_iff]; omega
                have he := kn_over hk2 (by rw [← b8.out]; exact hRY) b3 hqB hrn
                rw [← b8.out, ← T2.q] at he
                clear hk2
                subst he
                rcases Nat.lt_or_ge qq 4294967296 with hqb | hqb
                · obtain ⟨a, b, c, ea, ec, g1, g2, g3⟩ := guard_nums hqb hrb b3 b5
                  have hg2 : c < a := by rw [ea, ec]; omega
                  clear ea ec hg
                  have hnd : decide ((4294967296 : Int) ≤ (qq : Int)) = false := by rw [decide_eq_false_iff_not]; omega
                  go_wp2
                  go_ret2
                  exact ⟨0, rfl, rfl⟩
                · clear hg
                  have hnd : decide ((4294967296 : Int) ≤ (qq : Int)) = true := by rw [decide_eq_true_iff]; omega
                  go_wp2
                  go_ret2
                  exact ⟨0, rfl, rfl⟩
        · clear hg
          have hnd : decide ((4294967296 : Int) ≤ (qq : Int)) = true := by rw [decide_eq_true_iff]; omega
          go_wp2
          go_loopw [16, 18] (fun rv qv wv => ∃ q r, Gs y1 y0 R u0 qv rv q r ∧ wv = wr) (fun _ qv _ => (intOf qv).toNat)
          case atStart => exact ⟨q', r', ⟨rfl, rfl, hrb', hk', hqt'⟩, rfl⟩
          case round =>
            clear hk' hq' hqy' hr' hrb' hqt'
            obtain ⟨qq, rr, ⟨rfl, rfl, hrb, hk, hq1⟩, rfl⟩ := hrel
            have hcase : (qq < 4294967296 ∧ qq * y0 ≤ 4294967296 * rr + u0) ∨ (4294967296 ≤ qq ∨ 4294967296 * rr + u0 < qq * y0) := by omega
            rcases hcase with ⟨hqb, hg⟩ | hg
            · have he := kn_done hk.out (by rw [← b8.out]; exact hRY) hg
              rw [← b8.out, ← T2.q] at he
              subst he
              obtain ⟨a, b, c, ea, ec, g1, g2, g3⟩ := guard_nums hqb hrb b3 b5
              rw [← ea, ← ec] at hg
              clear ea ec
              have hnd : decide ((4294967296 : Int) ≤ (qq : Int)) = false := by rw [decide_eq_false_iff_not]; omega
              go_wp2
              go_ret2
              exact ⟨0, rfl, rfl⟩
            · obtain ⟨h1q, hqB, hk2⟩ := kn_step hk.out (by rw [← b8.out]; exact hRY) b5 hg
              obtain ⟨qp, hqp⟩ : ∃ qp, qq - 1 = qp := ⟨_, rfl⟩
              have hsub : IntKind.u64.wrap ((qq : Int) - 1) = (qp : Int) := by
                rw [show (qq : Int) - 1 = (qp : Int) by omega]
                exact IntWalk.u64_in _ ⟨by omega, by omega⟩
              have hlt : qp < qq := by omega
              rw [hqp] at hqB hk2
              clear hqp
              obtain ⟨r2, hr2⟩ : ∃ r2, rr + y1 = r2 := ⟨_, rfl⟩
              have hsum : IntKind.u64.wrap ((rr : Int) + (y1 : Int)) = (r2 : Int) := by
                rw [show (rr : Int) + (y1 : Int) = (r2 : Int) by omega]
                exact IntWalk.u64_in _ ⟨by omega, by omega⟩
              rw [hr2] at hk2
              clear hr2
              rcases Nat.lt_or_ge r2 4294967296 with hrn | hrn
              · have hnr : decide ((4294967296 : Int) ≤ (r2 : Int)) = false := by rw [decide_eq_false_iff_not]; omega
                have hk3 := Lib.hid hk2
                clear hk2
                rcases Nat.lt_or_ge qq 4294967296 with hqb | hqb
                · obtain ⟨a, b, c, ea, ec, g1, g2, g3⟩ := guard_nums hqb hrb b3 b5
                  have hg2 : c < a := by rw [ea, ec]; omega
                  clear ea ec hg
                  have hnd : decide ((4294967296 : Int) ≤ (qq : Int)) = false := by rw [decide_eq_false_iff_not]; omega
                  go_wp2
                  go_roundw
                  case rel => exact ⟨qp, r2, ⟨rfl, rfl, hrn, hk3, by omega⟩, trivial⟩
                  case measure => simp [intOf]; omega
                · clear hg
                  have hnd : decide ((4294967296 : Int) ≤ (qq : Int)) = true := by rw [decide_eq_true_iff]; omega
                  go_wp2
                  go_roundw
                  case rel => exact ⟨qp, r2, ⟨rfl, rfl, hrn, hk3, by omega⟩, trivial⟩
                  case measure => simp [intOf]; omega
              · have hnr : decide ((4294967296 : Int) ≤ (r2 : Int)) = true := by rw [decide_eq_true_iff]; omega
                have he := kn_over hk2 (by rw [← b8.out]; exact hRY) b3 hqB hrn
                rw [← b8.out, ← T2.q] at he
                clear hk2
                subst he
                rcases Nat.lt_or_ge qq 4294967296 with hqb | hqb
                · obtain ⟨a, b, c, ea, ec, g1, g2, g3⟩ := guard_nums hqb hrb b3 b5
                  have hg2 : c < a := by rw [ea, ec]; omega
                  clear ea ec hg
                  have hnd : decide ((4294967296 : Int) ≤ (qq : Int)) = false := by rw [decide_eq_false_iff_not]; omega
                  go_wp2
                  go_ret2
                  exact ⟨0, rfl, rfl⟩
                · clear hg
                  have hnd : decide ((4294967296 : Int) ≤ (qq : Int)) = true := by rw [decide_eq_true_iff]; omega
                  go_wp2
                  go_ret2
                  exact ⟨0, rfl, rfl⟩

theorem div_said : DivSaid := by
  intro hi lo y w h hlo hy
  rcases Nat.eq_zero_or_pos hi with rfl | hp
  · rw [Nat.zero_mul, Nat.zero_add]
    exact div64_zero lo y hlo (by omega) hy w
  · exact div64_any hi lo y w h hlo hy hp
end Go.Proofs.YtbgihlfblmilmaaGreatDoor.Fr

/- Powers of one digit, numbers in lowest terms, the size of a number. -/
namespace Go.Proofs.YtbgihlfblmilmaaGreatDoor.Fr
open Go.RowKit Num

theorem bit_and_i64 (x s : Nat) (hx : x ≤ 4294967295) : bits .and .i64 ((x : Int) / 2 ^ s) 1 = ((x / 2 ^ s % 2 : Nat) : Int) := by
  have e : ((x : Int) / 2 ^ s) = ((x / 2 ^ s : Nat) : Int) := by rw [Int.natCast_ediv]; simp
  have hle : x / 2 ^ s ≤ x := Nat.div_le_self _ _
  rw [e]
  generalize x / 2 ^ s = y at *
  have e1 : (BitVec.ofInt 64 (y : Int)).toNat = y := by
    rw [BitVec.ofInt_natCast, BitVec.toNat_ofNat]; exact Nat.mod_eq_of_lt (by omega)
  have e2 : (BitVec.ofInt 64 (1 : Int)).toNat = 1 := by decide
  show IntKind.i64.wrap ((BitVec.ofInt 64 (y : Int) &&& BitVec.ofInt 64 (1 : Int)).toNat : Int) = _
  rw [BitVec.toNat_and, e1, e2, Nat.and_one_is_mod]
  exact IntWalk.i64_in _ (by omega)

theorem HD : Hid DivSaid := Lib.hid div_said

theorem len_of_lt {us : List Nat} {x k : Nat} (hN : Nrm us) (hv : vl (bs .u64) us = x) (hx : x < bs .u64 ^ k) : us.length ≤ k := by
  rcases Nat.lt_or_ge k us.length with h | h
  · have h1 := hN.le (b := bs .u64) (by omega)
    have h2 : bs .u64 ^ k ≤ bs .u64 ^ (us.length - 1) := Nat.pow_le_pow_right (by decide) (by omega)
    omega
  · exact h
theorem pow_lt {a k : Nat} (ha : a < bs .u64) (hk : k ≤ 39) : a ^ k < bs .u64 ^ 39 := by
  have h1 : bs .u64 ^ k ≤ bs .u64 ^ 39 := Nat.pow_le_pow_right (by decide) hk
  rcases Nat.eq_zero_or_pos k with h0 | h0
  · subst h0
    rw [Nat.pow_zero]
    exact Nat.one_lt_pow (by decide) (by decide)
  · have h2 : a ^ k < bs .u64 ^ k := Nat.pow_lt_pow_left ha (by omega)
    omega

set_option maxHeartbeats 1600000 in
set_option maxRecDepth 100000 in
theorem pow_any (A : Option Addr) (m c n : Nat) (xs : List Nat) (w : World) (h : Dg .u64 w A m c xs) (a : Nat) (hv : Hid (vl (bs .u64) xs = a)) (hm : m ≤ 1) (hn : n ≤ 39) :
    Calls Tryz.prog 100 #[.slice A m c, .int .i64 (n : Int)] w (RetN .u64 w (a ^ n) 39) := by
  have hlen : ∀ w, Calls Tryz.prog 130 #[.int .u64 (n : Int)] w fun e w' => e = .returned (.int .i64 ((bl n : Nat) : Int)) ∧ w = w' := fun w =>
      (Tryz.bits_Len (n : Int) w (by omega) (by omega)).mono fun e w' ⟨he, hw⟩ => ⟨by rw [he, Int.toNat_natCast, bitLen_bl (by omega)], hw.symm⟩
  have hlen := Lib.hid hlen
  have ha : a < bs .u64 := by
    have := vl_lt h.ok
    rw [hv.out, h.len] at this
    have h2 : bs .u64 ^ m ≤ bs .u64 ^ 1 := Nat.pow_le_pow_right (by decide) hm
    rw [Nat.pow_one] at h2
    omega
  have hbl := lt_bl n
  have hbl6 : bl n ≤ 6 := bl_le (by omega)
  have hlenP := Lib.hid (fun (us : List Nat) (k : Nat) (hN : Nrm us) (hk : k ≤ n) (h9 : vl (bs .u64) us = a ^ k) => len_of_lt hN h9 (pow_lt ha (show k ≤ 39 by omega)))
  have hst := Lib.hid (show a ^ (n / 2 ^ bl n) = 1 by rw [Nat.div_eq_of_lt hbl, Nat.pow_zero])
  clear hbl ha
  go_enter Tryz.func100, Tryz.ntmps100
  go_wp2_with fail
  refine (one64_any w).mono ?_
  rintro e w1 ⟨rfl, rfl⟩
  have h1 := h.alloc (.cells #[.int .u64 1] 82)
  have hb1 := (Below.refl w.heap.size w).alloc (Nat.le_refl _) (.cells #[.int .u64 1] 82)
  have hone := Dg.lit_one64 w 82
  generalize w.alloc (.cells #[.int .u64 1] 82) = w1 at *
  go_wp2_with fail
  refine (hlen.out _).mono ?_
  rintro e w2 ⟨rfl, rfl⟩
  go_wp2
  go_loopw [5, 6] (fun pv iv wr => ∃ (j : Nat) (B : Option Addr) (q d : Nat) (us : List Nat), iv = .int .i64 ((j : Int) - 1) ∧ j ≤ 6 ∧ pv = .slice B q d ∧ Dg .u64 wr B q d us ∧ Nrm us ∧ Hid (vl (bs .u64) us = a ^ (n / 2 ^ j)) ∧ q ≤ 39 ∧ Below w.heap.size w wr) (fun _ iv _ => (intOf iv + 1).toNat)
  case atStart => exact ⟨bl n, _, _, _, _, rfl, hbl6, rfl, hone, nrm_lit1, by rw [hst.out]; exact vl_lit1 _, by decide, hb1⟩
  case round =>
    obtain ⟨j, B, q, d, us, rfl, hj6, rfl, hD, hN, hV, hq, hb⟩ := hrel
    rcases Nat.eq_zero_or_pos j with rfl | hj
    · have hV' : Hid (vl (bs .u64) us = a ^ n) := by rw [Nat.pow_zero, Nat.div_one] at hV; exact hV
      go_wp2
      go_ret
      exact ⟨_, _, _, _, rfl, hD, hN, hV', hq, hb⟩
    · obtain ⟨i, rfl⟩ : ∃ i, j = i + 1 := ⟨j - 1, by omega⟩
      have ei : ((i + 1 : Nat) : Int) - 1 = (i : Int) := by omega
      rw [ei]
      have ha' := h.below hb
      have hD2 := hD
      have hge : (0 : Int) ≤ (i : Int) := by omega
      have hstep := Lib.hid (fun (b : Nat) (hb : n / 2 ^ i % 2 = b) => show n / 2 ^ i = 2 * (n / 2 ^ (i + 1)) + b by
        rw [← hb, Nat.pow_succ, ← Nat.div_div_eq_div_mul]; omega)
      have hkn := Lib.hid (show n / 2 ^ i ≤ n from Nat.div_le_self _ _)
      have hbits := bit_and_i64 n i (by omega)
      rcases (show n / 2 ^ i % 2 = 0 ∨ n / 2 ^ i % 2 = 1 by omega) with hb0 | hb0
      · have he := Lib.hid (hstep.out 0 hb0)
        rw [hb0] at hbits
        clear hb0 hstep
        have hbits : bits .and .i64 ((n : Int) / 2 ^ i) 1 = 0 := hbits
        go_wp2_with fail
        refine (mul_any _ _ _ _ _ _ _ _ _ hD hD2 (by omega) (by omega) (by omega)).mono ?_
        rintro e w3 ⟨B3, q3, d3, us3, rfl, hD3, hN3, hV3, hq3, hb3, _⟩
        have hb4 := hb.trans (hb3.mono hb.size)
        have hV4 : Hid (vl (bs .u64) us3 = a ^ (n / 2 ^ i)) := by
          show _ = _
          rw [hV3.out, hV.out, he.out]
          generalize n / 2 ^ (i + 1) = Q
          rw [show 2 * Q + 0 = Q + Q by omega, Nat.pow_add]
        have hl4 := hlenP.out us3 _ hN3 hkn.out hV4.out
        rw [hD3.len] at hl4
        go_wp2
        go_roundw
        case rel => exact ⟨i, _, _, _, _, rfl, by omega, rfl, hD3, hN3, hV4, by omega, hb4⟩
        case measure => first | (simp [intOf]; done) | (simp [intOf]; omega)
      · have he := Lib.hid (hstep.out 1 hb0)
        rw [hb0] at hbits
        clear hb0 hstep
        have hbits : bits .and .i64 ((n : Int) / 2 ^ i) 1 = 1 := hbits
        go_wp2_with fail
        refine (mul_any _ _ _ _ _ _ _ _ _ hD hD2 (by omega) (by omega) (by omega)).mono ?_
        rintro e w3 ⟨B3, q3, d3, us3, rfl, hD3, hN3, hV3, hq3, hb3, _⟩
        have hb4 := hb.trans (hb3.mono hb.size)
        have ha3 := ha'.below hb3
        go_wp2_with fail
        refine (mul_any _ _ _ _ _ _ _ _ _ hD3 ha3 (by omega) (by omega) (by omega)).mono ?_
        rintro e w5 ⟨B5, q5, d5, us5, rfl, hD5, hN5, hV5, hq5, hb5, _⟩
        have hb6 := hb4.trans (hb5.mono hb4.size)
        have hV6 : Hid (vl (bs .u64) us5 = a ^ (n / 2 ^ i)) := by
          show _ = _
          rw [hV5.out, hV3.out, hV.out, hv.out, he.out]
          generalize n / 2 ^ (i + 1) = Q
          rw [show 2 * Q + 1 = Q + Q + 1 by omega, Nat.pow_succ, Nat.pow_add]
        have hl4 := hlenP.out us5 _ hN5 hkn.out hV6.out
        rw [hD5.len] at hl4
        go_wp2
        go_roundw
        case rel => exact ⟨i, _, _, _, _, rfl, by omega, rfl, hD5, hN5, hV6, by omega, hb6⟩
        case measure => first | (simp [intOf]; done) | (simp [intOf]; omega)

end Go.Proofs.YtbgihlfblmilmaaGreatDoor.Fr

/- Powers and sizes of numbers that are integers of one digit. -/
namespace Go.Proofs.YtbgihlfblmilmaaGreatDoor.Fr
open Go.RowKit Num

/-- what holds while the factors of a power are computed -/
structure PowI (w : World) (g1 g2 : Nat) (A5 A6 : Option Addr) (m5 c5 m6 c6 : Nat) (us5 us6 : List Nat) (W : World) : Prop where
  d5 : Dg .u64 W A5 m5 c5 us5
  d6 : Dg .u64 W A6 m6 c6 us6
  b : Blk W g1 67 #[.bool false, .slice A5 m5 c5, .slice A6 m6 c6]
  r : Blk W g2 24 #[.bool false, .slice none 0 0, .slice none 0 0]
  bel : Below w.heap.size w W
section
variable {w W W' : World} {g1 g2 : Nat} {A5 A6 : Option Addr} {m5 c5 m6 c6 : Nat} {us5 us6 : List Nat}
theorem PowI.below (h : PowI w g1 g2 A5 A6 m5 c5 m6 c6 us5 us6 W) (hb : Below W.heap.size W W') : PowI w g1 g2 A5 A6 m5 c5 m6 c6 us5 us6 W' :=
  ⟨h.d5.below hb, h.d6.below hb, h.b.below hb, h.r.below hb, h.bel.trans (hb.mono h.bel.size)⟩
theorem PowI.alloc (h : PowI w g1 g2 A5 A6 m5 c5 m6 c6 us5 us6 W) (o : Obj) : PowI w g1 g2 A5 A6 m5 c5 m6 c6 us5 us6 (W.alloc o) := h.below ((Below.refl _ _).alloc (Nat.le_refl _) o)
theorem PowI.drew (h : PowI w g1 g2 A5 A6 m5 c5 m6 c6 us5 us6 W) : PowI w g1 g2 A5 A6 m5 c5 m6 c6 us5 us6 W.drew := h.below (bel_drewN (Below.refl _ _) 1)
theorem PowI.cells (h : PowI w g1 g2 A5 A6 m5 c5 m6 c6 us5 us6 W) : W.cell? ⟨g1, 0, none⟩ = some (.bool false) ∧ W.cell? ⟨g1, 1, none⟩ = some (.slice A5 m5 c5) ∧ W.cell? ⟨g1, 2, none⟩ = some (.slice A6 m6 c6) := ⟨h.b.cell 0, h.b.cell 1, h.b.cell 2⟩
theorem PowI.cells3 (h : PowI w g1 g2 A5 A6 m5 c5 m6 c6 us5 us6 W) {g : Nat} (hg : g1 ≠ g) (x y z : Value) : (((W.setCell ⟨g, 0, none⟩ x).setCell ⟨g, 1, none⟩ y).setCell ⟨g, 2, none⟩ z).cell? ⟨g1, 0, none⟩ = some (.bool false) ∧ (((W.setCell ⟨g, 0, none⟩ x).setCell ⟨g, 1, none⟩ y).setCell ⟨g, 2, none⟩ z).cell? ⟨g1, 1, none⟩ = some (.slice A5 m5 c5) ∧ (((W.setCell ⟨g, 0, none⟩ x).setCell ⟨g, 1, none⟩ y).setCell ⟨g, 2, none⟩ z).cell? ⟨g1, 2, none⟩ = some (.slice A6 m6 c6) :=
  ⟨(cell_set3 _ _ _ _ _ _ hg).trans h.cells.1, (cell_set3 _ _ _ _ _ _ hg).trans h.cells.2.1, (cell_set3 _ _ _ _ _ _ hg).trans h.cells.2.2⟩
end
theorem Dg.set3 {k : IntKind} {w : World} {A : Option Addr} {n c : Nat} {xs : List Nat} (h : Dg k w A n c xs) {g : Nat} {t : TypeId} {a : Bool} {p1 q1 : Option Addr} {p2 p3 q2 q3 : Nat}
    (hB : Blk w g t #[.bool a, .slice p1 p2 p3, .slice q1 q2 q3]) (x y z : Value) : Dg k (((w.setCell ⟨g, 0, none⟩ x).setCell ⟨g, 1, none⟩ y).setCell ⟨g, 2, none⟩ z) A n c xs :=
  (((h.farp (h.nob hB) 0 x).farp (h.nob hB) 1 y).farp (h.nob hB) 2 z)

end Go.Proofs.YtbgihlfblmilmaaGreatDoor.Fr

/- The size of an integer. -/
namespace Go.Proofs.YtbgihlfblmilmaaGreatDoor.Fr
open Go.RowKit Num

end Go.Proofs.YtbgihlfblmilmaaGreatDoor.Fr
