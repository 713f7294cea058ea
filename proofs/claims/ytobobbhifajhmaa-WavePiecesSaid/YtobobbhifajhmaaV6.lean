/- A recording at another rate. -/
import Derived.Test.YtobobbhifajhmaaV5
import Derived.Deep.QuietTactic
import Derived.BigQuiet
import Derived.StillTailTactics
import Derived.IntWalk
import Derived.Deep.RegionHeld3
namespace Go.Proofs.Ytobobbhifajhmaa
open Go.RowKit

/-- how many samples are smoothed into one -/
def wdt (u d : Nat) : Nat := (d + u - 1) / u
/-- sample j at the distance d / u -/
def ipAt (xs : List Int) (u d j : Nat) : Int := rnd (smAt xs (wdt u d) (j * d / u) * ((u : Int) - ((j * d % u : Nat) : Int)) + smAt xs (wdt u d) (j * d / u + 1) * ((j * d % u : Nat) : Int)) u

theorem smAt_bd {xs : List Int} {m : Int} (h : ∀ x ∈ xs, -m ≤ x ∧ x ≤ m) (hn : 0 < xs.length) {wd : Nat} (hw : 1 ≤ wd) (i : Nat) : -(m * (wd : Int)) ≤ smAt xs wd i ∧ smAt xs wd i ≤ m * (wd : Int) := by
  have h1 := wsum_bd h hn i wd
  exact rnd_abs (by omega) h1.1 h1.2

theorem Fill.drewN {w wr : World} {g : Nat} {t : TypeId} {n k : Nat} {f : Nat → Int} (h : Fill w wr g t n k f) (i : Nat) : Fill w (wr.drewN i) g t n k f := ⟨h.own.drewN i, bel_drewN h.bel i, h.new⟩

set_option maxHeartbeats 1600000 in
set_option maxRecDepth 100000 in
theorem interpolate_any (A : Option Addr) (n c u d m : Nat) (xs : List Int) (w : World) (h : Sl .i64 w A n c xs) (hn1 : 1 ≤ n) (hn : n ≤ 200000) (hx : ∀ x ∈ xs, -32768 ≤ x ∧ x ≤ 32768)
    (hu1 : 1 ≤ u) (hu2 : u ≤ 16) (hd1 : 1 ≤ d) (hd2 : d ≤ 16) (hm : m ≤ 200000) (hlt : ∀ j, j < m → j * d / u < n) :
    Calls Try.prog 72 #[.slice A n c, .int .i64 (u : Int), .int .i64 (d : Int), .int .i64 (m : Int)] w (RetL .i64 w (tab m (ipAt xs u d))) := by
  have hl := Lib.hid h.len
  have hx := Lib.hid hx
  have hlt := Lib.hid hlt
  have hmk := make_int m (by omega)
  have hwd : 1 ≤ wdt u d ∧ wdt u d ≤ 16 := by
    unfold wdt
    refine ⟨(Nat.le_div_iff_mul_le (by omega)).2 (by omega), ?_⟩
    have : (d + u - 1) / u < 17 := (Nat.div_lt_iff_lt_mul (by omega)).2 (by omega)
    omega
  have hwe := Lib.hid (show ((d : Int) + (u : Int) - 1) / (u : Int) = ((wdt u d : Nat) : Int) by
    unfold wdt
    rw [Int.natCast_ediv, Int.natCast_sub (by omega), Int.natCast_add]; rfl)
  have hw1 := hwd.1
  have hw2 := hwd.2
  clear hwd
  go_enter Try.func72, Try.ntmps72
  go_wp2_with fail
  refine (divideUp_any _ _ _ (by omega) (by omega) (by omega) (by omega)).mono ?_
  rintro e w' ⟨rfl, rfl⟩
  rw [hwe.out]
  go_wp2_with fail
  refine (smooth_any _ _ _ _ _ _ h hn1 hn hx.out hw1 hw2).mono ?_
  rintro e w1 ⟨A1, m1, c1, rfl, hS, hb1, _⟩
  have hl1 := hS.len
  rw [tab_len] at hl1
  subst hl1
  have hcap := hS.cap
  have htop := hS.top
  go_wp2
  clear hmk
  go_loopw [23] (fun iv wr => ∃ j : Nat, iv = .int .i64 j ∧ j ≤ m ∧ Fill w1 wr w1.heap.size 3 m j (ipAt xs u d)) (fun iv _ => m - (intOf iv).toNat)
  case atStart => exact ⟨0, rfl, Nat.zero_le _, Fill.start (Below.refl _ _) rfl⟩
  case round =>
    obtain ⟨j, rfl, hjm, hF⟩ := hrel
    rcases Nat.lt_or_ge j m with hj | hge
    · have hq := hlt.out j hj
      have hjd : (j : Int) * (d : Int) ≤ 200000 * 16 := Int.mul_le_mul (by omega) (by omega) (by omega) (by omega)
      have hjd0 : 0 ≤ (j : Int) * (d : Int) := Int.mul_nonneg (by omega) (by omega)
      have hf2 : j * d % u < u := Nat.mod_lt _ (by omega)
      have eq1 : (j : Int) * (d : Int) / (u : Int) = ((j * d / u : Nat) : Int) := by rw [Int.natCast_ediv, Int.natCast_mul]
      have eq2 : (j : Int) * (d : Int) % (u : Int) = ((j * d % u : Nat) : Int) := by rw [Int.natCast_emod, Int.natCast_mul]
      have hv := Lib.hid (show rnd (smAt xs (wdt u d) (j * d / u) * ((u : Int) - ((j * d % u : Nat) : Int)) + smAt xs (wdt u d) (j * d / u + 1) * ((j * d % u : Nat) : Int)) u = ipAt xs u d j from rfl)
      generalize j * d / u = q at *
      generalize j * d % u = f at *
      go_wp2
      go_quiet (fail)
      simp only [eq1, eq2]
      clear eq1 eq2
      generalize nq = nr
      have hF := hF.drewN nr
      generalize wr.drewN nr = wr2 at *
      have hr := hS.below hF.bel
      obtain ⟨ad, x, rfl, hcx, hx1⟩ := hr.at_ (j := q) (by omega)
      obtain ⟨ad', y, he, hcy, hy1⟩ := hr.at_ (j := q + 1) (by omega)
      injection he with he
      subst he
      obtain ⟨z, hcz⟩ := hF.cell hj
      have hcf := hF.frozen j
      rw [tab_getD (by omega)] at hx1 hy1
      have hbx := smAt_bd hx.out (by rw [hl.out]; omega) hw1 q
      have hby := smAt_bd hx.out (by rw [hl.out]; omega) hw1 (q + 1)
      rw [hx1.out] at hbx
      rw [hy1.out] at hby
      have hx2 : -524288 ≤ x := by omega
      have hx3 : x ≤ 524288 := by omega
      have hy2 : -524288 ≤ y := by omega
      have hy3 : y ≤ 524288 := by omega
      have hp1 := mul_bd (a := (u : Int) - (f : Int)) (b := x) (m := 16) (q := 524288) (by omega) (by omega) hx2 hx3 (by omega)
      have hp2 := mul_bd (a := (f : Int)) (b := y) (m := 16) (q := 524288) (by omega) (by omega) hy2 hy3 (by omega)
      rw [Int.mul_comm _ x] at hp1
      rw [Int.mul_comm _ y] at hp2
      rw [hx1.out, hy1.out] at hv
      have p1 := hp1.1
      have p2 := hp1.2
      have p3 := hp2.1
      have p4 := hp2.2
      have hfu : (f : Int) < (u : Int) := by omega
      have hqn : (q : Int) + 1 < (n : Int) + 1 := by omega
      have hqn0 : (q : Int) < (n : Int) + 1 := by omega
      have hjm0 : (j : Int) < (m : Int) := by omega
      clear hbx hby hp1 hp2 hjd hjd0
      have wr1 : IntKind.i64.wrap ((q : Int) + 1) = (q : Int) + 1 := IntWalk.i64_in _ (by omega)
      have wr3 : IntKind.i64.wrap ((u : Int) - (f : Int)) = (u : Int) - (f : Int) := IntWalk.i64_in _ (by omega)
      have wr4 : IntKind.i64.wrap (x * ((u : Int) - (f : Int))) = x * ((u : Int) - (f : Int)) := IntWalk.i64_in _ (by omega)
      have wr5 : IntKind.i64.wrap (y * (f : Int)) = y * (f : Int) := IntWalk.i64_in _ (by omega)
      have wr6 : IntKind.i64.wrap (x * ((u : Int) - (f : Int)) + y * (f : Int)) = x * ((u : Int) - (f : Int)) + y * (f : Int) := IntWalk.i64_in _ (by omega)
      have wr7 : 0 ≤ (q : Int) + 1 := by omega
      have hcy2 : wr2.cell? { block := ad.block, off := ad.off + (q + 1) } = some (.int .i64 y) := by have := hcy; unfold Addr.add at this; rw [if_neg (by omega)] at this; exact this
      have wr8 : ((q : Int) + 1).toNat = q + 1 := by omega
      go_wp2_with fail
      go_still_tail 21, (by kernel_rfl)
      still_call ((divide_any _ _ _ (by omega) (by omega) (by omega) (by omega)).mono fun e w' h => ⟨h.1, h.2.symm⟩)
      repeat still_step
      refine wpStill_nil ?_
      change wpList _ _ _ _ _ wr2.drew
      clear wr1 wr3 wr4 wr5 wr6 wr8
      rw [hv.out]
      have hF := hF.drewN 1
      have hcf : wr2.drew.frozen? ⟨w1.heap.size, j, none⟩ = false := hcf
      have hcz : wr2.drew.cell? ⟨w1.heap.size, j, none⟩ = some (.int .i64 z) := hcz
      go_wp2
      go_roundw
      case rel => exact ⟨j + 1, by go_num, hj, hF.next hj rfl⟩
      case measure => simp [intOf]; omega
    · have hjm' : j = m := by omega
      subst hjm'
      have hD := hF.done (by omega)
      go_wp2
      go_ret
      exact ⟨_, _, _, rfl, hD, hb1.trans (hF.bel.mono hb1.size), fresh_at (Nat.le_trans hb1.size hF.new)⟩
end Go.Proofs.Ytobobbhifajhmaa
