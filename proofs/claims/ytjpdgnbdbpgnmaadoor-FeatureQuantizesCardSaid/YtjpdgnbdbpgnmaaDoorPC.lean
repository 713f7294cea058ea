import Derived.Test.YtjpdgnbdbpgnmaaDoorPA
import Derived.Test.YtjpdgnbdbpgnmaaDoorMem
namespace Go.Proofs.YtjpdgnbdbpgnmaaDoor.Fr
open Go.RowKit Num

/-- what math/bits.Div64 returns for hi < y -/
def DivSaid : Prop := ∀ (hi lo y : Nat) (w : World), hi < y → lo ≤ 18446744073709551615 → y ≤ 18446744073709551615 →
  Calls Tryd.prog 132 #[.int .u64 (hi : Int), .int .u64 (lo : Int), .int .u64 (y : Int)] w fun e w' => ∃ m, e = .returned (.tuple #[.int .u64 (((hi * bs .u64 + lo) / y : Nat) : Int), .int .u64 (((hi * bs .u64 + lo) % y : Nat) : Int)]) ∧ w' = w.drewN m

theorem div64_zero (lo y : Nat) (hlo : lo ≤ 18446744073709551615) (hy : 1 ≤ y) (hyb : y ≤ 18446744073709551615) (w : World) :
    Calls Tryd.prog 132 #[.int .u64 0, .int .u64 (lo : Int), .int .u64 (y : Int)] w fun e w' => ∃ m, e = .returned (.tuple #[.int .u64 ((lo / y : Nat) : Int), .int .u64 ((lo % y : Nat) : Int)]) ∧ w' = w.drewN m := by
  have h0 : ((y : Int) == 0) = false := by rw [beq_eq_false_iff_ne]; omega
  have h1 : ¬ (y : Int) ≤ 0 := by omega
  have e1 : ((lo / y : Nat) : Int) = (lo : Int) / (y : Int) := by rw [Int.natCast_ediv]
  have e2 : ((lo % y : Nat) : Int) = (lo : Int) % (y : Int) := by rw [Int.natCast_emod]
  have H1 := Lib.hid e1
  have H2 := Lib.hid e2
  clear e1 e2
  rw [H1.out, H2.out]
  have hw : IntKind.u64.wrap ((lo : Int) / (y : Int)) = (lo : Int) / (y : Int) := IntWalk.u64_in _ ⟨Int.ediv_nonneg (by omega) (by omega), by have := Int.ediv_le_self (a := (lo : Int)) (y : Int) (by omega); omega⟩
  go_enter Tryd.func132, Tryd.ntmps132
  go_wp2
  go_quiet (fail)
  go_wp2
  go_ret2
  exact ⟨_, rfl, rfl⟩

structure ShrRel (w : World) (g n y : Nat) (cur0 : List Nat) (rv iv : Value) (wr : World) (k r : Nat) (cur : List Nat) : Prop where
  i : iv = .int .i64 ((k : Int) - 1)
  rv : rv = .int .u64 r
  kb : k ≤ n
  hr : Hid (r = vl (bs .u64) (cur0.drop k) % y)
  rb : r < y
  len : Hid (cur.length = n)
  ok : Okd (bs .u64) cur
  own : Mk wr g 107 .u64 cur
  val : Hid (vl (bs .u64) (cur.drop k) = vl (bs .u64) (cur0.drop k) / y)
  tk : Hid (cur.take k = cur0.take k)
  onl : Onl g w wr

set_option maxHeartbeats 1600000 in
set_option maxRecDepth 100000 in
theorem shrink_any (HD : Hid DivSaid) (g n ca y : Nat) (cur0 : List Nat) (w : World) (hM : Mk w g 107 .u64 cur0) (hok : Okd (bs .u64) cur0) (hl : Hid (cur0.length = n)) (hn : n ≤ 2000000) (hy : 1 ≤ y) (hyb : y ≤ 18446744073709551615) :
    Calls Tryd.prog 121 #[.slice (some ⟨g, 0, none⟩) n ca, .int .u64 (y : Int)] w fun e w' => ∃ (r : Nat) (cur : List Nat), e = .returned (.int .u64 (r : Int)) ∧ Hid (r = vl (bs .u64) cur0 % y) ∧ r < y ∧
      Mk w' g 107 .u64 cur ∧ Okd (bs .u64) cur ∧ Hid (cur.length = n) ∧ Hid (vl (bs .u64) cur = vl (bs .u64) cur0 / y) ∧ Onl g w w' := by
  go_enter Tryd.func121, Tryd.ntmps121
  go_wp2
  go_loopw [5, 6] (fun rv iv wr => ∃ k r cur, ShrRel w g n y cur0 rv iv wr k r cur) (fun _ iv _ => (intOf iv + 1).toNat)
  case atStart =>
    have e : cur0.drop n = [] := List.drop_eq_nil_of_le (by have := hl.out; omega)
    exact ⟨n, 0, cur0, rfl, rfl, Nat.le_refl _, show _ = _ by rw [e]; simp [vl], by omega, hl, hok, hM, show _ = _ by rw [e]; simp [vl], rfl, Onl.refl _ _⟩
  case round =>
    clear hM hok
    obtain ⟨k, r, cur, hi, rfl, hkb, hr, hry, hcl, hco, hown, hval, htk, hon⟩ := hrel
    rcases idx_cases hi with ⟨rfl, rfl⟩ | ⟨j, rfl, rfl⟩
    · clear hi
      go_wp2
      go_ret
      exact ⟨r, cur, rfl, hr, hry, hown, hco, hcl, hval, hon⟩
    · clear hi
      have hT := Lib.hid (take_set_getD (d := (r * bs .u64 + cur0.getD j 0) / y) htk.out (by rw [hcl.out]; omega) (by rw [hl.out]; omega))
      obtain ⟨x, hx⟩ : ∃ x, cur0.getD j 0 = x := ⟨_, rfl⟩
      have hcc := hown.cell (i := j) (by rw [hcl.out]; omega)
      rw [hT.out.1, hx] at hcc
      have hcf := hown.frozen j
      have hxb : x ≤ 18446744073709551615 := by rw [← hx, ← hT.out.1]; exact Nat.le_of_lt_succ (hco.getD (by decide) _)
      have HS := Lib.hid (shrink_step hcl.out hl.out (by omega) hx hy hr.out hval.out)
      have Hq := Lib.hid (div1_lt_b (b := bs .u64) (x := x) hry (Nat.lt_succ_of_le hxb))
      rw [hx] at hT
      have Hx := Lib.hid hx
      clear hx
      go_wp2_with fail
      refine (HD.out r x y wr hry hxb hyb).mono ?_
      rintro e w2 ⟨m, rfl, rfl⟩
      have hrm : (r * bs .u64 + x) % y < y := Nat.mod_lt _ hy
      generalize (r * bs .u64 + x) / y = qd at *
      generalize (r * bs .u64 + x) % y = r2 at *
      go_wp2
      go_roundw
      case rel =>
        exact ⟨j, r2, cur.set j qd, rfl, rfl, by omega, HS.out.2, hrm, show _ = _ by rw [List.length_set]; exact hcl.out, hco.set _ Hq.out, (hown.drewN m).set_ _ _, HS.out.1, hT.out.2, (hon.drewN m).set_ _ _⟩
      case measure => simp [intOf]
end Go.Proofs.YtjpdgnbdbpgnmaaDoor.Fr
