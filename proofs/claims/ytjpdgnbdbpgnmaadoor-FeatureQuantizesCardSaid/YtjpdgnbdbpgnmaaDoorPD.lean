import Derived.Test.YtjpdgnbdbpgnmaaDoorPC
namespace Go.Proofs.YtjpdgnbdbpgnmaaDoor.Fr
open Go.RowKit Num

set_option maxHeartbeats 1600000 in
theorem modulo_any (HD : Hid DivSaid) (A : Option Addr) (n c y : Nat) (xs : List Nat) (w : World) (h : Dg .u64 w A n c xs) (hn : n ≤ 2000000) (hy : 1 ≤ y) (hyb : y ≤ 18446744073709551615) :
    Calls Tryd.prog 120 #[.slice A n c, .int .u64 (y : Int)] w fun e w' => ∃ (r m : Nat), e = .returned (.int .u64 (r : Int)) ∧ Hid (r = vl (bs .u64) xs % y) ∧ r < y ∧ w' = w.drewN m := by
  have hl := Lib.hid h.len
  have hcap := h.cap
  have htop := h.top
  go_enter Tryd.func120, Tryd.ntmps120
  go_wp2
  go_loopw [5, 6] (fun rv iv wr => ∃ k r m : Nat, iv = .int .i64 ((k : Int) - 1) ∧ rv = .int .u64 r ∧ k ≤ n ∧ Hid (r = vl (bs .u64) (xs.drop k) % y) ∧ r < y ∧ wr = w.drewN m) (fun _ iv _ => (intOf iv + 1).toNat)
  case atStart =>
    have e : xs.drop n = [] := List.drop_eq_nil_of_le (by have := hl.out; omega)
    exact ⟨n, 0, 0, rfl, rfl, Nat.le_refl _, show _ = _ by rw [e]; simp [vl], by omega, rfl⟩
  case round =>
    obtain ⟨k, r, m, hi, rfl, hkb, hr, hry, rfl⟩ := hrel
    rcases idx_cases hi with ⟨rfl, rfl⟩ | ⟨j, rfl, rfl⟩
    · clear hi
      go_wp2
      go_ret
      exact ⟨r, m, rfl, hr, hry, rfl⟩
    · clear hi
      obtain ⟨ad, x, rfl, hcx, hx⟩ := h.at_ (j := j) (by omega)
      have hcx' : (w.drewN m).cell? (ad.add j) = some (.int .u64 x) := hcx
      have hxb : x ≤ 18446744073709551615 := Nat.le_of_lt_succ hx.out.2
      have HS := Lib.hid (show (r * bs .u64 + x) % y = vl (bs .u64) (xs.drop j) % y by
        rw [vl_drop_pred (b := bs .u64) (by rw [hl.out]; omega : j < xs.length) hx.out.1]
        exact (div1_step_b (b := bs .u64) (x := x) hy hr.out).2.symm)
      go_wp2_with fail
      refine (HD.out r x y _ hry hxb hyb).mono ?_
      rintro e w2 ⟨m2, rfl, rfl⟩
      have hrm : (r * bs .u64 + x) % y < y := Nat.mod_lt _ hy
      generalize (r * bs .u64 + x) / y = qd at *
      generalize (r * bs .u64 + x) % y = r2 at *
      go_wp2
      go_roundw
      case rel => exact ⟨j, r2, _, rfl, rfl, by omega, HS.out, hrm, rfl⟩
      case measure => simp [intOf]

/-- slices.Clone: new memory with the same digits -/
theorem clone_any (A : Option Addr) (n c : Nat) (xs : List Nat) (w : World) (h : Dg .u64 w A n c xs) (hn : n ≤ 2000000) (hp : 0 < n) :
    Calls Tryd.prog 119 #[.slice A n c] w fun e w' => ∃ g ca, e = .returned (.slice (some ⟨g, 0, none⟩) n ca) ∧ Mk w' g 107 .u64 xs ∧ n ≤ ca ∧ ca ≤ 9223372036854775807 ∧ w.heap.size ≤ g ∧ Below w.heap.size w w' := by
  obtain ⟨ad, rfl, _⟩ := h.cell hp
  obtain ⟨i0, hi, hz0, hz1, hz2⟩ := info_parts info_u64
  have hnil := fun w => Lib.run_eql_slice_nil (P := Tryd.prog) w 87 107 (some ad) n c 0 0 Tryd.underlying87
  go_enter Tryd.func119, Tryd.ntmps119
  have h1 := h.alloc (.cells #[] 107)
  have hnews := Lib.hid (h1.news hp)
  have hl1 := Lib.hid h.len
  go_wp2_with (at_builtin; refine wpList_append_own _ rfl _ _ 87 rfl w.heap.size 107 i0 (.int .u64 0) 1 8 Tryd.underlying87 hi hz0 hz1 hz2 rfl (by decide) _ 0 [] rfl (World.ownsRow_lit w #[] 0 (Nat.le_refl _) (by decide) rfl) ad n c (dcs .u64 xs) rfl ?c1 hnews.out (oneCell_dcs _ _) ?c3 ?c4 ?c5 ?_)
  case c1 => rw [dcs_len, hl1.out]; simp
  case c3 => unfold maxLen; omega
  case c4 => omega
  case c5 => simp
  intro v1 w1 hown hg _
  have hb := ((Below.refl w.heap.size w).alloc (Nat.le_refl _) (.cells #[] 107)).grown hg (by simp) (fun k hk => by simp [Value.ownBlock] at hk; omega)
  obtain ⟨_, h2⟩ := hown
  have h3 : ∃ g ca, v1 = .slice (some ⟨g, 0, none⟩) n ca ∧ Mk w1 g 107 .u64 xs ∧ n ≤ ca ∧ ca ≤ 9223372036854775807 ∧ w.heap.size ≤ g := by
    rcases h2 with ⟨_, h0⟩ | ⟨g, cap, cur, rfl, h3, h4, h5, h6, h7, h8⟩
    · omega
    · exact ⟨g, cap, by simp, ⟨cur, h4, by rw [hl1.out]; simpa using h8⟩, by omega, h6, h3⟩
  obtain ⟨g, ca, rfl, hM, ha, hc2, hge⟩ := h3
  go_wp2
  go_ret
  exact ⟨g, ca, rfl, hM, ha, hc2, hge, hb⟩
end Go.Proofs.YtjpdgnbdbpgnmaaDoor.Fr
