/- What restores a list from its emphasis; energies, changes of sign, peaks. -/
import Derived.Test.YtobobbhifajhmaaV1
import Derived.Test.YtobobbhifajhmaaL0
namespace Go.Proofs.Ytobobbhifajhmaa
open Go.RowKit

set_option maxHeartbeats 800000 in
theorem Restore_any (A : Option Addr) (n c : Nat) (xs : List Int) (num den : Int) (w : World) (h : Sl .i64 w A n c xs) :
    Calls Try.prog 35 #[.slice A n c, .int .i64 num, .int .i64 den] w (RetL2 .i64 w (emL true xs num den) (emC true xs num den)) := by
  rcases chkE_cases xs num den with ⟨hk, hn, hall, hd1, hd2, hn1, hn2⟩ | hk | hk
  · have hL := Lib.hid (show emL true xs num den = oL (tab xs.length (reAt num den xs)) by unfold emL; rw [if_pos hk]; rfl)
    have hC := Lib.hid (show emC true xs num den = oC (tab xs.length (reAt num den xs)) by unfold emC; rw [if_pos hk]; rfl)
    have hl := Lib.hid h.len
    rw [hl.out] at hn
    have hcap := h.cap
    have htop := h.top
    have hmk := make_int n (by omega)
    have hbd := Lib.hid (reAt_bd hn1 hn2 hd1 hall)
    have hall := Lib.hid hall
    go_enter Try.func35, Try.ntmps35
    go_wp2_with (go_at_call 76; refine (checkEmphasis_any _ _ _ _ _ _ _ h).mono ?_; rintro e w' ⟨rfl, rfl⟩)
    clear hk hmk
    go_loopw [10, 25] (fun bv iv wr => ∃ k : Nat, iv = .int .i64 k ∧ bv = .int .i64 (prev (reAt num den xs) k) ∧ k ≤ n ∧ Fill w wr w.heap.size 3 n k (reAt num den xs)) (fun _ iv _ => n - (intOf iv).toNat)
    case atStart => exact ⟨0, rfl, rfl, Nat.zero_le _, Fill.start (Below.refl _ _) rfl⟩
    case round =>
      obtain ⟨k, rfl, rfl, hkn, hF⟩ := hrel
      have hr := h.below hF.bel
      rcases Nat.lt_or_ge k n with hlt | hge
      · obtain ⟨ad, x, rfl, hcx, hx⟩ := hr.at_ hlt
        obtain ⟨y, hcy⟩ := hF.cell hlt
        have hcf := hF.frozen k
        have hv := Lib.hid (show x + rnd (num * prev (reAt num den xs) k) den = reAt num den xs k by rw [reAt_prev num den xs k, hx.out])
        have hpv := Lib.hid (show prev (reAt num den xs) (k + 1) = reAt num den xs k from rfl)
        have hxb := allB_get hall.out (by rw [hl.out]; exact hlt) hx.out
        have hx1 := hxb.1
        have hx2 := hxb.2
        have hpb : -430000000000000 ≤ prev (reAt num den xs) k ∧ prev (reAt num den xs) k ≤ 430000000000000 := by
          cases k with
          | zero => show _ ≤ (0 : Int) ∧ (0 : Int) ≤ _; omega
          | succ j =>
            have := hbd.out j (by rw [hl.out]; omega)
            show _ ≤ reAt num den xs j ∧ reAt num den xs j ≤ _
            omega
        generalize prev (reAt num den xs) k = p at *
        have hp1 := hpb.1
        have hp2 := hpb.2
        have hm := mul_bd hn1 (show num ≤ 1024 by omega) hp1 hp2 (by omega)
        have hm1 := hm.1
        have hm2 := hm.2
        have hq := rnd_part hn1 hn2 hd1 hp1 hp2
        have hq1 := hq.1
        have hq2 := hq.2
        clear hxb hpb hm hq
        go_wp2_with (go_at_call 77; refine (divide_any _ _ _ (by omega) (by omega) hd1 (by omega)).mono ?_; rintro e w' ⟨rfl, rfl⟩)
        go_roundw
        case rel => exact ⟨k + 1, by go_num, by rw [hpv.out, ← hv.out], hlt, hF.next hlt hv.out⟩
        case measure => simp [intOf]; omega
      · have hkn' : k = n := by omega
        subst hkn'
        have hD := hF.done (by omega)
        go_wp2_with (go_at_call 78; refine (onlyValues_any _ _ _ _ _ hD).mono ?_; rintro e w' ⟨A2, m2, c2, rfl, h2, hb2⟩)
        go_ret2
        exact ⟨A2, m2, c2, by rw [hC.out, hl.out]; rfl, by rw [hL.out, hl.out]; exact h2, hF.bel.trans (hb2.mono hF.bel.size)⟩
  all_goals
    have hL := Lib.hid (show emL true xs num den = [] by unfold emL; rw [hk]; rfl)
    have hC := Lib.hid (show emC true xs num den = chkE xs num den by unfold emC; rw [hk]; rfl)
    have hk' := Lib.hid hk
    go_enter Try.func35, Try.ntmps35
    go_wp2_with (go_at_call 76; refine (checkEmphasis_any _ _ _ _ _ _ _ h).mono ?_; rintro e w' ⟨rfl, rfl⟩)
    go_ret2
    exact ⟨none, 0, 0, by rw [hC.out, hk'.out]; rfl, by rw [hL.out]; exact Sl.nil _ _, Below.refl _ _⟩

theorem divideUp_any (a b : Int) (w : World) (ha : 0 ≤ a) (ha2 : a ≤ 4000000000000000000) (hb : 1 ≤ b) (hb2 : b ≤ 1000000000000000000) :
    Calls Try.prog 71 #[.int .i64 a, .int .i64 b] w fun e w' => e = .returned (.int .i64 ((a + b - 1) / b)) ∧ w = w' := by
  go_enter Try.func71, Try.ntmps71
  go_wp2
  go_ret
  exact ⟨rfl, rfl⟩

theorem sq_bd {x m : Int} (h1 : -m ≤ x) (h2 : x ≤ m) : 0 ≤ x * x ∧ x * x ≤ m * m := by
  by_cases h : 0 ≤ x
  · exact ⟨Int.mul_nonneg h h, Int.mul_le_mul h2 h2 h (by omega)⟩
  · have e : x * x = -x * -x := by rw [Int.neg_mul_neg]
    rw [e]
    exact ⟨Int.mul_nonneg (by omega) (by omega), Int.mul_le_mul (by omega) (by omega) (by omega) (by omega)⟩
theorem eng_bd {m : Int} : ∀ xs : List Int, (∀ x ∈ xs, -m ≤ x ∧ x ≤ m) → 0 ≤ eng xs ∧ eng xs ≤ xs.length * (m * m) := by
  intro xs
  induction xs with
  | nil => intro _; simp [eng]
  | cons x xs ih =>
    intro h
    have h1 := ih (fun y hy => h y (List.mem_cons_of_mem _ hy))
    have h2 := sq_bd (h x (List.mem_cons_self)).1 (h x (List.mem_cons_self)).2
    have e : eng (x :: xs) = x * x + eng xs := by simp [eng]
    rw [e, List.length_cons, Int.natCast_succ, Int.add_mul]
    omega

set_option maxHeartbeats 400000 in
theorem energy_any (A : Option Addr) (n c : Nat) (xs : List Int) (w : World) (h : Sl .i64 w A n c xs) (hn : n ≤ 250000) (hx : ∀ x ∈ xs, -70000 ≤ x ∧ x ≤ 70000) :
    Calls Try.prog 86 #[.slice A n c] w fun e w' => e = .returned (.int .i64 (eng xs)) ∧ w = w' := by
  have hl := Lib.hid h.len
  have hcap := h.cap
  have htop := h.top
  have hx := Lib.hid hx
  go_enter Try.func86, Try.ntmps86
  go_wp2
  go_loop [3, 8] (fun sv iv => ∃ k : Nat, k ≤ n ∧ iv = .int .i64 k ∧ sv = .int .i64 (eng (xs.take k))) (fun _ iv => n - (intOf iv).toNat)
  case atStart => exact ⟨0, Nat.zero_le _, rfl, rfl⟩
  case round =>
    obtain ⟨k, hk, rfl, rfl⟩ := hrel
    rcases Nat.lt_or_ge k n with hlt | hge
    · obtain ⟨ad, x, rfl, hc, hxk⟩ := h.at_ hlt
      have hmem := hx.out x (by have := hxk.out; rw [getD_in (by rw [hl.out]; exact hlt)] at this; rw [← this]; exact List.getElem_mem _)
      have hs := sq_bd (m := 70000) hmem.1 hmem.2
      have hs1 := hs.1
      have hs2 := hs.2
      have he := eng_bd (m := 70000) (xs.take k) (fun y hy => hx.out y (List.mem_of_mem_take hy))
      have hlk : (xs.take k).length ≤ 250000 := by rw [List.length_take]; omega
      have he1 := he.1
      have he2 : eng (xs.take k) ≤ 1225000000000000 := by have := he.2; omega
      have hn2 := Lib.hid (show eng (xs.take (k + 1)) = eng (xs.take k) + x * x by rw [take_snocD (by rw [hl.out]; exact hlt) hxk.out, eng_snoc])
      clear hmem hs he
      generalize eng (xs.take k) = E at *
      go_wp2
      go_round
      case rel => exact ⟨k + 1, by omega, by go_num, by rw [hn2.out]⟩
      case measure => simp [intOf]; omega
    · have hkn : k = n := by omega
      subst hkn
      go_wp2
      go_ret
      exact ⟨ret_int (by rw [List.take_of_length_le (by rw [hl.out]; exact Nat.le_refl _)]), rfl⟩
end Go.Proofs.Ytobobbhifajhmaa
