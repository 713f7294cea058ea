/- The document's own energy and gate. -/
import Derived.Test.YtobobbhifajhmaaK2
import Derived.Test.YtobobbhifajhmaaL9
namespace Go.Proofs.Ytobobbhifajhmaa
open Go.RowKit

set_option maxHeartbeats 800000 in
theorem REnergy_any (A : Option Addr) (n c : Nat) (xs : List Int) (w : World) (h : Sl .i64 w A n c xs) (hn : n ≤ 250000) (hx : ∀ x ∈ xs, -70000 ≤ x ∧ x ≤ 70000) :
    Calls Try.prog 50 #[.slice A n c] w fun e w' => ∃ k, e = .returned (.int .i64 (eng xs)) ∧ w' = w.drewN k := by
  have hl := Lib.hid h.len
  have hcap := h.cap
  have htop := h.top
  have hx := Lib.hid hx
  go_enter Try.func50, Try.ntmps50
  go_wp2
  go_loopw [3, 4] (fun sv iv wr => ∃ k r : Nat, k ≤ n ∧ iv = .int .i64 k ∧ sv = .int .i64 (eng (xs.take k)) ∧ wr = w.drewN r) (fun _ iv _ => n - (intOf iv).toNat)
  case atStart => exact ⟨0, 0, Nat.zero_le _, rfl, rfl, rfl⟩
  case round =>
    obtain ⟨k, r, hk, rfl, rfl, rfl⟩ := hrel
    have hr := h.drewN r
    rcases Nat.lt_or_ge k n with hlt | hge
    · obtain ⟨ad, x, rfl, hc, hxk⟩ := hr.at_ hlt
      have hmem := hx.out x (by have := hxk.out; rw [getD_in (by rw [hl.out]; exact hlt)] at this; rw [← this]; exact List.getElem_mem _)
      have hs := sq_bd (m := 70000) hmem.1 hmem.2
      have hs1 := hs.1
      have hs2 := hs.2
      have he := eng_bd (m := 70000) (xs.take k) (fun y hy => hx.out y (List.mem_of_mem_take hy))
      have hlk : (xs.take k).length ≤ 250000 := by rw [List.length_take]; omega
      have he1 := he.1
      have he2 : eng (xs.take k) ≤ 1225000000000000 := by have := he.2; omega
      have hn2 := Lib.hid (show eng (xs.take (k + 1)) = eng (xs.take k) + x * x by rw [take_snocD (by rw [hl.out]; exact hlt) hxk.out, eng_snoc])
      clear hmem hs he
      generalize eng (xs.take k) = E at *
      generalize hw1 : w.drewN r = w1 at *
      have hw1' := Lib.hid hw1
      clear hw1
      have i1 : (k : Int) < (n : Int) := by omega
      have e1 : IntKind.i64.wrap (x * x) = x * x := IntWalk.i64_in _ (by omega)
      have e2 : IntKind.i64.wrap (E + x * x) = E + x * x := IntWalk.i64_in _ (by omega)
      go_wp2
      go_quiet (fail)
      clear e1 e2
      go_wp2
      go_roundw
      case rel => exact ⟨k + 1, r + nq, by omega, by go_num, by rw [hn2.out], by rw [← hw1'.out]; exact dr_add w r nq⟩
      case measure => simp [intOf]; omega
    · have hkn : k = n := by omega
      subst hkn
      go_wp2
      go_ret
      exact ⟨r, ret_int (by rw [List.take_of_length_le (by rw [hl.out]; exact Nat.le_refl _)]), rfl⟩

end Go.Proofs.Ytobobbhifajhmaa
