/- Bytes: which are well formed. -/
import Derived.Test.YtobobbhifajhmaaB7
namespace Go.Proofs.Ytobobbhifajhmaa
open Go.RowKit

theorem ba_of_list {s : ByteArray} {l : List UInt8} (h : s.toList = l) : s = ⟨l.toArray⟩ := by
  rw [ByteArray.toList_eq] at h
  cases s with | mk d =>
  have : d = l.toArray := by rw [← h]
  rw [this]
theorem byB_take {bs : List Int} (h : byB bs) (k : Nat) : byB (bs.take k) := fun b hb => h b (List.mem_of_mem_take hb)
theorem byB_drop {bs : List Int} (h : byB bs) (k : Nat) : byB (bs.drop k) := fun b hb => h b (List.mem_of_mem_drop hb)
def mk4 : List Int := [69, 65, 82, 49]
theorem str_mk4 : strOfNums mk4 = ⟨#[69, 65, 82, 49]⟩ := by decide
/-- the mark, the number of samples, the sum -/
def wfB (bs : List Int) : Bool := decide (16 ≤ bs.length) && (decide (bs.take 4 = mk4) && (decide ((bs.length : Int) - 16 = 2 * rd (bs.drop 8) 4) && decide (rd (bs.drop (bs.length - 4)) 4 = ck (bs.take (bs.length - 4)))))

theorem read_at (A : Option Addr) (n c : Nat) (bs : List Int) (size : Nat) (sz : Int) (hsz : sz = (size : Int)) (w : World) (h : Sl .u8 w A n c bs) (hb : byB bs) (hs : size ≤ n) (hs7 : size ≤ 7) :
    Calls Try.prog 68 #[.slice A n c, .int .i64 sz] w fun e w' => e = .returned (.int .i64 (rd bs size)) ∧ w = w' := by
  subst hsz
  exact read_any A n c bs size w h hb hs hs7

set_option maxHeartbeats 1600000 in
set_option maxRecDepth 100000 in
theorem wf_any (A : Option Addr) (n c : Nat) (bs : List Int) (w : World) (h : Sl .u8 w A n c bs) (hb : byB bs) (hn : n ≤ 500000) :
    Calls Try.prog 67 #[.slice A n c] w fun e w' => ∃ k, e = .returned (.bool (wfB bs)) ∧ w' = w.drewN k := by
  have hl := Lib.hid h.len
  have hcap := h.cap
  have htop := h.top
  rcases Nat.lt_or_ge n 16 with h16 | h16
  · have hv := Lib.hid (show wfB bs = false by unfold wfB; rw [decide_eq_false (show ¬ 16 ≤ bs.length by rw [hl.out]; omega)]; rfl)
    go_enter Try.func67, Try.ntmps67
    go_wp2
    go_ret
    first | exact ⟨0, ret_bool hv.out.symm, rfl⟩ | exact ⟨ret_bool hv.out.symm, 0, rfl⟩
  · obtain ⟨m, rfl⟩ : ∃ m, n = m + 4 := ⟨n - 4, by omega⟩
    obtain ⟨ad, x, rfl, _, _⟩ := h.at_ (show 0 < m + 4 by omega)
    have hn4 : ((m + 4 : Nat) : Int) - 4 = (m : Int) := by omega
    have hb := Lib.hid hb
    have hd16 := Lib.hid (decide_eq_true (show 16 ≤ bs.length by rw [hl.out]; omega))
    have d0 : decide (((m + 4 : Nat) : Int) < 16) = false := decide_eq_false (by omega)
    have hcv := conv_sl (h.take (m := 4) (by omega))
    obtain ⟨s4, hs4⟩ : ∃ s4, strOfNums (bs.take 4) = s4 := ⟨_, rfl⟩
    rw [hs4] at hcv
    have c4 : (4 : Int) ≤ (c : Int) := by omega
    by_cases hm : bs.take 4 = mk4
    case' neg =>
      have hne : (s4.toList == [69, 65, 82, 49]) = false := by
        rw [beq_eq_false_iff_ne]
        intro e
        refine hm (str_inj (byB_take hb.out 4) ?_ (by rw [hs4, ba_of_list e, str_mk4]))
        intro b hb
        simp [mk4] at hb
        omega
      have hv := Lib.hid (show wfB bs = false by unfold wfB; rw [decide_eq_false hm, Bool.false_and, Bool.and_false])
      clear hs4 hm
      go_enter Try.func67, Try.ntmps67
      go_wp2
      go_ret
      first | exact ⟨0, ret_bool hv.out.symm, rfl⟩ | exact ⟨ret_bool hv.out.symm, 0, rfl⟩
    case' pos =>
      have e4 : s4 = ⟨#[69, 65, 82, 49]⟩ := by rw [← hs4, hm, str_mk4]
      subst e4
      have hm' := Lib.hid hm
      clear hs4 hm
      have hc8 : ¬ c = 8 := by omega
      have hC8 := h.cut (m := 8) (by omega)
      rw [if_neg hc8, Option.map_some] at hC8
      unfold Addr.add at hC8
      rw [if_neg (by decide)] at hC8
      go_enter Try.func67, Try.ntmps67
      go_wp2_with fail
      refine (read_at _ _ _ _ 4 4 rfl _ hC8 (byB_drop hb.out 8) (by omega) (by omega)).mono ?_
      rintro e w' ⟨rfl, rfl⟩
      have hr8 := rd_bd (byB_drop hb.out 8) 4 (by rw [List.length_drop, hl.out]; omega)
      have hr81 := hr8.1
      have hr82 : rd (bs.drop 8) 4 < 4294967296 := hr8.2
      obtain ⟨cnt, hcnt⟩ : ∃ cnt, rd (bs.drop 8) 4 = cnt := ⟨_, rfl⟩
      rw [hcnt] at hr81 hr82 ⊢
      have hcnt' := Lib.hid hcnt
      clear hr8 hcnt
      by_cases he : ((m + 4 : Nat) : Int) - 16 = 2 * cnt
      case' neg =>
        have hv := Lib.hid (show wfB bs = false by unfold wfB; rw [hcnt'.out, hl.out, decide_eq_false he, Bool.false_and, Bool.and_false, Bool.and_false])
        have he2 : ((m : Int) - 12 == cnt * 2) = false := by rw [beq_eq_false_iff_ne]; omega
        have hbd : ∀ w : World, Below w.heap.size w w.drew := fun w => bel_drewN (Below.refl _ _) 1
        go_wp2_with fail
        go_quiet (fail)
        go_wp2
        go_ret
        first | exact ⟨_, ret_bool hv.out.symm, rfl⟩ | exact ⟨ret_bool hv.out.symm, _, rfl⟩
      case' pos =>
        obtain ⟨E, hE⟩ : ∃ E : Int, (m : Int) - 12 = E := ⟨_, rfl⟩
        have hF : cnt * 2 = E := by omega
        have hE2 : IntKind.i64.wrap ((m : Int) - 12) = E := by rw [hE]; exact IntWalk.i64_in _ (by omega)
        have hF2 : IntKind.i64.wrap (cnt * 2) = E := by rw [hF]; exact IntWalk.i64_in _ (by omega)
        have hcm : ¬ c = m := by omega
        have hCe := h.cut (m := m) (by omega)
        rw [if_neg hcm, Option.map_some] at hCe
        rw [show m + 4 - m = 4 by omega] at hCe
        have hTe := h.take (m := m) (by omega)
        obtain ⟨rv, hrv⟩ : ∃ rv, rd (bs.drop m) 4 = rv := ⟨_, rfl⟩
        obtain ⟨cv, hcv2⟩ : ∃ cv, ck (bs.take m) = cv := ⟨_, rfl⟩
        have hv := Lib.hid (show wfB bs = (rv == cv) by
          unfold wfB
          rw [hcnt'.out, hl.out, decide_eq_true he, hm'.out, decide_eq_true rfl, show m + 4 - 4 = m by omega, hrv, hcv2, decide_eq_true (show 16 ≤ m + 4 by omega)]
          rfl)
        have hcb := ck_bd (bs.take m)
        rw [hcv2] at hcb
        have hcb1 := hcb.1
        have hcb2 := hcb.2
        have hR := Lib.hid (fun (w9 : World) (h9 : Sl .u8 w9 (some (ad.add m)) 4 (c - m) (bs.drop m)) => read_at _ _ _ _ 4 4 rfl w9 h9 (byB_drop hb.out m) (by omega) (by omega))
        have hK := Lib.hid (fun (w9 : World) (h9 : Sl .u8 w9 (some ad) m c (bs.take m)) => sumOf_any _ _ _ _ w9 h9 (byB_take hb.out m))
        rw [hrv] at hR
        rw [hcv2] at hK
        clear hcb hrv hcv2
        go_wp2_with fail
        have hcw : IntKind.i64.wrap cv = cv := IntWalk.i64_in _ (by omega)
        have s0 : (0 : Int) ≤ (m : Int) := by omega
        have s1 : (m : Int) ≤ (m : Int) + 4 := by omega
        have s2 : (m : Int) ≤ (c : Int) := by omega
        have s3 : (m : Int) + 4 ≤ (c : Int) := by omega
        have s4 : m ≤ c := by omega
        have hm0 : ¬ m = 0 := by omega
        have hCed := hCe.drew
        have hTed := hTe.drew
        go_region_held3 (fun _ => True) (first | exact trivial | go_keep)
          (first
            | (go_at_call 68; refine (hR.out _ hCed).mono ?_; rintro e w' ⟨rfl, rfl⟩)
            | (go_at_call 64; refine (hK.out _ hTed).mono ?_; rintro e w' ⟨rfl, rfl⟩))
        all_goals
          go_wp2
          go_ret
          first | exact ⟨1, ret_bool hv.out.symm, rfl⟩ | exact ⟨ret_bool hv.out.symm, 1, rfl⟩ | (refine ⟨1, ?_, rfl⟩; rw [hv.out]; rfl) | (refine ⟨?_, 1, rfl⟩; rw [hv.out]; rfl)
end Go.Proofs.Ytobobbhifajhmaa
