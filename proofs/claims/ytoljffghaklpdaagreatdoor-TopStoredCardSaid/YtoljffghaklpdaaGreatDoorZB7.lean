/- Bytes: which are those of a recording. -/
import Derived.Test.YtoljffghaklpdaaGreatDoorHM
import Derived.Test.YtoljffghaklpdaaGreatDoorJA
import Derived.Test.YtoljffghaklpdaaGreatDoorZB2
import Derived.Test.YtoljffghaklpdaaGreatDoorZC0
import Derived.Test.YtoljffghaklpdaaGreatDoorZP6
import Derived.Test.YtoljffghaklpdaaGreatDoorZK0
import Derived.Test.YtoljffghaklpdaaGreatDoorZE0
import Derived.IntWalk
import Derived.Deep.RegionHeld3
import Derived.Deep.AppendLies
import Derived.Deep.RegionLaw
namespace Go.Proofs.YtoljffghaklpdaaGreatDoor
open Go.RowKit

theorem conv_sl {w : World} {ad : Addr} {n c : Nat} {bs : List Int} (h : Sl .u8 w (some ad) n c bs) : (convert 67 9 (.slice (some ad) n c)).run Tryz.prog w = .ok (.string (strOfNums bs)) w := by
  have hl : (loadCells ad n).run Tryz.prog w = .ok (bs.map (Value.int .u8)).toArray w := by
    have := run_loadCells_list (P := Tryz.prog) w ad (bs.map (Value.int .u8)) (fun j v hj => by
      have hn : 0 < n := by
        have hj2 := lt_of_some hj
        rw [List.length_map, h.len] at hj2
        omega
      obtain ⟨ad', e, hc⟩ := h.cell hn
      injection e with e
      subst e
      simp only [List.getElem?_map, Option.map_eq_some_iff] at hj
      obtain ⟨x, hx, rfl⟩ := hj
      exact hc j x hx)
    simpa [h.len] using this
  rw [run_convert_bytes_string w 67 9 5 _ n c Tryz.underlying67 Tryz.underlying5 Tryz.underlying9, run_bytesToString w _ n c bs hl, foldl_push_bytes]
  simp [strOfNums, ByteArray.empty, ByteArray.emptyWithCapacity]
  rfl
theorem u8_inj {x y : Int} (hx : 0 ≤ x ∧ x ≤ 255) (hy : 0 ≤ y ∧ y ≤ 255) (h : UInt8.ofNat x.toNat = UInt8.ofNat y.toNat) : x = y := by
  have h2 := congrArg UInt8.toNat h
  simp only [UInt8.toNat_ofNat'] at h2
  omega
theorem str_inj {xs ys : List Int} (hx : byB xs) (hy : byB ys) (h : strOfNums xs = strOfNums ys) : xs = ys := by
  unfold strOfNums at h
  have h2 := congrArg (fun b : ByteArray => b.data.toList) h
  simp at h2
  induction xs generalizing ys with
  | nil => cases ys with
    | nil => rfl
    | cons y ys => simp at h2
  | cons x xs ih => cases ys with
    | nil => simp at h2
    | cons y ys =>
      simp at h2
      have e := u8_inj (hx x (List.mem_cons.2 (.inl rfl))) (hy y (List.mem_cons.2 (.inl rfl))) h2.1
      rw [e, ih (ys := ys) (fun b hb => hx b (List.mem_cons.2 (.inr hb))) (fun b hb => hy b (List.mem_cons.2 (.inr hb))) (by rw [h2.2]) (by simpa using h2.2)]
end Go.Proofs.YtoljffghaklpdaaGreatDoor


/- Bytes: which are well formed. -/
namespace Go.Proofs.YtoljffghaklpdaaGreatDoor
open Go.RowKit

theorem ba_of_list {s : ByteArray} {l : List UInt8} (h : s.toList = l) : s = ⟨l.toArray⟩ := by
  rw [ByteArray.toList_eq] at h
  cases s with | mk d =>
  have : d = l.toArray := by rw [← h]
  rw [this]
theorem byB_take {bs : List Int} (h : byB bs) (k : Nat) : byB (bs.take k) := fun b hb => h b (List.mem_of_mem_take hb)
theorem byB_drop {bs : List Int} (h : byB bs) (k : Nat) : byB (bs.drop k) := fun b hb => h b (List.mem_of_mem_drop hb)
def mk4 : List Int := [69, 65, 82, 49]
theorem str_mk4 : strOfNums mk4 = ⟨#[69, 65, 82, 49]⟩ := by decide
/-- the mark, the number of samples, the sum -/
def wfB (bs : List Int) : Bool := decide (16 ≤ bs.length) && (decide (bs.take 4 = mk4) && (decide ((bs.length : Int) - 16 = 2 * rd (bs.drop 8) 4) && decide (rd (bs.drop (bs.length - 4)) 4 = ck (bs.take (bs.length - 4)))))

theorem read_at (A : Option Addr) (n c : Nat) (bs : List Int) (size : Nat) (sz : Int) (hsz : sz = (size : Int)) (w : World) (h : Sl .u8 w A n c bs) (hb : byB bs) (hs : size ≤ n) (hs7 : size ≤ 7) :
    Calls Tryz.prog 91 #[.slice A n c, .int .i64 sz] w fun e w' => e = .returned (.int .i64 (rd bs size)) ∧ w = w' := by
  subst hsz
  exact read_any A n c bs size w h hb hs hs7

set_option maxHeartbeats 1600000 in
set_option maxRecDepth 100000 in
theorem wf_any (A : Option Addr) (n c : Nat) (bs : List Int) (w : World) (h : Sl .u8 w A n c bs) (hb : byB bs) (hn : n ≤ 500000) :
    Calls Tryz.prog 90 #[.slice A n c] w fun e w' => ∃ k, e = .returned (.bool (wfB bs)) ∧ w' = w.drewN k := by
  have hl := Lib.hid h.len
  have hcap := h.cap
  have htop := h.top
  rcases Nat.lt_or_ge n 16 with h16 | h16
  · have hv := Lib.hid (show wfB bs = false by unfold wfB; rw [decide_eq_false (show ¬ 16 ≤ bs.length by rw [hl.out]; omega)]; rfl)
    go_enter Tryz.func90, Tryz.ntmps90
    go_wp2
    go_ret
    first | exact ⟨0, ret_bool hv.out.symm, rfl⟩ | exact ⟨ret_bool hv.out.symm, 0, rfl⟩
  · obtain ⟨m, rfl⟩ : ∃ m, n = m + 4 := ⟨n - 4, by omega⟩
    obtain ⟨ad, x, rfl, _, _⟩ := h.at_ (show 0 < m + 4 by omega)
    have hn4 : ((m + 4 : Nat) : Int) - 4 = (m : Int) := by omega
    have hb := Lib.hid hb
    have hd16 := Lib.hid (decide_eq_true (show 16 ≤ bs.length by rw [hl.out]; omega))
    have d0 : decide (((m + 4 : Nat) : Int) < 16) = false := decide_eq_false (by omega)
    have hcv := conv_sl (h.take (m := 4) (by omega))
    obtain ⟨s4, hs4⟩ : ∃ s4, strOfNums (bs.take 4) = s4 := ⟨_, rfl⟩
    rw [hs4] at hcv
    have c4 : (4 : Int) ≤ (c : Int) := by omega
    by_cases hm : bs.take 4 = mk4
    case' neg =>
      have hne : (s4.toList == [69, 65, 82, 49]) = false := by
        rw [beq_eq_false_iff_ne]
        intro e
        refine hm (str_inj (byB_take hb.out 4) ?_ (by rw [hs4, ba_of_list e, str_mk4]))
        intro b hb
        simp [mk4] at hb
        omega
      have hv := Lib.hid (show wfB bs = false by unfold wfB; rw [decide_eq_false hm, Bool.false_and, Bool.and_false])
      clear hs4 hm
      go_enter Tryz.func90, Tryz.ntmps90
      go_wp2
      go_ret
      first | exact ⟨0, ret_bool hv.out.symm, rfl⟩ | exact ⟨ret_bool hv.out.symm, 0, rfl⟩
    case' pos =>
      have e4 : s4 = ⟨#[69, 65, 82, 49]⟩ := by rw [← hs4, hm, str_mk4]
      subst e4
      have hm' := Lib.hid hm
      clear hs4 hm
      have hc8 : ¬ c = 8 := by omega
      have hC8 := h.cut (m := 8) (by omega)
      rw [if_neg hc8, Option.map_some] at hC8
      unfold Addr.add at hC8
      rw [if_neg (by decide)] at hC8
      go_enter Tryz.func90, Tryz.ntmps90
      go_wp2_with fail
      refine (read_at _ _ _ _ 4 4 rfl _ hC8 (byB_drop hb.out 8) (by omega) (by omega)).mono ?_
      rintro e w' ⟨rfl, rfl⟩
      have hr8 := rd_bd (byB_drop hb.out 8) 4 (by rw [List.length_drop, hl.out]; omega)
      have hr81 := hr8.1
      have hr82 : rd (bs.drop 8) 4 < 4294967296 := hr8.2
      obtain ⟨cnt, hcnt⟩ : ∃ cnt, rd (bs.drop 8) 4 = cnt := ⟨_, rfl⟩
      rw [hcnt] at hr81 hr82 ⊢
      have hcnt' := Lib.hid hcnt
      clear hr8 hcnt
      by_cases he : ((m + 4 : Nat) : Int) - 16 = 2 * cnt
      case' neg =>
        have hv := Lib.hid (show wfB bs = false by unfold wfB; rw [hcnt'.out, hl.out, decide_eq_false he, Bool.false_and, Bool.and_false, Bool.and_false])
        have he2 : ((m : Int) - 12 == cnt * 2) = false := by rw [beq_eq_false_iff_ne]; omega
        have hbd : ∀ w : World, Below w.heap.size w w.drew := fun w => bel_drewN (Below.refl _ _) 1
        go_wp2_with fail
        go_quiet (fail)
        go_wp2
        go_ret
        first | exact ⟨_, ret_bool hv.out.symm, rfl⟩ | exact ⟨ret_bool hv.out.symm, _, rfl⟩
      case' pos =>
        obtain ⟨E, hE⟩ : ∃ E : Int, (m : Int) - 12 = E := ⟨_, rfl⟩
        have hF : cnt * 2 = E := by omega
        have hE2 : IntKind.i64.wrap ((m : Int) - 12) = E := by rw [hE]; exact IntWalk.i64_in _ (by omega)
        have hF2 : IntKind.i64.wrap (cnt * 2) = E := by rw [hF]; exact IntWalk.i64_in _ (by omega)
        have hcm : ¬ c = m := by omega
        have hCe := h.cut (m := m) (by omega)
        rw [if_neg hcm, Option.map_some] at hCe
        rw [show m + 4 - m = 4 by omega] at hCe
        have hTe := h.take (m := m) (by omega)
        obtain ⟨rv, hrv⟩ : ∃ rv, rd (bs.drop m) 4 = rv := ⟨_, rfl⟩
        obtain ⟨cv, hcv2⟩ : ∃ cv, ck (bs.take m) = cv := ⟨_, rfl⟩
        have hv := Lib.hid (show wfB bs = (rv == cv) by
          unfold wfB
          rw [hcnt'.out, hl.out, decide_eq_true he, hm'.out, decide_eq_true rfl, show m + 4 - 4 = m by omega, hrv, hcv2, decide_eq_true (show 16 ≤ m + 4 by omega)]
          rfl)
        have hcb := ck_bd (bs.take m)
        rw [hcv2] at hcb
        have hcb1 := hcb.1
        have hcb2 := hcb.2
        have hR := Lib.hid (fun (w9 : World) (h9 : Sl .u8 w9 (some (ad.add m)) 4 (c - m) (bs.drop m)) => read_at _ _ _ _ 4 4 rfl w9 h9 (byB_drop hb.out m) (by omega) (by omega))
        have hK := Lib.hid (fun (w9 : World) (h9 : Sl .u8 w9 (some ad) m c (bs.take m)) => sumOf_any _ _ _ _ w9 h9 (byB_take hb.out m))
        rw [hrv] at hR
        rw [hcv2] at hK
        clear hcb hrv hcv2
        go_wp2_with fail
        have hcw : IntKind.i64.wrap cv = cv := IntWalk.i64_in _ (by omega)
        have s0 : (0 : Int) ≤ (m : Int) := by omega
        have s1 : (m : Int) ≤ (m : Int) + 4 := by omega
        have s2 : (m : Int) ≤ (c : Int) := by omega
        have s3 : (m : Int) + 4 ≤ (c : Int) := by omega
        have s4 : m ≤ c := by omega
        have hm0 : ¬ m = 0 := by omega
        have hCed := hCe.drew
        have hTed := hTe.drew
        go_region_held3 (fun _ => True) (first | exact trivial | go_keep)
          (first
            | (go_at_call 91; refine (hR.out _ hCed).mono ?_; rintro e w' ⟨rfl, rfl⟩)
            | (go_at_call 89; refine (hK.out _ hTed).mono ?_; rintro e w' ⟨rfl, rfl⟩))
        all_goals
          go_wp2
          go_ret
          first | exact ⟨1, ret_bool hv.out.symm, rfl⟩ | exact ⟨ret_bool hv.out.symm, 1, rfl⟩ | (refine ⟨1, ?_, rfl⟩; rw [hv.out]; rfl) | (refine ⟨?_, 1, rfl⟩; rw [hv.out]; rfl)
end Go.Proofs.YtoljffghaklpdaaGreatDoor


/- The document's own smoothing. -/
namespace Go.Proofs.YtoljffghaklpdaaGreatDoor
open Go.RowKit

end Go.Proofs.YtoljffghaklpdaaGreatDoor


/- Samples at another rate stay between the least and the greatest one; nothing changes at the same rate. -/
namespace Go.Proofs.YtoljffghaklpdaaGreatDoor

theorem rnd_ge {a b lo : Int} (hb : 1 ≤ b) (h : lo * b ≤ a) : lo ≤ rnd a b := by
  have h2 : lo * (2 * b) = 2 * (lo * b) := Int.mul_left_comm lo 2 b
  by_cases h0 : 0 ≤ a
  · rw [rnd_pos h0]
    exact Int.le_ediv_of_mul_le (by omega) (by omega)
  · rw [rnd_neg (by omega)]
    have : (2 * -a + b) / (2 * b) < -lo + 1 := Int.ediv_lt_of_lt_mul (by omega) (by
      have h3 : (-lo + 1) * (2 * b) = -(lo * (2 * b)) + 2 * b := by rw [Int.add_mul, Int.neg_mul, Int.one_mul]
      omega)
    omega
theorem rnd_le_w {a b hi : Int} (hb : 1 ≤ b) (h : a ≤ hi * b) : rnd a b ≤ hi := by
  have h2 : hi * (2 * b) = 2 * (hi * b) := Int.mul_left_comm hi 2 b
  by_cases h0 : 0 ≤ a
  · rw [rnd_pos h0]
    have : (2 * a + b) / (2 * b) < hi + 1 := Int.ediv_lt_of_lt_mul (by omega) (by
      have h3 : (hi + 1) * (2 * b) = hi * (2 * b) + 2 * b := by rw [Int.add_mul, Int.one_mul]
      omega)
    omega
  · rw [rnd_neg (by omega)]
    have : -hi ≤ (2 * -a + b) / (2 * b) := Int.le_ediv_of_mul_le (by omega) (by rw [Int.neg_mul]; omega)
    omega
theorem rnd_mul {x b : Int} (hb : 1 ≤ b) : rnd (x * b) b = x := by
  have := rnd_ge (lo := x) hb (Int.le_refl (x * b))
  have := rnd_le_w (hi := x) hb (Int.le_refl (x * b))
  omega

theorem lastAt_in {xs : List Int} {lo hi : Int} (h : ∀ x ∈ xs, lo ≤ x ∧ x ≤ hi) (hn : 0 < xs.length) (i : Nat) : lo ≤ lastAt xs i ∧ lastAt xs i ≤ hi := by
  unfold lastAt
  have hi' : min i (xs.length - 1) < xs.length := by omega
  rw [getD_in hi']
  exact h _ (List.getElem_mem hi')
theorem wsum_in {xs : List Int} {lo hi : Int} (h : ∀ x ∈ xs, lo ≤ x ∧ x ≤ hi) (hn : 0 < xs.length) (i k : Nat) : lo * (k : Int) ≤ wsum xs i k ∧ wsum xs i k ≤ hi * (k : Int) := by
  induction k with
  | zero => show _ ≤ (0 : Int) ∧ (0 : Int) ≤ _; simp
  | succ k ih =>
    have := lastAt_in h hn (i + k)
    show _ ≤ wsum xs i k + _ ∧ wsum xs i k + _ ≤ _
    rw [Int.natCast_succ, Int.mul_add, Int.mul_add]
    omega
theorem smAt_in {xs : List Int} {lo hi : Int} (h : ∀ x ∈ xs, lo ≤ x ∧ x ≤ hi) (hn : 0 < xs.length) {wd : Nat} (hw : 1 ≤ wd) (i : Nat) : lo ≤ smAt xs wd i ∧ smAt xs wd i ≤ hi := by
  have := wsum_in h hn i wd
  exact ⟨rnd_ge (by omega) this.1, rnd_le_w (by omega) this.2⟩
theorem ipAt_in {xs : List Int} {lo hi : Int} (h : ∀ x ∈ xs, lo ≤ x ∧ x ≤ hi) (hn : 0 < xs.length) {u d : Nat} (hu : 1 ≤ u) (hd : 1 ≤ d) (j : Nat) : lo ≤ ipAt xs u d j ∧ ipAt xs u d j ≤ hi := by
  have hwd : 1 ≤ wdt u d := by
    unfold wdt
    exact (Nat.le_div_iff_mul_le (by omega)).2 (by omega)
  have h1 := smAt_in h hn hwd (j * d / u)
  have h2 := smAt_in h hn hwd (j * d / u + 1)
  have hf : j * d % u < u := Nat.mod_lt _ (by omega)
  unfold ipAt
  generalize smAt xs (wdt u d) (j * d / u) = s at *
  generalize smAt xs (wdt u d) (j * d / u + 1) = t at *
  generalize j * d % u = f at *
  have a1 : lo * ((u : Int) - (f : Int)) ≤ s * ((u : Int) - (f : Int)) := Int.mul_le_mul_of_nonneg_right h1.1 (by omega)
  have a2 : s * ((u : Int) - (f : Int)) ≤ hi * ((u : Int) - (f : Int)) := Int.mul_le_mul_of_nonneg_right h1.2 (by omega)
  have a3 : lo * (f : Int) ≤ t * (f : Int) := Int.mul_le_mul_of_nonneg_right h2.1 (by omega)
  have a4 : t * (f : Int) ≤ hi * (f : Int) := Int.mul_le_mul_of_nonneg_right h2.2 (by omega)
  rw [Int.mul_sub] at a1 a2
  refine ⟨rnd_ge (by omega) ?_, rnd_le_w (by omega) ?_⟩ <;> rw [Int.mul_sub] at * <;> omega
theorem ip_all {xs : List Int} {lo hi : Int} (h : ∀ x ∈ xs, lo ≤ x ∧ x ≤ hi) (hn : 0 < xs.length) {u d m : Nat} (hu : 1 ≤ u) (hd : 1 ≤ d) : allB lo hi (tab m (ipAt xs u d)) = true := by
  refine List.all_eq_true.2 fun x hx => ?_
  simp only [tab, List.mem_map] at hx
  obtain ⟨j, _, rfl⟩ := hx
  exact okB_iff.2 (ipAt_in h hn hu hd j)

theorem ip_same {xs : List Int} {u : Nat} (hu : 1 ≤ u) : tab xs.length (ipAt xs u u) = xs := by
  rw [tab_congr (g := fun i => xs.getD i 0), tab_self]
  intro i hi
  have hw : wdt u u = 1 := by
    unfold wdt
    have h1 : 1 ≤ (u + u - 1) / u := (Nat.le_div_iff_mul_le (by omega)).2 (by omega)
    have h2 : (u + u - 1) / u < 2 := (Nat.div_lt_iff_lt_mul (by omega)).2 (by omega)
    omega
  unfold ipAt
  rw [hw, Nat.mul_div_cancel _ (by omega), Nat.mul_mod_left, Int.natCast_zero, Int.mul_zero, Int.add_zero, Int.sub_zero, rnd_mul (by omega)]
  unfold smAt
  show rnd (0 + lastAt xs (i + 0)) ((1 : Nat) : Int) = _
  have := rnd_mul (x := lastAt xs i) (b := 1) (by omega)
  rw [Int.mul_one] at this
  rw [Int.zero_add, Nat.add_zero, Int.natCast_one, this]
  unfold lastAt
  rw [show min i (xs.length - 1) = i by omega]
theorem cnt_same {n u : Nat} (hu : 1 ≤ u) : rsCnt n u u = (n : Int) := by
  unfold rsCnt
  have h1 : (n : Int) ≤ ((n : Int) * u + u - 1) / u := Int.le_ediv_of_mul_le (by omega) (by omega)
  have h2 : ((n : Int) * u + u - 1) / u < (n : Int) + 1 := Int.ediv_lt_of_lt_mul (by omega) (by rw [Int.add_mul]; omega)
  omega
theorem cnt_pos {n u d : Nat} (hu : 1 ≤ u) (hd : 1 ≤ d) (hn : 0 < n) : 0 < rsCnt n u d := by
  unfold rsCnt
  have h0 : (1 : Int) * 1 ≤ (n : Int) * u := Int.mul_le_mul (by omega) (by omega) (by omega) (by omega)
  have h1 : (1 : Int) ≤ ((n : Int) * u + d - 1) / d := Int.le_ediv_of_mul_le (by omega) (by omega)
  omega

/-- what a call with no error says -/
theorem rs_ok {rate : Int} {xs : List Int} {u d : Int} (h : rsC rate xs u d = 0) :
    chkR rate xs = 0 ∧ (∃ U D M : Nat, u = (U : Int) ∧ d = (D : Int) ∧ 1 ≤ U ∧ U ≤ 16 ∧ 1 ≤ D ∧ D ≤ 16 ∧ rate * u % d = 0 ∧ rsCnt xs.length u d = (M : Int) ∧ M ≤ 200000 ∧ rsL rate xs u d = tab M (ipAt xs U D)) ∧ rsR rate xs u d = rate * u / d := by
  have hR : rsR rate xs u d = rate * u / d := by unfold rsR; rw [if_pos h]
  have hL : rsL rate xs u d = tab (rsCnt xs.length u d).toNat (ipAt xs u.toNat d.toNat) := by unfold rsL; rw [if_pos h]
  unfold rsC at h
  split at h
  · rename_i hk
    split at h
    · rename_i hud
      rw [Bool.and_eq_true, okB_iff, okB_iff] at hud
      split at h
      · rename_i hm
        split at h
        · split at h
          · rename_i hc
            have h0 : 0 ≤ rsCnt xs.length u d := Int.ediv_nonneg (by have := Int.mul_nonneg (Int.natCast_nonneg xs.length) (show 0 ≤ u by omega); omega) (by omega)
            exact ⟨hk, ⟨u.toNat, d.toNat, (rsCnt xs.length u d).toNat, by omega, by omega, by omega, by omega, by omega, by omega, hm, by omega, by omega, hL⟩, hR⟩
          · cases h
        · cases h
      · cases h
    · cases h
  · rename_i hk
    exact absurd h hk
theorem rs_no {rate : Int} {xs : List Int} {u d : Int} (h : rsC rate xs u d ≠ 0) : rsR rate xs u d = 0 ∧ rsL rate xs u d = [] := by
  unfold rsR rsL
  rw [if_neg h, if_neg h]
  exact ⟨rfl, rfl⟩
end Go.Proofs.YtoljffghaklpdaaGreatDoor


/- The document's own recording at another rate. -/
namespace Go.Proofs.YtoljffghaklpdaaGreatDoor
open Go.RowKit

/-- which numbers are refused -/
def rsBad (rate u d : Int) : Prop := u < 1 ∨ 16 < u ∨ d < 1 ∨ 16 < d ∨ rate * u % d ≠ 0 ∨ 192000 < rate * u / d

end Go.Proofs.YtoljffghaklpdaaGreatDoor


/- The document's own recording at another rate: too long, and the loop. -/
namespace Go.Proofs.YtoljffghaklpdaaGreatDoor
open Go.RowKit

/-- a load that is carried out where it stands -/
abbrev ldF (t : TypeId) (x : Operand) : Op := Op.load t x
/-- the head of a round: k samples are done -/
structure RsR (w2 : World) (gr go gs : Nat) (rate Q : Int) (A : Option Addr) (n c : Nat) (V : Value) (k : Nat) (f : Nat → Int) (wr : World) : Prop where
  r : Blk wr gr 30 #[.int .i64 rate, .slice A n c]
  o : Blk wr go 30 #[.int .i64 0, .slice none 0 0]
  s : Blk wr gs 30 #[.int .i64 Q, V]
  own : wr.ownsRow (gs + 1) 3 1 V k (ivs .i64 (tab k f))
  bel : Below w2.heap.size w2 wr
theorem RsR.drewN {w2 : World} {gr go gs : Nat} {rate Q : Int} {A : Option Addr} {n c : Nat} {V : Value} {k : Nat} {f : Nat → Int} {wr : World} (h : RsR w2 gr go gs rate Q A n c V k f wr) (i : Nat) : RsR w2 gr go gs rate Q A n c V k f (wr.drewN i) :=
  ⟨h.r.drewN i, h.o.drewN i, h.s.drewN i, h.own, bel_drewN h.bel i⟩

end Go.Proofs.YtoljffghaklpdaaGreatDoor
