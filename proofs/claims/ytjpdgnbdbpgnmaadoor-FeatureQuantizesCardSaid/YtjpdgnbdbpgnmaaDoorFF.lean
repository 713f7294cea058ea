/- Cosines and transforms: the program's weights and its transform. -/
import Derived.Test.YtjpdgnbdbpgnmaaDoorFE
import Derived.StillTailTactics
namespace Go.Proofs.YtjpdgnbdbpgnmaaDoor
open Go.RowKit

theorem turn_any (i k n : Nat) (w : World) (hT : Tab w) (hi : i ≤ 64) (hk : k ≤ 64) (hn : 1 ≤ n) :
    Calls Tryd.prog 63 #[.int .i64 (i : Int), .int .i64 (k : Int), .int .i64 (n : Int)] w fun e w' => e = .returned (.int .i64 (cs ((2 * i + 1) * k * (64 / n)))) ∧ w' = w := by
  obtain ⟨q, hq⟩ : ∃ q, 64 / n = q := ⟨_, rfl⟩
  have hq2 : q ≤ 64 := by rw [← hq]; exact Nat.div_le_self _ _
  have hd : (64 : Int).tdiv (n : Int) = (q : Int) := by rw [Int.tdiv_eq_ediv_of_nonneg (by omega), ← hq]; exact (Int.natCast_ediv 64 n).symm
  obtain ⟨P, hP⟩ : ∃ P, (2 * i + 1) * k = P := ⟨_, rfl⟩
  have hPi : (2 * (i : Int) + 1) * (k : Int) = (P : Int) := by rw [← hP, Int.natCast_mul]; simp
  have hP2 : P ≤ 129 * 64 := by rw [← hP]; exact Nat.mul_le_mul (by omega) hk
  obtain ⟨M, hM⟩ : ∃ M, P * q = M := ⟨_, rfl⟩
  have hMi : (P : Int) * (q : Int) = (M : Int) := by rw [← hM, Int.natCast_mul]
  have hM2 : M ≤ 129 * 64 * 64 := by rw [← hM]; exact Nat.mul_le_mul hP2 hq2
  have hv := Lib.hid (show cs ((2 * i + 1) * k * (64 / n)) = cs M by rw [hq, hP, hM])
  clear hq hP hM
  have hn0 : ¬ (n : Int) = 0 := by omega
  go_enter Tryd.func63, Tryd.ntmps63
  go_wp2_with (go_at_call 59; refine (cosine_any M _ hT (by omega)).mono ?_; rintro e w' ⟨rfl, rfl⟩)
  go_ret
  exact ⟨ret_int hv.out.symm, rfl⟩

/-- block g is being filled with f: k of n places are done, place k holds v -/
structure FillA (w wr : World) (g : Nat) (t : TypeId) (n k : Nat) (v : Int) (f : Nat → Int) : Prop where
  own : Mk wr g t .i64 (tab k f ++ v :: zs (n - (k + 1)))
  bel : Below w.heap.size w wr
  new : w.heap.size ≤ g
section
variable {w wr : World} {g : Nat} {t : TypeId} {n k : Nat} {v : Int} {f : Nat → Int}
theorem FillA.cell (h : FillA w wr g t n k v f) : wr.cell? ⟨g, k, none⟩ = some (.int .i64 v) := by
  have := h.own.cell (i := k) (by simp [tab_len])
  rw [this]
  simp [List.getD_eq_getElem?_getD, tab_len]
theorem FillA.frozen (h : FillA w wr g t n k v f) (i : Nat) : wr.frozen? ⟨g, i, none⟩ = false := h.own.frozen i
theorem Fill.begin_ (h : Fill w wr g t n k f) (hk : k < n) : FillA w wr g t n k 0 f :=
  ⟨by have h2 := h.own
      rw [show zs (n - k) = 0 :: zs (n - (k + 1)) by rw [show n - k = (n - (k + 1)) + 1 by omega]; rfl] at h2
      exact h2, h.bel, h.new⟩
theorem FillA.set_ (h : FillA w wr g t n k v f) (v' : Int) : FillA w (wr.setCell ⟨g, k, none⟩ (.int .i64 v')) g t n k v' f :=
  ⟨by have h2 := h.own.set_ k v'
      rw [List.set_append_right _ _ (by rw [tab_len]; exact Nat.le_refl _), tab_len, Nat.sub_self, List.set_cons_zero] at h2
      exact h2, h.bel.setCell h.new _, h.new⟩
theorem FillA.end_ (h : FillA w wr g t n k v f) (hv : v = f k) : Fill w wr g t n (k + 1) f :=
  ⟨by have h2 := h.own
      rw [hv, show tab k f ++ f k :: zs (n - (k + 1)) = tab (k + 1) f ++ zs (n - (k + 1)) by rw [tab_succ, List.append_assoc]; rfl] at h2
      exact h2, h.bel, h.new⟩
theorem FillA.drewN (h : FillA w wr g t n k v f) (i : Nat) : FillA w (wr.drewN i) g t n k v f := ⟨h.own, bel_drewN h.bel i, h.new⟩
end

def trF (xs : List Int) (n k : Nat) : Nat → Int := fun i => xs.getD i 0 * cs ((2 * i + 1) * k * (64 / n))

theorem Fill.whole {w wr : World} {g : Nat} {t : TypeId} {n : Nat} {f : Nat → Int} (h : Fill w wr g t n n f) : Mk wr g t .i64 (tab n f) := by
  have := h.own
  rw [Nat.sub_self, show zs 0 = [] from rfl, List.append_nil] at this
  exact this
/-- the call returned a new list that is its own, beside the code 0 -/
def RetM (w : World) (n : Nat) (ys : List Int) (e : Ending) (w' : World) : Prop :=
  ∃ g, e = .returned (.tuple #[.slice (some ⟨g, 0, none⟩) n n, .int .i64 0]) ∧ Mk w' g 3 .i64 ys ∧ Below w.heap.size w w' ∧ w.heap.size ≤ g
/-- the call returned no list, and a code -/
def RetN (w : World) (code : Int) (e : Ending) (w' : World) : Prop := e = .returned (.tuple #[.slice none 0 0, .int .i64 code]) ∧ Below w.heap.size w w'

set_option maxHeartbeats 1600000 in
set_option maxRecDepth 100000 in
theorem Transform_any (A : Option Addr) (n c : Nat) (xs : List Int) (w : World) (h : Sl .i64 w A n c xs) (hT : Tab w) :
    Calls Tryd.prog 20 #[.slice A n c] w fun e w' => (trOk xs = true ∧ RetM w n (trL xs) e w') ∨ (trOk xs = false ∧ RetN w 2 e w') := by
  have hl := Lib.hid h.len
  have hcap := h.cap
  have htop := h.top
  cases hL : lenB n with
  | false =>
    have hk : trOk xs = false := by unfold trOk; rw [hl.out, hL]; rfl
    have hC := Lib.hid hk
    have hL := Lib.hid hL
    clear hk
    go_enter Tryd.func20, Tryd.ntmps20
    go_wp2_with fail
    refine (isLength_any n w).mono ?_
    rintro e w' ⟨rfl, rfl⟩
    rw [hL.out]
    go_wp2
    go_ret2
    exact .inr ⟨hC.out, rfl, Below.refl _ _⟩
  | true =>
    obtain ⟨hn1, hn2, _⟩ := lenB_le hL
    cases hA : allB (-65536) 65536 xs with
    | false =>
      have hk : trOk xs = false := by unfold trOk; rw [hl.out, hL, hA]; rfl
      have hC := Lib.hid hk
      have hL := Lib.hid hL
      have hA := Lib.hid hA
      clear hk
      go_enter Tryd.func20, Tryd.ntmps20
      go_wp2_with fail
      refine (isLength_any n w).mono ?_
      rintro e w' ⟨rfl, rfl⟩
      rw [hL.out]
      go_wp2_with fail
      refine (allUpTo_any _ _ _ _ 65536 _ h (by decide) (by decide)).mono ?_
      rintro e w' ⟨rfl, rfl⟩
      rw [hA.out]
      go_wp2
      go_ret2
      exact .inr ⟨hC.out, rfl, Below.refl _ _⟩
    | true =>
      have hk : trOk xs = true := by unfold trOk; rw [hl.out, hL, hA]; rfl
      have hC := Lib.hid hk
      have hR := Lib.hid (show trL xs = tab n fun k => sm n (trF xs n k) by unfold trL; rw [hl.out]; rfl)
      have hL := Lib.hid hL
      have hbd := Lib.hid (fun k i (hi : i ≤ n) => trA_bd (k := k) hA hl.out hn2 hi)
      have hA := Lib.hid hA
      have hmk := make_int n (by omega)
      clear hk
      go_enter Tryd.func20, Tryd.ntmps20
      go_wp2_with fail
      refine (isLength_any n w).mono ?_
      rintro e w' ⟨rfl, rfl⟩
      rw [hL.out]
      go_wp2_with fail
      refine (allUpTo_any _ _ _ _ 65536 _ h (by decide) (by decide)).mono ?_
      rintro e w' ⟨rfl, rfl⟩
      rw [hA.out]
      go_wp2
      clear hmk
      go_loopw [22] (fun iv wr => ∃ k : Nat, iv = .int .i64 k ∧ k ≤ n ∧ Fill w wr w.heap.size 3 n k fun k => sm n (trF xs n k)) (fun iv _ => n - (intOf iv).toNat)
      case atStart => exact ⟨0, rfl, Nat.zero_le _, Fill.start (Below.refl _ _) rfl⟩
      case round =>
        obtain ⟨k, rfl, hkn, hF⟩ := hrel
        rcases Nat.lt_or_ge k n with hlt | hge
        · have hFA := hF.begin_ hlt
          go_wp2
          go_loopw [27] (fun iv w2 => ∃ i : Nat, iv = .int .i64 i ∧ i ≤ n ∧ FillA w w2 w.heap.size 3 n k (sm i (trF xs n k)) fun k => sm n (trF xs n k)) (fun iv _ => n - (intOf iv).toNat)
          case atStart => exact ⟨0, rfl, Nat.zero_le _, hFA⟩
          case round =>
            obtain ⟨i, rfl, hin, hG⟩ := hrel
            rcases Nat.lt_or_ge i n with hil | hig
            · have hr := h.below hG.bel
              have hTr := hT.below hG.bel
              obtain ⟨ad, x, rfl, hcx, hx⟩ := hr.at_ hil
              have hb1 := hbd.out k i (by omega)
              have hxb := allB_get hA.out (by rw [hl.out]; exact hil) hx.out
              have hcb := cs_bd ((2 * i + 1) * k * (64 / n))
              have hstep := Lib.hid (show sm (i + 1) (trF xs n k) = sm i (trF xs n k) + x * cs ((2 * i + 1) * k * (64 / n)) by show sm i (trF xs n k) + trF xs n k i = _; unfold trF; rw [hx.out])
              have hturn := Lib.hid (fun w9 (h9 : Tab w9) => turn_any i k n w9 h9 (by omega) (by omega) hn1)
              generalize cs ((2 * i + 1) * k * (64 / n)) = cc at *
              have hpb := prod_bd (m := 65536) (q := 16384) hxb.1 hxb.2 hcb.1 hcb.2
              obtain ⟨p, hp⟩ : ∃ p, x * cc = p := ⟨_, rfl⟩
              rw [hp] at hpb
              have e1 : IntKind.i64.wrap (x * cc) = p := by rw [hp]; exact IntWalk.i64_in _ (by omega)
              have hb2 : -68719476736 ≤ sm i (trF xs n k) ∧ sm i (trF xs n k) ≤ 68719476736 := hb1
              generalize hS0 : sm i (trF xs n k) = S at *
              clear hS0
              have e2 : IntKind.i64.wrap (S + p) = S + p := IntWalk.i64_in _ (by omega)
              have hstep' := Lib.hid (show S + p = sm (i + 1) (trF xs n k) by rw [hstep.out, hp])
              clear hb1 hxb hcb hpb hb2 hstep hp
              have hc0 := hG.cell
              have i0 : (0 : Int) ≤ (k : Int) := by omega
              have i1 : (k : Int) < (n : Int) := by omega
              go_wp2
              go_still_tail 13, (by kernel_rfl)
              still_call (hturn.out _ (hTr.drewN 1))
              repeat still_step
              refine wpStill_nil ?_
              change wpList _ _ _ _ _ (_ : World).drew
              have hG2 := hG.drewN 1
              change FillA w (_ : World).drew _ _ _ _ _ _ at hG2
              generalize (_ : World).drew = w3 at *
              have hcf := hG2.frozen k
              have hc3 := hG2.cell
              have hG4 := hG2.set_ (S + p)
              rw [hstep'.out] at hG4
              clear hc0 hcx
              go_wp2
              go_roundw
              case rel => exact ⟨i + 1, by go_num, hil, by rw [← hstep'.out] at hG4 ⊢; exact hG4⟩
              case measure => simp [intOf]; omega
            · have hii : i = n := by omega
              subst hii
              have hF2 := hG.end_ rfl
              go_wp2
              go_roundw
              case rel => exact ⟨k + 1, by go_num, hlt, hF2⟩
              case measure => simp [intOf]; omega
        · have hkn' : k = n := by omega
          subst hkn'
          have hD := hF.whole
          go_wp2
          go_ret2
          exact .inl ⟨hC.out, _, rfl, by rw [hR.out]; exact hD, hF.bel, Nat.le_refl _⟩
end Go.Proofs.YtjpdgnbdbpgnmaaDoor
