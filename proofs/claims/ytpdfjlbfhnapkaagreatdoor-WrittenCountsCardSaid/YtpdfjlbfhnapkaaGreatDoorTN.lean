/- The longest spoken form with which words begin; WriteText. -/
import Derived.Test.YtpdfjlbfhnapkaaGreatDoorTL
namespace Go.Proofs.YtpdfjlbfhnapkaaGreatDoor
open Go.RowKit
set_option linter.unusedSimpArgs false
set_option linter.unusedVariables false
set_option maxRecDepth 100000

theorem wNum_len (ws : List Str) : (wNum ws).1.length ≤ 120 := by
  have h1 := sign_len ws
  have h2 := numS_len (wholeF (signF ws).2).1.1
  unfold wNum
  simp only
  split
  · simp only [List.length_append]; omega
  · simp
theorem wOrd_len (ws : List Str) : (wOrd ws).1.length ≤ 120 := by
  have h2 := numS_len (ordF ws).1
  have h3 := end_len (ordF ws).1
  unfold wOrd wrO
  split
  · simp
  · simp only [List.length_append]; omega
theorem wDig_len (ws : List Str) : (wDig ws).1.length ≤ 120 := by
  unfold wDig
  split
  · split
    · rename_i h
      have := digsB_len h
      omega
    · simp
  · simp
theorem wDec_len (ws : List Str) : (wDec ws).1.length ≤ 120 := by
  have h1 := sign_len ws
  have h2 := numS_len (wholeF (signF ws).2).1.1
  unfold wDec
  simp only
  split
  · split
    · rename_i h
      unfold placesB wiB at h
      rw [Bool.and_eq_true, decide_eq_true_eq, decide_eq_true_eq] at h
      have := h.2
      simp only [List.length_append, List.length_cons, List.length_nil]; omega
    · simp
  · simp
theorem wClk_len (ws : List Str) : (wClk ws).1.length ≤ 120 := by
  have h1 := twoN_len (wholeF ws).1.1
  have h2 := twoN_len (pairF (wholeF ws).2).1
  unfold wClk
  simp only
  split
  · split
    · simp only [List.length_append, List.length_cons, List.length_nil]; omega
    · split
      · simp only [List.length_append, List.length_cons, List.length_nil]; omega
      · simp
  · simp
theorem wDat_len (ws : List Str) : (wDat ws).1.length ≤ 120 := by
  unfold wDat wDat1
  split
  · unfold wDat2 wDat3
    split
    · have h1 := numS_len (yearF (monthF (tkR [111, 102] (afterF [116, 104, 101] ordF ws).2)).2).1
      have h2 := twoN_len (monthF (tkR [111, 102] (afterF [116, 104, 101] ordF ws).2)).1
      have h3 := twoN_len (afterF [116, 104, 101] ordF ws).1
      simp only [List.length_append, List.length_cons, List.length_nil]; omega
    · simp
  · simp
theorem wMon_len (ws : List Str) : (wMon ws).1.length ≤ 120 := by
  unfold wMon wMon1
  split
  · have := twoN_len (attF centsF ws).1
    simp only [List.length_append, List.length_cons, List.length_nil]; omega
  · unfold wMon2
    split
    · unfold wMon3
      have h0 := numS_len (wholeF (attF centsF ws).2).1.1
      split
      · simp only [List.length_append, List.length_cons, List.length_nil]; omega
      · unfold wMon4
        split
        · rename_i h
          have := twoN_len (afterF [97, 110, 100] centsF (tkR (countedN (wholeF (attF centsF ws).2).1.1 [100, 111, 108, 108, 97, 114]) (wholeF (attF centsF ws).2).2)).1
          simp only [List.length_append, List.length_cons, List.length_nil]; omega
        · simp only [List.length_append, List.length_cons, List.length_nil]; omega
    · simp
theorem asF_len {F : List Str → Str × List Str} {k : Nat} {ws : List Str} (h : (F ws).1.length ≤ k) : (asF F ws).length ≤ k := by
  unfold asF
  split
  · exact h
  · simp
theorem firstNE_len (k : Nat) : ∀ (l : List Str), (∀ x ∈ l, x.length ≤ k) → (firstNE l).length ≤ k := by
  intro l
  induction l with
  | nil => intro _; simp [firstNE]
  | cons x xs ih =>
    intro h
    unfold firstNE
    split
    · exact ih (fun y hy => h y (List.mem_cons_of_mem _ hy))
    · exact h x List.mem_cons_self
theorem writeF_len (ws : List Str) : (writeF ws).length ≤ 120 := by
  refine firstNE_len 120 _ (fun x hx => ?_)
  unfold formsL at hx
  simp only [List.mem_cons, List.not_mem_nil, or_false] at hx
  rcases hx with rfl | rfl | rfl | rfl | rfl | rfl | rfl
  · exact asF_len (wNum_len ws)
  · exact asF_len (wOrd_len ws)
  · exact asF_len (wDig_len ws)
  · exact asF_len (wDec_len ws)
  · exact asF_len (wClk_len ws)
  · exact asF_len (wDat_len ws)
  · exact asF_len (wMon_len ws)
/-- the longest spoken form of at most so many words, or else the first word; and how many words -/
def longN (ws : List Str) : Nat → Str × Nat
  | 0 => (ws.headD [], 1)
  | k + 1 => if writeF (ws.take (k + 1)) = [] then longN ws k else (writeF (ws.take (k + 1)), k + 1)
def longF (ws : List Str) : Str × Nat := longN ws (min ws.length 37)
theorem Shw.take {ws : List Str} (h : Shw ws) (k : Nat) : Shw (ws.take k) := ⟨by rw [List.length_take]; have := h.1; omega, fun x hx => h.2 x (List.mem_of_mem_take hx)⟩
theorem if_min37 {n : Int} (h : n < 37) : min n 37 = n := by omega
set_option maxHeartbeats 8000000 in
theorem longest_any (ad : Addr) (n c : Nat) (ws : List Str) (w : World) (hS : Ss w (some ad) n c ws) (hn : 0 < n) (hlt : ad.block < w.heap.size) (hT : WT w) (hl : Shw ws) :
    Calls Tryz.prog 69 #[.slice (some ad) n c] w fun e w' => e = .returned (.tuple #[.string ⟨(longF ws).1.toArray⟩, .int .i64 (((longF ws).2 : Nat) : Int)]) ∧ Below w.heap.size w w' := by
  have hcap := hS.cap
  have htop := hS.top
  have hln := hS.len
  have hn1 : n ≤ 100000 := by rw [← hln]; exact hl.1
  obtain ⟨ad0, he, hcl⟩ := hS.cell hn
  injection he with he
  subst he
  obtain ⟨x, hx⟩ : ∃ x, ws[0]? = some x := ⟨_, List.getElem?_eq_getElem (by omega)⟩
  have hc0 := hcl 0 x hx
  rw [show ad.add 0 = ad from by unfold Addr.add; simp] at hc0
  have hhd : ws.headD [] = x := by cases ws with | nil => cases hx | cons a b => injection hx
  obtain ⟨m, hm⟩ : ∃ m, min n 37 = m := ⟨_, rfl⟩
  have hm2 : min (n : Int) 37 = (m : Int) := by omega
  have hmn : m ≤ n := by omega
  have hm37 : m ≤ 37 := by omega
  have hq0 := Lib.hid (show longF ws = longN ws m by unfold longF; rw [hln, hm])
  have hhd := Lib.hid hhd
  clear hm hcl hx hln
  go_enter Tryz.func69, Tryz.ntmps69
  go_wp2
  go_step3
  go_wp2
  go_step3
  go_wp2
  go_loopg [4, 5, 6] m (fun gg pv tv ev wr => ∃ k : Nat, Hid (gg = k) ∧ pv = .string ⟨x.toArray⟩ ∧ tv = .int .i64 1 ∧ ev = .int .i64 (k : Int) ∧ k ≤ m ∧ Hid (longF ws = longN ws k) ∧ Below w.heap.size w wr)
  case atStart => exact ⟨m, rfl, rfl, rfl, rfl, Nat.le_refl _, hq0.out, Below.refl _ _⟩
  case round =>
    obtain ⟨k, hgk, rfl, rfl, rfl, hkm, hq, hbel⟩ := hrel
    rcases Nat.eq_zero_or_pos k with hk0 | hk0
    · subst hk0
      have hq2 := Lib.hid (show longF ws = (x, 1) by rw [hq.out]; show (ws.headD [], 1) = _; rw [hhd.out])
      go_wp2
      rw [Exit.noGoto_ret]
      go_ret2
      exact ⟨by rw [hq2.out]; rfl, hbel⟩
    · have h1 : (0 : Int) < (k : Int) := by omega
      have h1d : decide ((0 : Int) < (k : Int)) = true := decide_eq_true h1
      have h2 : (0 : Int) ≤ (k : Int) := by omega
      have h3 : (k : Int) ≤ (c : Int) := by omega
      have h3b : k ≤ c := by omega
      have h4 : k ≤ n := by omega
      obtain ⟨p, hp⟩ : ∃ p, k - 1 = p := ⟨_, rfl⟩
      have wk : IntKind.i64.wrap ((k : Int) - 1) = (p : Int) := by rw [IntWalk.i64_in _ (by omega)]; omega
      have hpm : p ≤ m := by omega
      have hpk := Lib.hid (show p < k by omega)
      have hbs := hbel.size
      have hA := (Below.refl wr.heap.size wr).alloc (Nat.le_refl _) (.cells #[.iface 72 (.agg #[]), .iface 115 (.agg #[]), .iface 116 (.agg #[]), .iface 117 (.agg #[]), .iface 118 (.agg #[]), .iface 119 (.agg #[]), .iface 120 (.agg #[])] 92)
      have hfo := Lib.hid (forms_any wr)
      have hq1 := Lib.hid (show longF ws = if writeF (ws.take k) = [] then longN ws p else (writeF (ws.take k), k) by
        rw [hq.out]
        obtain rfl : k = p + 1 := by omega
        rfl)
      clear hp
      go_wp2_with fail
      refine hfo.out.mono ?_
      rintro e9 w3 ⟨rfl, hw3⟩
      rw [← hw3] at hA
      have hB3 : Blk w3 wr.heap.size 92 #[.iface 72 (.agg #[]), .iface 115 (.agg #[]), .iface 116 (.agg #[]), .iface 117 (.agg #[]), .iface 118 (.agg #[]), .iface 119 (.agg #[]), .iface 120 (.agg #[])] := by rw [hw3]; exact Blk.new _ _ _
      have hb3 := hbel.trans (hA.mono hbs)
      clear hw3 hA hfo
      generalize wr.heap.size = g2 at *
      go_wp2
      go_loopg [4, 5, 22] 7 (fun gj pv tv iv wx => ∃ j : Nat, j + gj = 7 ∧ pv = .string ⟨x.toArray⟩ ∧ tv = .int .i64 1 ∧ iv = .int .i64 (j : Int) ∧ Hid (writeF (ws.take k) = firstNE ((formsL (ws.take k)).drop j)) ∧ Below w3.heap.size w3 wx)
      case atStart => exact ⟨0, rfl, rfl, rfl, rfl, rfl, Below.refl _ _⟩
      case round =>
        obtain ⟨j, hjg, rfl, rfl, rfl, hr, hbx⟩ := hrel
        have hBr := hB3.below hbx
        have hbw := hb3.trans (hbx.mono hb3.size)
        have hSr := (hS.below hbw).take (m := k) h4
        have hTr := hT.below hbw
        have hltr : ∀ ad9, some ad = some ad9 → ad9.block < wr.heap.size := fun ad9 e9 => by injection e9 with e9; subst e9; exact Nat.lt_of_lt_of_le hlt hbw.size
        have hlr := hl.take k
        have hbxs := hbx.size
        rcases (show j = 0 ∨ j = 1 ∨ j = 2 ∨ j = 3 ∨ j = 4 ∨ j = 5 ∨ j = 6 ∨ j = 7 by omega) with rfl | rfl | rfl | rfl | rfl | rfl | rfl | rfl
        · obtain rfl : gk = 7 := by omega
          have hc := Lib.hid (as_number (some ad) k c (ws.take k) wr hSr hltr hTr hlr)
          have hr1 := Lib.hid (show writeF (ws.take k) = if asF wNum (ws.take k) = [] then firstNE ((formsL (ws.take k)).drop (0 + 1)) else asF wNum (ws.take k) by rw [hr.out]; unfold formsL; simp only [List.drop_succ_cons, List.drop_zero]; conv => lhs; unfold firstNE)
          generalize asF wNum (ws.take k) = Z at *
          have hcell : wr.cell? ⟨g2, 0, none⟩ = some (.iface 72 (.agg #[])) := hBr.cell 0
          by_cases hZ : Z = []
          · subst hZ
            have hr2 := Lib.hid (show writeF (ws.take k) = firstNE ((formsL (ws.take k)).drop (0 + 1)) by rw [hr1.out, if_pos rfl])
            go_wp2_with fail
            refine hc.out.mono ?_
            rintro e9 x2 ⟨rfl, hb2⟩
            have hb5 := hbx.trans (hb2.mono hbxs)
            go_wp2
            go_roundg 6
            case measure => omega
            case rel => exact ⟨0 + 1, rfl, rfl, rfl, by go_num, hr2.out, hb5⟩
          · have hr2 := Lib.hid (show longF ws = (Z, k) by rw [hq1.out, hr1.out, if_neg hZ, if_neg hZ])
            have hZe : Z.isEmpty = false := by cases Z with | nil => exact absurd rfl hZ | cons a b => rfl
            go_wp2_with fail
            refine hc.out.mono ?_
            rintro e9 x2 ⟨rfl, hb2⟩
            have hb5 := hbw.trans (hb2.mono hbw.size)
            go_wp2
            rw [Exit.noGoto_ret]
            go_ret2
            exact ⟨by rw [hr2.out]; rfl, hb5⟩
        · obtain rfl : gk = 6 := by omega
          have hc := Lib.hid (as_ordinal (some ad) k c (ws.take k) wr hSr hltr hTr hlr)
          have hr1 := Lib.hid (show writeF (ws.take k) = if asF wOrd (ws.take k) = [] then firstNE ((formsL (ws.take k)).drop (1 + 1)) else asF wOrd (ws.take k) by rw [hr.out]; unfold formsL; simp only [List.drop_succ_cons, List.drop_zero]; conv => lhs; unfold firstNE)
          generalize asF wOrd (ws.take k) = Z at *
          have hcell : wr.cell? ⟨g2, 1, none⟩ = some (.iface 115 (.agg #[])) := hBr.cell 1
          by_cases hZ : Z = []
          · subst hZ
            have hr2 := Lib.hid (show writeF (ws.take k) = firstNE ((formsL (ws.take k)).drop (1 + 1)) by rw [hr1.out, if_pos rfl])
            go_wp2_with fail
            refine hc.out.mono ?_
            rintro e9 x2 ⟨rfl, hb2⟩
            have hb5 := hbx.trans (hb2.mono hbxs)
            go_wp2
            go_roundg 5
            case measure => omega
            case rel => exact ⟨1 + 1, rfl, rfl, rfl, by go_num, hr2.out, hb5⟩
          · have hr2 := Lib.hid (show longF ws = (Z, k) by rw [hq1.out, hr1.out, if_neg hZ, if_neg hZ])
            have hZe : Z.isEmpty = false := by cases Z with | nil => exact absurd rfl hZ | cons a b => rfl
            go_wp2_with fail
            refine hc.out.mono ?_
            rintro e9 x2 ⟨rfl, hb2⟩
            have hb5 := hbw.trans (hb2.mono hbw.size)
            go_wp2
            rw [Exit.noGoto_ret]
            go_ret2
            exact ⟨by rw [hr2.out]; rfl, hb5⟩
        · obtain rfl : gk = 5 := by omega
          have hc := Lib.hid (as_digits (some ad) k c (ws.take k) wr hSr hltr hTr hlr)
          have hr1 := Lib.hid (show writeF (ws.take k) = if asF wDig (ws.take k) = [] then firstNE ((formsL (ws.take k)).drop (2 + 1)) else asF wDig (ws.take k) by rw [hr.out]; unfold formsL; simp only [List.drop_succ_cons, List.drop_zero]; conv => lhs; unfold firstNE)
          generalize asF wDig (ws.take k) = Z at *
          have hcell : wr.cell? ⟨g2, 2, none⟩ = some (.iface 116 (.agg #[])) := hBr.cell 2
          by_cases hZ : Z = []
          · subst hZ
            have hr2 := Lib.hid (show writeF (ws.take k) = firstNE ((formsL (ws.take k)).drop (2 + 1)) by rw [hr1.out, if_pos rfl])
            go_wp2_with fail
            refine hc.out.mono ?_
            rintro e9 x2 ⟨rfl, hb2⟩
            have hb5 := hbx.trans (hb2.mono hbxs)
            go_wp2
            go_roundg 4
            case measure => omega
            case rel => exact ⟨2 + 1, rfl, rfl, rfl, by go_num, hr2.out, hb5⟩
          · have hr2 := Lib.hid (show longF ws = (Z, k) by rw [hq1.out, hr1.out, if_neg hZ, if_neg hZ])
            have hZe : Z.isEmpty = false := by cases Z with | nil => exact absurd rfl hZ | cons a b => rfl
            go_wp2_with fail
            refine hc.out.mono ?_
            rintro e9 x2 ⟨rfl, hb2⟩
            have hb5 := hbw.trans (hb2.mono hbw.size)
            go_wp2
            rw [Exit.noGoto_ret]
            go_ret2
            exact ⟨by rw [hr2.out]; rfl, hb5⟩
        · obtain rfl : gk = 4 := by omega
          have hc := Lib.hid (as_decimal (some ad) k c (ws.take k) wr hSr hltr hTr hlr)
          have hr1 := Lib.hid (show writeF (ws.take k) = if asF wDec (ws.take k) = [] then firstNE ((formsL (ws.take k)).drop (3 + 1)) else asF wDec (ws.take k) by rw [hr.out]; unfold formsL; simp only [List.drop_succ_cons, List.drop_zero]; conv => lhs; unfold firstNE)
          generalize asF wDec (ws.take k) = Z at *
          have hcell : wr.cell? ⟨g2, 3, none⟩ = some (.iface 117 (.agg #[])) := hBr.cell 3
          by_cases hZ : Z = []
          · subst hZ
            have hr2 := Lib.hid (show writeF (ws.take k) = firstNE ((formsL (ws.take k)).drop (3 + 1)) by rw [hr1.out, if_pos rfl])
            go_wp2_with fail
            refine hc.out.mono ?_
            rintro e9 x2 ⟨rfl, hb2⟩
            have hb5 := hbx.trans (hb2.mono hbxs)
            go_wp2
            go_roundg 3
            case measure => omega
            case rel => exact ⟨3 + 1, rfl, rfl, rfl, by go_num, hr2.out, hb5⟩
          · have hr2 := Lib.hid (show longF ws = (Z, k) by rw [hq1.out, hr1.out, if_neg hZ, if_neg hZ])
            have hZe : Z.isEmpty = false := by cases Z with | nil => exact absurd rfl hZ | cons a b => rfl
            go_wp2_with fail
            refine hc.out.mono ?_
            rintro e9 x2 ⟨rfl, hb2⟩
            have hb5 := hbw.trans (hb2.mono hbw.size)
            go_wp2
            rw [Exit.noGoto_ret]
            go_ret2
            exact ⟨by rw [hr2.out]; rfl, hb5⟩
        · obtain rfl : gk = 3 := by omega
          have hc := Lib.hid (as_clock (some ad) k c (ws.take k) wr hSr hltr hTr hlr)
          have hr1 := Lib.hid (show writeF (ws.take k) = if asF wClk (ws.take k) = [] then firstNE ((formsL (ws.take k)).drop (4 + 1)) else asF wClk (ws.take k) by rw [hr.out]; unfold formsL; simp only [List.drop_succ_cons, List.drop_zero]; conv => lhs; unfold firstNE)
          generalize asF wClk (ws.take k) = Z at *
          have hcell : wr.cell? ⟨g2, 4, none⟩ = some (.iface 118 (.agg #[])) := hBr.cell 4
          by_cases hZ : Z = []
          · subst hZ
            have hr2 := Lib.hid (show writeF (ws.take k) = firstNE ((formsL (ws.take k)).drop (4 + 1)) by rw [hr1.out, if_pos rfl])
            go_wp2_with fail
            refine hc.out.mono ?_
            rintro e9 x2 ⟨rfl, hb2⟩
            have hb5 := hbx.trans (hb2.mono hbxs)
            go_wp2
            go_roundg 2
            case measure => omega
            case rel => exact ⟨4 + 1, rfl, rfl, rfl, by go_num, hr2.out, hb5⟩
          · have hr2 := Lib.hid (show longF ws = (Z, k) by rw [hq1.out, hr1.out, if_neg hZ, if_neg hZ])
            have hZe : Z.isEmpty = false := by cases Z with | nil => exact absurd rfl hZ | cons a b => rfl
            go_wp2_with fail
            refine hc.out.mono ?_
            rintro e9 x2 ⟨rfl, hb2⟩
            have hb5 := hbw.trans (hb2.mono hbw.size)
            go_wp2
            rw [Exit.noGoto_ret]
            go_ret2
            exact ⟨by rw [hr2.out]; rfl, hb5⟩
        · obtain rfl : gk = 2 := by omega
          have hc := Lib.hid (as_date (some ad) k c (ws.take k) wr hSr hltr hTr hlr)
          have hr1 := Lib.hid (show writeF (ws.take k) = if asF wDat (ws.take k) = [] then firstNE ((formsL (ws.take k)).drop (5 + 1)) else asF wDat (ws.take k) by rw [hr.out]; unfold formsL; simp only [List.drop_succ_cons, List.drop_zero]; conv => lhs; unfold firstNE)
          generalize asF wDat (ws.take k) = Z at *
          have hcell : wr.cell? ⟨g2, 5, none⟩ = some (.iface 119 (.agg #[])) := hBr.cell 5
          by_cases hZ : Z = []
          · subst hZ
            have hr2 := Lib.hid (show writeF (ws.take k) = firstNE ((formsL (ws.take k)).drop (5 + 1)) by rw [hr1.out, if_pos rfl])
            go_wp2_with fail
            refine hc.out.mono ?_
            rintro e9 x2 ⟨rfl, hb2⟩
            have hb5 := hbx.trans (hb2.mono hbxs)
            go_wp2
            go_roundg 1
            case measure => omega
            case rel => exact ⟨5 + 1, rfl, rfl, rfl, by go_num, hr2.out, hb5⟩
          · have hr2 := Lib.hid (show longF ws = (Z, k) by rw [hq1.out, hr1.out, if_neg hZ, if_neg hZ])
            have hZe : Z.isEmpty = false := by cases Z with | nil => exact absurd rfl hZ | cons a b => rfl
            go_wp2_with fail
            refine hc.out.mono ?_
            rintro e9 x2 ⟨rfl, hb2⟩
            have hb5 := hbw.trans (hb2.mono hbw.size)
            go_wp2
            rw [Exit.noGoto_ret]
            go_ret2
            exact ⟨by rw [hr2.out]; rfl, hb5⟩
        · obtain rfl : gk = 1 := by omega
          have hc := Lib.hid (as_money (some ad) k c (ws.take k) wr hSr hltr hTr hlr)
          have hr1 := Lib.hid (show writeF (ws.take k) = if asF wMon (ws.take k) = [] then firstNE ((formsL (ws.take k)).drop (6 + 1)) else asF wMon (ws.take k) by rw [hr.out]; unfold formsL; simp only [List.drop_succ_cons, List.drop_zero]; conv => lhs; unfold firstNE)
          generalize asF wMon (ws.take k) = Z at *
          have hcell : wr.cell? ⟨g2, 6, none⟩ = some (.iface 120 (.agg #[])) := hBr.cell 6
          by_cases hZ : Z = []
          · subst hZ
            have hr2 := Lib.hid (show writeF (ws.take k) = firstNE ((formsL (ws.take k)).drop (6 + 1)) by rw [hr1.out, if_pos rfl])
            go_wp2_with fail
            refine hc.out.mono ?_
            rintro e9 x2 ⟨rfl, hb2⟩
            have hb5 := hbx.trans (hb2.mono hbxs)
            go_wp2
            go_roundg 0
            case measure => omega
            case rel => exact ⟨6 + 1, rfl, rfl, rfl, by go_num, hr2.out, hb5⟩
          · have hr2 := Lib.hid (show longF ws = (Z, k) by rw [hq1.out, hr1.out, if_neg hZ, if_neg hZ])
            have hZe : Z.isEmpty = false := by cases Z with | nil => exact absurd rfl hZ | cons a b => rfl
            go_wp2_with fail
            refine hc.out.mono ?_
            rintro e9 x2 ⟨rfl, hb2⟩
            have hb5 := hbw.trans (hb2.mono hbw.size)
            go_wp2
            rw [Exit.noGoto_ret]
            go_ret2
            exact ⟨by rw [hr2.out]; rfl, hb5⟩
        · obtain rfl : gk = 0 := by omega
          have hr2 := Lib.hid (show longF ws = longN ws p by rw [hq1.out, hr.out]; rfl)
          go_wp2
          go_roundg p
          case measure => have := hgk.out; have := hpk.out; omega
          case rel => exact ⟨p, rfl, rfl, rfl, by go_num, hpm, hr2.out, hbw⟩
end Go.Proofs.YtpdfjlbfhnapkaaGreatDoor

/- WriteText. -/
namespace Go.Proofs.YtpdfjlbfhnapkaaGreatDoor
open Go.RowKit
set_option linter.unusedSimpArgs false
set_option linter.unusedVariables false
set_option maxRecDepth 100000

theorem longN_two (ws : List Str) : ∀ k, 1 ≤ (longN ws k).2 ∧ (longN ws k).2 ≤ max 1 k := by
  intro k
  induction k with
  | zero => exact ⟨Nat.le_refl _, Nat.le_refl _⟩
  | succ k ih =>
    unfold longN
    split
    · omega
    · simp only; omega
theorem longN_one (ws : List Str) : ∀ k, (longN ws k).1.length ≤ max 120 (ws.headD []).length := by
  intro k
  induction k with
  | zero => show (ws.headD []).length ≤ _; omega
  | succ k ih =>
    unfold longN
    split
    · exact ih
    · have := writeF_len (ws.take (k + 1)); simp only; omega
theorem longF_two {ws : List Str} (h : 0 < ws.length) : 1 ≤ (longF ws).2 ∧ (longF ws).2 ≤ ws.length := by
  have := longN_two ws (min ws.length 37)
  unfold longF
  omega
/-- the parts of which words are written -/
def wtN : Nat → List Str → List Str
  | 0, _ => []
  | k + 1, ws => if ws = [] then [] else (longF ws).1 :: wtN k (ws.drop (longF ws).2)
def wtF (ws : List Str) : List Str := wtN ws.length ws
theorem wtN_fuel : ∀ (k : Nat) (ws : List Str), ws.length ≤ k → ∀ j, ws.length ≤ j → wtN k ws = wtN j ws := by
  intro k
  induction k with
  | zero =>
    intro ws h j _
    have : ws = [] := List.length_eq_zero_iff.1 (by omega)
    subst this
    cases j with
    | zero => rfl
    | succ j => rfl
  | succ k ih =>
    intro ws h j hj
    cases ws with
    | nil => cases j <;> rfl
    | cons x xs =>
      have h1 := longF_two (ws := x :: xs) (by simp)
      have h2 : ((x :: xs).drop (longF (x :: xs)).2).length ≤ xs.length := by rw [List.length_drop]; simp only [List.length_cons]; omega
      cases j with
      | zero => simp at hj
      | succ j =>
        show (if (x :: xs) = [] then _ else _) = (if (x :: xs) = [] then _ else _)
        rw [if_neg (by simp), if_neg (by simp), ih _ (by simp at h; omega) j (by simp at hj; omega)]
theorem wtF_cons {ws : List Str} (h : 0 < ws.length) : wtF ws = (longF ws).1 :: wtF (ws.drop (longF ws).2) := by
  cases ws with
  | nil => simp at h
  | cons x xs =>
    have h1 := longF_two (ws := x :: xs) (by simp)
    show (if (x :: xs) = [] then [] else (longF (x :: xs)).1 :: wtN xs.length ((x :: xs).drop (longF (x :: xs)).2)) = _
    rw [if_neg (by simp)]
    congr 1
    exact wtN_fuel _ _ (by rw [List.length_drop]; simp only [List.length_cons]; omega) _ (Nat.le_refl _)
def wttF (s : Str) : Str × Int := if (wofF s).2 = 0 then (joinW (wtF (wofF s).1), 0) else ([], (wofF s).2)
theorem wofF_short {s : Str} : Shw (wofF s).1 ∧ (wofF s).1.length ≤ 2001 ∧ ∀ x ∈ (wofF s).1, x.length ≤ 2000 := by
  unfold wofF
  split
  · exact ⟨⟨by simp, fun x hx => by simp at hx⟩, by simp, fun x hx => by simp at hx⟩
  · split
    · exact ⟨⟨by simp, fun x hx => by simp at hx⟩, by simp, fun x hx => by simp at hx⟩
    · split
      · rename_i h _ _
        exact ⟨spl_shw (by omega), by have := (spl_len s).1; simp only; omega, fun x hx => by have := spl_short s x hx; omega⟩
      · exact ⟨⟨by simp, fun x hx => by simp at hx⟩, by simp, fun x hx => by simp at hx⟩
set_option maxHeartbeats 8000000 in
theorem WriteText_any (s : Str) (w : World) (hT : WT w) : Calls Tryz.prog 36 #[.string ⟨s.toArray⟩] w fun e w' => e = .returned (.tuple #[.string ⟨(wttF s).1.toArray⟩, .int .i64 (wttF s).2]) ∧ Below w.heap.size w w' := by
  obtain ⟨i0, hi, hz0, hz1, hz2⟩ := info_parts info_str
  have hwo := Lib.hid (wordsOf_any s w hT)
  have hk := Lib.hid (show wttF s = if (wofF s).2 = 0 then (joinW (wtF (wofF s).1), 0) else ([], (wofF s).2) from rfl)
  obtain ⟨hsh, hs1, hs2⟩ := wofF_short (s := s)
  unfold RetWO at hwo
  obtain ⟨ws, code, hr⟩ := pair_eta (wofF s)
  rw [hr] at hwo hk hsh hs1 hs2
  simp only at hwo hk hsh hs1 hs2
  clear hr
  by_cases hc : code = 0
  · subst hc
    have hk2 := Lib.hid (show wttF s = (joinW (wtF ws), 0) by rw [hk.out, if_pos rfl])
    go_enter Tryz.func36, Tryz.ntmps36
    go_wp2_with fail
    refine hwo.out.mono ?_
    rintro e w2 ⟨A, c, rfl, hS, hlt, hb⟩
    have hb0 := Below.refl w2.heap.size w2
    have hbz := hb.size
    obtain ⟨n, hn⟩ : ∃ n, ws.length = n := ⟨_, rfl⟩
    rw [hn] at hS hs1 ⊢
    clear hn
    go_wp2
    go_loopg [4, 6] n (fun gg wv Vv wr' => ∃ (A : Option Addr) (m c : Nat) (rs ps : List Str) (V : Value) (wr : World), wr = wr' ∧ V = Vv ∧ Hid (gg = m) ∧ wv = .slice A m c ∧ Ss wr A m c rs ∧ (∀ ad, A = some ad → ad.block < w2.heap.size) ∧ Hid (wtF ws = ps ++ wtF rs) ∧ ps.length + m ≤ n ∧ Hid (∀ x ∈ ps, x.length ≤ 2000) ∧ Hid (∀ x ∈ rs, x.length ≤ 2000) ∧ wr.ownsRow w2.heap.size 9 1 V ps.length (svs ps) ∧ Below w2.heap.size w2 wr)
    case atStart => exact ⟨A, n, c, ws, [], _, _, rfl, rfl, rfl, rfl, hS, hlt, rfl, by simp, (fun x hx => by cases hx), hs2, World.ownsRow_nil _ _ _ _, Below.refl _ _⟩
    case round =>
      obtain ⟨A, m, c, rs, ps, V, wr, rfl, rfl, hg, rfl, hS, hlt, hq, hpm, hps, hrs, hO, hbel⟩ := hrel
      have hml := hS.len
      have hbs := hbel.size
      have hbw := hb.trans (hbel.mono hbz)
      rcases Nat.eq_zero_or_pos m with hm0 | hm0
      · subst hm0
        have hr0 : rs = [] := List.length_eq_zero_iff.1 hml
        have hq2 := Lib.hid (show wttF s = (joinW ps, 0) by rw [hk2.out, hq.out, hr0]; show (joinW (ps ++ []), _) = _; rw [List.append_nil])
        have hj := Lib.hid (join_any ps V w2.heap.size wr hO (by have h8 := joinW_len hps.out; have : ps.length * 2001 ≤ 3000 * 2001 := Nat.mul_le_mul_right _ (by omega); omega) (by omega))
        clear hml hr0
        go_wp2_with fail
        refine hj.out.mono ?_
        rintro e9 x9 ⟨rfl, hx9⟩
        go_wp2
        go_ret2
        exact ⟨by rw [hq2.out]; rfl, hbw.trans (hx9.mono hbw.size)⟩
      · obtain ⟨ad0, hA, _⟩ := hS.cell hm0
        subst hA
        have hlb : ad0.block < wr.heap.size := Nat.lt_of_lt_of_le (hlt ad0 rfl) hbs
        have hshr : Shw rs := ⟨by rw [hml]; omega, fun x hx => by have := hrs.out x hx; omega⟩
        have hl2 := longF_two (ws := rs) (by omega)
        have hl1 := longN_one rs (min rs.length 37)
        have hl3 : (longF rs).1.length ≤ 2000 := by
          have h9 : (rs.headD []).length ≤ 2000 := by
            cases rs with
            | nil => simp
            | cons a b => exact hrs.out a List.mem_cons_self
          have : (longF rs).1.length ≤ max 120 (rs.headD []).length := hl1
          omega
        have hq2 := Lib.hid (show wtF ws = (ps ++ [(longF rs).1]) ++ wtF (rs.drop (longF rs).2) by rw [hq.out, wtF_cons (by omega : 0 < rs.length)]; simp)
        have hlg := Lib.hid (longest_any ad0 m c rs wr hS hm0 hlb (hT.below hbw) hshr)
        obtain ⟨part, tk, hr⟩ := pair_eta (longF rs)
        rw [hr] at hlg hl2 hl3 hq2
        simp only at hlg hl2 hl3 hq2
        clear hr hl1
        have g0 : (0 : Int) < (m : Int) := by omega
        have g1 : decide ((0 : Int) < (m : Int)) = true := decide_eq_true g0
        have hcap := hS.cap
        have g2 : (0 : Int) ≤ (tk : Int) := by omega
        have g3 : (tk : Int) ≤ (m : Int) := by omega
        have g4 : tk ≤ m := by omega
        have hps2 := Lib.hid (show ∀ x ∈ ps ++ [part], x.length ≤ 2000 from fun x hx => by
          rcases List.mem_append.1 hx with h9 | h9
          · exact hps.out x h9
          · rw [List.mem_singleton] at h9; subst h9; exact hl3)
        have hrs2 := Lib.hid (show ∀ x ∈ rs.drop tk, x.length ≤ 2000 from fun x hx => hrs.out x (List.mem_of_mem_drop hx))
        clear hml
        go_wp2_with fail
        refine hlg.out.mono ?_
        rintro e9 x3 ⟨rfl, hx3⟩
        have hb3 := hbel.trans (hx3.mono hbs)
        have hO3 := own_below hO hx3
        have hAl := (Below.refl x3.heap.size x3).alloc (Nat.le_refl _) (.cells #[.string ⟨part.toArray⟩] 9)
        have hOl := own_below hO3 hAl
        have hSL := src_lit (x := part) (Blk.new x3 9 #[.string ⟨part.toArray⟩])
        have hbl := hb3.trans (hAl.mono hb3.size)
        by_cases hck : c = tk
        · subst hck
          have hck0 := Lib.hid (rfl : c = c)
          go_wp2_with (at_builtin; refine wpList_append_any rfl (.tmp 25) (.tmp 27) 32 rfl w2.heap.size 9 i0 (.string ⟨#[]⟩) 1 16 Tryz.underlying32 hi hz0 hz1 hz2 rfl (by decide) V ps.length (svs ps) rfl hOl _ 1 1 (svs [part]) rfl hSL (by unfold maxLen; omega) (by omega) hbl.size ?_; intro V6 x6 hOx hGx hZx; clear hZx)
          have hb6 : Below w2.heap.size w2 x6 := bel_grown2 hbl hGx (fun k9 e => (hOl.lt k9 e).1)
          have hO6 := own_app hOx rfl rfl
          have hS6 : Ss x6 (some ad0) m c rs := hS.keep (fun p hp hp2 => by
            have h7 := hp2 ad0 rfl
            have h8 : p.block < w2.heap.size := by rw [h7]; exact hlt ad0 rfl
            exact (hb6.cell h8).trans (hbel.cell h8).symm)
          have hcut := hS6.cut g4
          have hpl : (ps ++ [part]).length + (m - c) ≤ n := by rw [List.length_append]; simp; omega
          generalize ps ++ [part] = ps2 at *
          generalize rs.drop c = rs2 at *
          clear hOx hGx hS6 hSL
          have hmc : m - c = 0 := by omega
          rw [if_pos rfl, Nat.sub_self, hmc] at hcut
          rw [hmc] at hpl
          go_roundg 0
          case measure => have := hg.out; omega
          case rel => exact ⟨some ad0, 0, 0, rs2, ps2, _, _, rfl, rfl, rfl, rfl, hcut, hlt, hq2.out, hpl, hps2.out, hrs2.out, hO6, hb6⟩
        · skip
          go_wp2_with (at_builtin; refine wpList_append_any rfl (.tmp 25) (.tmp 27) 32 rfl w2.heap.size 9 i0 (.string ⟨#[]⟩) 1 16 Tryz.underlying32 hi hz0 hz1 hz2 rfl (by decide) V ps.length (svs ps) rfl hOl _ 1 1 (svs [part]) rfl hSL (by unfold maxLen; omega) (by omega) hbl.size ?_; intro V6 x6 hOx hGx hZx; clear hZx)
          have hb6 : Below w2.heap.size w2 x6 := bel_grown2 hbl hGx (fun k9 e => (hOl.lt k9 e).1)
          have hO6 := own_app hOx rfl rfl
          have hS6 : Ss x6 (some ad0) m c rs := hS.keep (fun p hp hp2 => by
            have h7 := hp2 ad0 rfl
            have h8 : p.block < w2.heap.size := by rw [h7]; exact hlt ad0 rfl
            exact (hb6.cell h8).trans (hbel.cell h8).symm)
          have hcut := hS6.cut g4
          have hpl : (ps ++ [part]).length + (m - tk) ≤ n := by rw [List.length_append]; simp; omega
          generalize ps ++ [part] = ps2 at *
          generalize rs.drop tk = rs2 at *
          clear hOx hGx hS6 hSL
          rw [if_neg hck] at hcut
          go_roundg (m - tk)
          case measure => have := hg.out; omega
          case rel => exact ⟨some (ad0.add tk), m - tk, c - tk, rs2, ps2, _, _, rfl, rfl, rfl, rfl, hcut, (fun a2 e2 => by injection e2 with e2; subst e2; rw [block_of_add]; exact hlt ad0 rfl), hq2.out, hpl, hps2.out, hrs2.out, hO6, hb6⟩
  · have hk2 := Lib.hid (show wttF s = ([], code) by rw [hk.out, if_neg hc])
    have hc1 : (code == 0) = false := by rw [beq_eq_false_iff_ne]; exact hc
    go_enter Tryz.func36, Tryz.ntmps36
    go_wp2_with fail
    refine hwo.out.mono ?_
    rintro e w2 ⟨A, c, rfl, hS, hlt, hb⟩
    go_wp2
    go_ret2
    exact ⟨by rw [hk2.out]; rfl, hb⟩
end Go.Proofs.YtpdfjlbfhnapkaaGreatDoor
