/- A written form is spoken. -/
import Derived.Test.YtpdfjlbfhnapkaaGreatDoorTI
namespace Go.Proofs.YtpdfjlbfhnapkaaGreatDoor
open Go.RowKit
set_option linter.unusedSimpArgs false
set_option linter.unusedVariables false
set_option maxRecDepth 100000

/-- the first that is not empty, and its number -/
def firstW : List (List Str) → Nat → List Str × Nat
  | [], _ => ([], 0)
  | x :: xs, k => if x = [] then firstW xs (k + 1) else (x, k)
def sayL (sh : Str) (ns : List Str) : List (List Str) := [kNum sh ns, kOrd sh ns, kDig sh ns, kDec sh ns, kClk sh ns, kDat sh ns, kMny sh ns]
def speakF (sh : Str) (ns : List Str) : List Str × Nat := firstW (sayL sh ns) 1
def RetSp (s : Str) (w : World) (e : Ending) (w' : World) : Prop := ∃ V sh ns, CutQ s sh ns ∧ e = .returned (.tuple #[V, .int .i64 (((speakF sh ns).2 : Nat) : Int)]) ∧ w'.ownsRow w.heap.size 9 1 V (speakF sh ns).1.length (svs (speakF sh ns).1) ∧ Below w.heap.size w w'
set_option maxHeartbeats 8000000 in
theorem speak_any (s : Str) (hsl : s.length ≤ 2000) (w : World) (hT : WT w) :
    Calls Tryz.prog 48 #[.string ⟨s.toArray⟩] w (RetSp s w) := by
  have hct := Lib.hid (cut_any s hsl w)
  go_enter Tryz.func48, Tryz.ntmps48
  go_wp2_with fail
  refine hct.out.mono ?_
  rintro e w1 ⟨A, c, sh, ns, rfl, hQ, hS1, hb1⟩
  have hPi := hQ.pi
  have hA1 := (Below.refl w1.heap.size w1).alloc (Nat.le_refl _) (.cells #[.string ⟨sh.toArray⟩, .slice A ns.length c] 87)
  have hB1 := Blk.new w1 87 #[.string ⟨sh.toArray⟩, .slice A ns.length c]
  have hS2 := hS1.below hA1
  have hb2 := hb1.trans (hA1.mono hb1.size)
  go_wp2_with fail
  generalize w1.alloc (.cells #[.string ⟨sh.toArray⟩, .slice A ns.length c] 87) = w2 at *
  generalize w1.heap.size = g1 at *
  clear hA1 hS1 hb1
  have hA2 := (Below.refl w2.heap.size w2).alloc (Nat.le_refl _) (.cells #[.iface 72 (.agg #[]), .iface 115 (.agg #[]), .iface 116 (.agg #[]), .iface 117 (.agg #[]), .iface 118 (.agg #[]), .iface 119 (.agg #[]), .iface 120 (.agg #[])] 92)
  refine (forms_any w2).mono ?_
  rintro e w3 ⟨rfl, hw3⟩
  rw [← hw3] at hA2
  have hB3 : Blk w3 w2.heap.size 92 #[.iface 72 (.agg #[]), .iface 115 (.agg #[]), .iface 116 (.agg #[]), .iface 117 (.agg #[]), .iface 118 (.agg #[]), .iface 119 (.agg #[]), .iface 120 (.agg #[])] := by rw [hw3]; exact Blk.new _ _ _
  have hB2 := hB1.below hA2
  have hS3 := hS2.below hA2
  have hb3 := hb2.trans (hA2.mono hb2.size)
  clear hw3 hA2 hB1 hS2 hb2
  generalize w2.heap.size = g2 at *
  go_wp2
  go_loopw [12] (fun iv wr' => ∃ (j : Nat) (wr : World), wr = wr' ∧ iv = .int .i64 (j : Int) ∧ j ≤ 7 ∧ Hid (speakF sh ns = firstW ((sayL sh ns).drop j) (j + 1)) ∧ Below w3.heap.size w3 wr) (fun iv _ => 7 - (intOf iv).toNat)
  case atStart => exact ⟨0, _, rfl, rfl, by decide, rfl, Below.refl _ _⟩
  case round =>
    obtain ⟨j, wr, rfl, rfl, hj, hq, hbel⟩ := hrel
    have hBp := hB2.below hbel
    have hBr := hB3.below hbel
    have hbw := hb3.trans (hbel.mono hb3.size)
    have hSr := hS3.below hbel
    have hTr := hT.below hbw
    have hbs := hbel.size
    have p0 := hBp.cell 0
    have p1 := hBp.cell 1
    have p0' : wr.cell? ⟨g1, 0, none⟩ = some (.string ⟨sh.toArray⟩) := p0
    have p1' : wr.cell? ⟨g1, 1, none⟩ = some (.slice A ns.length c) := p1
    clear p0 p1
    rcases (show j = 0 ∨ j = 1 ∨ j = 2 ∨ j = 3 ∨ j = 4 ∨ j = 5 ∨ j = 6 ∨ j = 7 by omega) with rfl | rfl | rfl | rfl | rfl | rfl | rfl | rfl
    · have hc := Lib.hid (numberSay_any sh ns A c wr hTr hSr hPi)
      have hkd := Lib.hid (fun w9 : World => numberKind_any w9)
      have hq1 := Lib.hid (show speakF sh ns = if kNum sh ns = [] then firstW ((sayL sh ns).drop (0 + 1)) (0 + 1 + 1) else (kNum sh ns, 0 + 1) by rw [hq.out]; unfold sayL; simp only [List.drop_succ_cons, List.drop_zero]; conv => lhs; unfold firstW)
      generalize kNum sh ns = Z at *
      have hcell : wr.cell? ⟨g2, 0, none⟩ = some (.iface 72 (.agg #[])) := hBr.cell 0
      by_cases hZ : Z = []
      · subst hZ
        have hq2 := Lib.hid (show speakF sh ns = firstW ((sayL sh ns).drop (0 + 1)) (0 + 1 + 1) by rw [hq1.out, if_pos rfl])
        go_wp2_with fail
        refine hc.out.mono ?_
        rintro e x2 ⟨V, rfl, hO, hx2⟩
        obtain ⟨A9, c9, rfl, hS9⟩ := Src.of_own hO (oneCell_svs [])
        have hb4 := hbel.trans (hx2.mono hbs)
        go_wp2
        exact ⟨⟨0 + 1, _, rfl, rfl, by decide, hq2.out, hb4⟩, by simp [intOf]⟩
      · have hq2 := Lib.hid (show speakF sh ns = (Z, 0 + 1) by rw [hq1.out, if_neg hZ])
        obtain ⟨n, hn⟩ : ∃ n, Z.length = n := ⟨_, rfl⟩
        have hn0 : 0 < n := by rw [← hn]; cases Z with | nil => exact absurd rfl hZ | cons a b => simp
        have e0 : decide ((0 : Int) < (n : Int)) = true := decide_eq_true (by omega)
        have e1 : (0 : Int) < (n : Int) := by omega
        have hlN := Lib.hid hn
        go_wp2_with fail
        refine hc.out.mono ?_
        rintro e x2 ⟨V, rfl, hO, hx2⟩
        obtain ⟨A9, c9, rfl, hS9⟩ := Src.of_own hO (oneCell_svs Z)
        have hb4 := hbw.trans (hx2.mono hbw.size)
        rw [hn] at hO
        rw [hn]
        clear hn hZ hS9
        go_wp2_with fail
        refine (hkd.out _).mono ?_
        rintro e x3 ⟨rfl, hx3⟩
        have hO3 := own_mono (own_below hO hx3) hbw.size
        have hb5 := hb4.trans (hx3.mono hb4.size)
        go_wp2
        go_ret2
        refine ⟨.slice A9 n c9, sh, ns, hQ, ?_, ?_, hb5⟩
        · rw [hq2.out]; rfl
        · rw [hq2.out]
          show World.ownsRow _ _ _ _ _ Z.length _
          rw [hlN.out]
          exact hO3
    · have hc := Lib.hid (ordinalSay_any sh ns A c wr hTr hSr hPi)
      have hkd := Lib.hid (fun w9 : World => ordinalKind_any w9)
      have hq1 := Lib.hid (show speakF sh ns = if kOrd sh ns = [] then firstW ((sayL sh ns).drop (1 + 1)) (1 + 1 + 1) else (kOrd sh ns, 1 + 1) by rw [hq.out]; unfold sayL; simp only [List.drop_succ_cons, List.drop_zero]; conv => lhs; unfold firstW)
      generalize kOrd sh ns = Z at *
      have hcell : wr.cell? ⟨g2, 1, none⟩ = some (.iface 115 (.agg #[])) := hBr.cell 1
      by_cases hZ : Z = []
      · subst hZ
        have hq2 := Lib.hid (show speakF sh ns = firstW ((sayL sh ns).drop (1 + 1)) (1 + 1 + 1) by rw [hq1.out, if_pos rfl])
        go_wp2_with fail
        refine hc.out.mono ?_
        rintro e x2 ⟨V, rfl, hO, hx2⟩
        obtain ⟨A9, c9, rfl, hS9⟩ := Src.of_own hO (oneCell_svs [])
        have hb4 := hbel.trans (hx2.mono hbs)
        go_wp2
        exact ⟨⟨1 + 1, _, rfl, rfl, by decide, hq2.out, hb4⟩, by simp [intOf]⟩
      · have hq2 := Lib.hid (show speakF sh ns = (Z, 1 + 1) by rw [hq1.out, if_neg hZ])
        obtain ⟨n, hn⟩ : ∃ n, Z.length = n := ⟨_, rfl⟩
        have hn0 : 0 < n := by rw [← hn]; cases Z with | nil => exact absurd rfl hZ | cons a b => simp
        have e0 : decide ((0 : Int) < (n : Int)) = true := decide_eq_true (by omega)
        have e1 : (0 : Int) < (n : Int) := by omega
        have hlN := Lib.hid hn
        go_wp2_with fail
        refine hc.out.mono ?_
        rintro e x2 ⟨V, rfl, hO, hx2⟩
        obtain ⟨A9, c9, rfl, hS9⟩ := Src.of_own hO (oneCell_svs Z)
        have hb4 := hbw.trans (hx2.mono hbw.size)
        rw [hn] at hO
        rw [hn]
        clear hn hZ hS9
        go_wp2_with fail
        refine (hkd.out _).mono ?_
        rintro e x3 ⟨rfl, hx3⟩
        have hO3 := own_mono (own_below hO hx3) hbw.size
        have hb5 := hb4.trans (hx3.mono hb4.size)
        go_wp2
        go_ret2
        refine ⟨.slice A9 n c9, sh, ns, hQ, ?_, ?_, hb5⟩
        · rw [hq2.out]; rfl
        · rw [hq2.out]
          show World.ownsRow _ _ _ _ _ Z.length _
          rw [hlN.out]
          exact hO3
    · have hc := Lib.hid (digitsSay_any sh ns A c wr hTr hSr hPi)
      have hkd := Lib.hid (fun w9 : World => digitsKind_any w9)
      have hq1 := Lib.hid (show speakF sh ns = if kDig sh ns = [] then firstW ((sayL sh ns).drop (2 + 1)) (2 + 1 + 1) else (kDig sh ns, 2 + 1) by rw [hq.out]; unfold sayL; simp only [List.drop_succ_cons, List.drop_zero]; conv => lhs; unfold firstW)
      generalize kDig sh ns = Z at *
      have hcell : wr.cell? ⟨g2, 2, none⟩ = some (.iface 116 (.agg #[])) := hBr.cell 2
      by_cases hZ : Z = []
      · subst hZ
        have hq2 := Lib.hid (show speakF sh ns = firstW ((sayL sh ns).drop (2 + 1)) (2 + 1 + 1) by rw [hq1.out, if_pos rfl])
        go_wp2_with fail
        refine hc.out.mono ?_
        rintro e x2 ⟨V, rfl, hO, hx2⟩
        obtain ⟨A9, c9, rfl, hS9⟩ := Src.of_own hO (oneCell_svs [])
        have hb4 := hbel.trans (hx2.mono hbs)
        go_wp2
        exact ⟨⟨2 + 1, _, rfl, rfl, by decide, hq2.out, hb4⟩, by simp [intOf]⟩
      · have hq2 := Lib.hid (show speakF sh ns = (Z, 2 + 1) by rw [hq1.out, if_neg hZ])
        obtain ⟨n, hn⟩ : ∃ n, Z.length = n := ⟨_, rfl⟩
        have hn0 : 0 < n := by rw [← hn]; cases Z with | nil => exact absurd rfl hZ | cons a b => simp
        have e0 : decide ((0 : Int) < (n : Int)) = true := decide_eq_true (by omega)
        have e1 : (0 : Int) < (n : Int) := by omega
        have hlN := Lib.hid hn
        go_wp2_with fail
        refine hc.out.mono ?_
        rintro e x2 ⟨V, rfl, hO, hx2⟩
        obtain ⟨A9, c9, rfl, hS9⟩ := Src.of_own hO (oneCell_svs Z)
        have hb4 := hbw.trans (hx2.mono hbw.size)
        rw [hn] at hO
        rw [hn]
        clear hn hZ hS9
        go_wp2_with fail
        refine (hkd.out _).mono ?_
        rintro e x3 ⟨rfl, hx3⟩
        have hO3 := own_mono (own_below hO hx3) hbw.size
        have hb5 := hb4.trans (hx3.mono hb4.size)
        go_wp2
        go_ret2
        refine ⟨.slice A9 n c9, sh, ns, hQ, ?_, ?_, hb5⟩
        · rw [hq2.out]; rfl
        · rw [hq2.out]
          show World.ownsRow _ _ _ _ _ Z.length _
          rw [hlN.out]
          exact hO3
    · have hc := Lib.hid (decimalSay_any sh ns A c wr hTr hSr hPi)
      have hkd := Lib.hid (fun w9 : World => decimalKind_any w9)
      have hq1 := Lib.hid (show speakF sh ns = if kDec sh ns = [] then firstW ((sayL sh ns).drop (3 + 1)) (3 + 1 + 1) else (kDec sh ns, 3 + 1) by rw [hq.out]; unfold sayL; simp only [List.drop_succ_cons, List.drop_zero]; conv => lhs; unfold firstW)
      generalize kDec sh ns = Z at *
      have hcell : wr.cell? ⟨g2, 3, none⟩ = some (.iface 117 (.agg #[])) := hBr.cell 3
      by_cases hZ : Z = []
      · subst hZ
        have hq2 := Lib.hid (show speakF sh ns = firstW ((sayL sh ns).drop (3 + 1)) (3 + 1 + 1) by rw [hq1.out, if_pos rfl])
        go_wp2_with fail
        refine hc.out.mono ?_
        rintro e x2 ⟨V, rfl, hO, hx2⟩
        obtain ⟨A9, c9, rfl, hS9⟩ := Src.of_own hO (oneCell_svs [])
        have hb4 := hbel.trans (hx2.mono hbs)
        go_wp2
        exact ⟨⟨3 + 1, _, rfl, rfl, by decide, hq2.out, hb4⟩, by simp [intOf]⟩
      · have hq2 := Lib.hid (show speakF sh ns = (Z, 3 + 1) by rw [hq1.out, if_neg hZ])
        obtain ⟨n, hn⟩ : ∃ n, Z.length = n := ⟨_, rfl⟩
        have hn0 : 0 < n := by rw [← hn]; cases Z with | nil => exact absurd rfl hZ | cons a b => simp
        have e0 : decide ((0 : Int) < (n : Int)) = true := decide_eq_true (by omega)
        have e1 : (0 : Int) < (n : Int) := by omega
        have hlN := Lib.hid hn
        go_wp2_with fail
        refine hc.out.mono ?_
        rintro e x2 ⟨V, rfl, hO, hx2⟩
        obtain ⟨A9, c9, rfl, hS9⟩ := Src.of_own hO (oneCell_svs Z)
        have hb4 := hbw.trans (hx2.mono hbw.size)
        rw [hn] at hO
        rw [hn]
        clear hn hZ hS9
        go_wp2_with fail
        refine (hkd.out _).mono ?_
        rintro e x3 ⟨rfl, hx3⟩
        have hO3 := own_mono (own_below hO hx3) hbw.size
        have hb5 := hb4.trans (hx3.mono hb4.size)
        go_wp2
        go_ret2
        refine ⟨.slice A9 n c9, sh, ns, hQ, ?_, ?_, hb5⟩
        · rw [hq2.out]; rfl
        · rw [hq2.out]
          show World.ownsRow _ _ _ _ _ Z.length _
          rw [hlN.out]
          exact hO3
    · have hc := Lib.hid (clockSay_any sh ns A c wr hTr hSr hPi)
      have hkd := Lib.hid (fun w9 : World => clockKind_any w9)
      have hq1 := Lib.hid (show speakF sh ns = if kClk sh ns = [] then firstW ((sayL sh ns).drop (4 + 1)) (4 + 1 + 1) else (kClk sh ns, 4 + 1) by rw [hq.out]; unfold sayL; simp only [List.drop_succ_cons, List.drop_zero]; conv => lhs; unfold firstW)
      generalize kClk sh ns = Z at *
      have hcell : wr.cell? ⟨g2, 4, none⟩ = some (.iface 118 (.agg #[])) := hBr.cell 4
      by_cases hZ : Z = []
      · subst hZ
        have hq2 := Lib.hid (show speakF sh ns = firstW ((sayL sh ns).drop (4 + 1)) (4 + 1 + 1) by rw [hq1.out, if_pos rfl])
        go_wp2_with fail
        refine hc.out.mono ?_
        rintro e x2 ⟨V, rfl, hO, hx2⟩
        obtain ⟨A9, c9, rfl, hS9⟩ := Src.of_own hO (oneCell_svs [])
        have hb4 := hbel.trans (hx2.mono hbs)
        go_wp2
        exact ⟨⟨4 + 1, _, rfl, rfl, by decide, hq2.out, hb4⟩, by simp [intOf]⟩
      · have hq2 := Lib.hid (show speakF sh ns = (Z, 4 + 1) by rw [hq1.out, if_neg hZ])
        obtain ⟨n, hn⟩ : ∃ n, Z.length = n := ⟨_, rfl⟩
        have hn0 : 0 < n := by rw [← hn]; cases Z with | nil => exact absurd rfl hZ | cons a b => simp
        have e0 : decide ((0 : Int) < (n : Int)) = true := decide_eq_true (by omega)
        have e1 : (0 : Int) < (n : Int) := by omega
        have hlN := Lib.hid hn
        go_wp2_with fail
        refine hc.out.mono ?_
        rintro e x2 ⟨V, rfl, hO, hx2⟩
        obtain ⟨A9, c9, rfl, hS9⟩ := Src.of_own hO (oneCell_svs Z)
        have hb4 := hbw.trans (hx2.mono hbw.size)
        rw [hn] at hO
        rw [hn]
        clear hn hZ hS9
        go_wp2_with fail
        refine (hkd.out _).mono ?_
        rintro e x3 ⟨rfl, hx3⟩
        have hO3 := own_mono (own_below hO hx3) hbw.size
        have hb5 := hb4.trans (hx3.mono hb4.size)
        go_wp2
        go_ret2
        refine ⟨.slice A9 n c9, sh, ns, hQ, ?_, ?_, hb5⟩
        · rw [hq2.out]; rfl
        · rw [hq2.out]
          show World.ownsRow _ _ _ _ _ Z.length _
          rw [hlN.out]
          exact hO3
    · have hc := Lib.hid (dateSay_any sh ns A c wr hTr hSr hPi)
      have hkd := Lib.hid (fun w9 : World => dateKind_any w9)
      have hq1 := Lib.hid (show speakF sh ns = if kDat sh ns = [] then firstW ((sayL sh ns).drop (5 + 1)) (5 + 1 + 1) else (kDat sh ns, 5 + 1) by rw [hq.out]; unfold sayL; simp only [List.drop_succ_cons, List.drop_zero]; conv => lhs; unfold firstW)
      generalize kDat sh ns = Z at *
      have hcell : wr.cell? ⟨g2, 5, none⟩ = some (.iface 119 (.agg #[])) := hBr.cell 5
      by_cases hZ : Z = []
      · subst hZ
        have hq2 := Lib.hid (show speakF sh ns = firstW ((sayL sh ns).drop (5 + 1)) (5 + 1 + 1) by rw [hq1.out, if_pos rfl])
        go_wp2_with fail
        refine hc.out.mono ?_
        rintro e x2 ⟨V, rfl, hO, hx2⟩
        obtain ⟨A9, c9, rfl, hS9⟩ := Src.of_own hO (oneCell_svs [])
        have hb4 := hbel.trans (hx2.mono hbs)
        go_wp2
        exact ⟨⟨5 + 1, _, rfl, rfl, by decide, hq2.out, hb4⟩, by simp [intOf]⟩
      · have hq2 := Lib.hid (show speakF sh ns = (Z, 5 + 1) by rw [hq1.out, if_neg hZ])
        obtain ⟨n, hn⟩ : ∃ n, Z.length = n := ⟨_, rfl⟩
        have hn0 : 0 < n := by rw [← hn]; cases Z with | nil => exact absurd rfl hZ | cons a b => simp
        have e0 : decide ((0 : Int) < (n : Int)) = true := decide_eq_true (by omega)
        have e1 : (0 : Int) < (n : Int) := by omega
        have hlN := Lib.hid hn
        go_wp2_with fail
        refine hc.out.mono ?_
        rintro e x2 ⟨V, rfl, hO, hx2⟩
        obtain ⟨A9, c9, rfl, hS9⟩ := Src.of_own hO (oneCell_svs Z)
        have hb4 := hbw.trans (hx2.mono hbw.size)
        rw [hn] at hO
        rw [hn]
        clear hn hZ hS9
        go_wp2_with fail
        refine (hkd.out _).mono ?_
        rintro e x3 ⟨rfl, hx3⟩
        have hO3 := own_mono (own_below hO hx3) hbw.size
        have hb5 := hb4.trans (hx3.mono hb4.size)
        go_wp2
        go_ret2
        refine ⟨.slice A9 n c9, sh, ns, hQ, ?_, ?_, hb5⟩
        · rw [hq2.out]; rfl
        · rw [hq2.out]
          show World.ownsRow _ _ _ _ _ Z.length _
          rw [hlN.out]
          exact hO3
    · have hc := Lib.hid (moneySay_any sh ns A c wr hTr hSr hPi)
      have hkd := Lib.hid (fun w9 : World => moneyKind_any w9)
      have hq1 := Lib.hid (show speakF sh ns = if kMny sh ns = [] then firstW ((sayL sh ns).drop (6 + 1)) (6 + 1 + 1) else (kMny sh ns, 6 + 1) by rw [hq.out]; unfold sayL; simp only [List.drop_succ_cons, List.drop_zero]; conv => lhs; unfold firstW)
      generalize kMny sh ns = Z at *
      have hcell : wr.cell? ⟨g2, 6, none⟩ = some (.iface 120 (.agg #[])) := hBr.cell 6
      by_cases hZ : Z = []
      · subst hZ
        have hq2 := Lib.hid (show speakF sh ns = firstW ((sayL sh ns).drop (6 + 1)) (6 + 1 + 1) by rw [hq1.out, if_pos rfl])
        go_wp2_with fail
        refine hc.out.mono ?_
        rintro e x2 ⟨V, rfl, hO, hx2⟩
        obtain ⟨A9, c9, rfl, hS9⟩ := Src.of_own hO (oneCell_svs [])
        have hb4 := hbel.trans (hx2.mono hbs)
        go_wp2
        exact ⟨⟨6 + 1, _, rfl, rfl, by decide, hq2.out, hb4⟩, by simp [intOf]⟩
      · have hq2 := Lib.hid (show speakF sh ns = (Z, 6 + 1) by rw [hq1.out, if_neg hZ])
        obtain ⟨n, hn⟩ : ∃ n, Z.length = n := ⟨_, rfl⟩
        have hn0 : 0 < n := by rw [← hn]; cases Z with | nil => exact absurd rfl hZ | cons a b => simp
        have e0 : decide ((0 : Int) < (n : Int)) = true := decide_eq_true (by omega)
        have e1 : (0 : Int) < (n : Int) := by omega
        have hlN := Lib.hid hn
        go_wp2_with fail
        refine hc.out.mono ?_
        rintro e x2 ⟨V, rfl, hO, hx2⟩
        obtain ⟨A9, c9, rfl, hS9⟩ := Src.of_own hO (oneCell_svs Z)
        have hb4 := hbw.trans (hx2.mono hbw.size)
        rw [hn] at hO
        rw [hn]
        clear hn hZ hS9
        go_wp2_with fail
        refine (hkd.out _).mono ?_
        rintro e x3 ⟨rfl, hx3⟩
        have hO3 := own_mono (own_below hO hx3) hbw.size
        have hb5 := hb4.trans (hx3.mono hb4.size)
        go_wp2
        go_ret2
        refine ⟨.slice A9 n c9, sh, ns, hQ, ?_, ?_, hb5⟩
        · rw [hq2.out]; rfl
        · rw [hq2.out]
          show World.ownsRow _ _ _ _ _ Z.length _
          rw [hlN.out]
          exact hO3
    · have hq2 := Lib.hid (show speakF sh ns = ([], 0) from hq.out)
      go_wp2
      go_ret2
      refine ⟨.slice none 0 0, sh, ns, hQ, ?_, ?_, hbw⟩
      · rw [hq2.out]; rfl
      · rw [hq2.out]
        exact World.ownsRow_nil _ _ _ _
end Go.Proofs.YtpdfjlbfhnapkaaGreatDoor
