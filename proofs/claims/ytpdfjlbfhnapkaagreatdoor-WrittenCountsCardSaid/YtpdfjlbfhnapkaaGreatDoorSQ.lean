/- Words, written as forms of each kind. -/
import Derived.Test.YtpdfjlbfhnapkaaGreatDoorSN
import Derived.Lib.SplitLaws
namespace Go.Proofs.YtpdfjlbfhnapkaaGreatDoor
open Go.RowKit
set_option linter.unusedVariables false
set_option linter.unusedSimpArgs false

/-- what a kind writes of words, if it takes all of them -/
def asF (F : List Str → Str × List Str) (ws : List Str) : Str := if (F ws).2 = [] then (F ws).1 else []

set_option maxRecDepth 100000 in
set_option maxHeartbeats 4000000 in
theorem as_number (A : Option Addr) (n c : Nat) (ws : List Str) (w : World) (hS : Ss w A n c ws) (hlt : ∀ ad, A = some ad → ad.block < w.heap.size) (hT : WT w) (hl : Shw ws) :
    Calls Tryz.prog 66 #[.iface 72 (.agg #[]), .slice A n c] w fun e w' => e = .returned (.string ⟨(asF wNum ws).toArray⟩) ∧ Below w.heap.size w w' := by
  have hP := parserN hT hS hlt
  have ha := (Below.refl w.heap.size w).alloc (Nat.le_refl _) (.cells #[.slice A n c] 107)
  have hsz : (w.alloc (.cells #[.slice A n c] 107)).heap.size = w.heap.size + 1 := World.size_alloc _ _
  have hc := Lib.hid (fun (g : Nat) (w9 : World) (h9 : PW w9 g ws) => wNum_any g ws w9 h9)
  have hw := Lib.hid (show asF wNum ws = if (wNum ws).2 = [] then (wNum ws).1 else [] from rfl)
  obtain ⟨s, us, hr⟩ := pair_eta (wNum ws)
  rw [hr] at hc hw
  clear hr
  go_enter Tryz.func66, Tryz.ntmps66
  go_wp2_with fail
  generalize w.alloc (.cells #[.slice A n c] 107) = w1 at *
  refine (hc.out _ _ hP).mono ?_
  rintro e w2 ⟨rfl, hP2, hU2⟩
  have hb2 := ha.trans (hU2.below (B := w.heap.size) (Nat.le_refl _) (by omega))
  obtain ⟨A2, n2, c2, hB2, hS2, _⟩ := hP2.1
  have m0 : w2.cell? ⟨w.heap.size, 0, none⟩ = some (.slice A2 n2 c2) := hB2.cell 0
  have hn2 := hS2.len
  by_cases hu : us = []
  · subst hu
    obtain rfl : n2 = 0 := hn2.symm
    have hw2 := Lib.hid (show asF wNum ws = s by rw [hw.out]; exact if_pos rfl)
    go_wp2
    go_ret
    exact ⟨ret_str hw2.out.symm, hb2⟩
  · have hn2p : 0 < n2 := by rw [← hn2]; cases us with | nil => exact absurd rfl hu | cons a b => simp
    have hn3 : ((n2 : Int) == 0) = false := by rw [beq_eq_false_iff_ne]; omega
    have hw2 := Lib.hid (show asF wNum ws = [] by rw [hw.out]; exact if_neg hu)
    clear hn2
    go_wp2
    go_ret
    exact ⟨by rw [hw2.out]; rfl, hb2⟩

set_option maxRecDepth 100000 in
set_option maxHeartbeats 4000000 in
theorem as_ordinal (A : Option Addr) (n c : Nat) (ws : List Str) (w : World) (hS : Ss w A n c ws) (hlt : ∀ ad, A = some ad → ad.block < w.heap.size) (hT : WT w) (hl : Shw ws) :
    Calls Tryz.prog 66 #[.iface 115 (.agg #[]), .slice A n c] w fun e w' => e = .returned (.string ⟨(asF wOrd ws).toArray⟩) ∧ Below w.heap.size w w' := by
  have hP := parserN hT hS hlt
  have ha := (Below.refl w.heap.size w).alloc (Nat.le_refl _) (.cells #[.slice A n c] 107)
  have hsz : (w.alloc (.cells #[.slice A n c] 107)).heap.size = w.heap.size + 1 := World.size_alloc _ _
  have hc := Lib.hid (fun (g : Nat) (w9 : World) (h9 : PW w9 g ws) => wOrd_any g ws w9 h9 hl)
  have hw := Lib.hid (show asF wOrd ws = if (wOrd ws).2 = [] then (wOrd ws).1 else [] from rfl)
  obtain ⟨s, us, hr⟩ := pair_eta (wOrd ws)
  rw [hr] at hc hw
  clear hr
  go_enter Tryz.func66, Tryz.ntmps66
  go_wp2_with fail
  generalize w.alloc (.cells #[.slice A n c] 107) = w1 at *
  refine (hc.out _ _ hP).mono ?_
  rintro e w2 ⟨rfl, hP2, hU2⟩
  have hb2 := ha.trans (hU2.below (B := w.heap.size) (Nat.le_refl _) (by omega))
  obtain ⟨A2, n2, c2, hB2, hS2, _⟩ := hP2.1
  have m0 : w2.cell? ⟨w.heap.size, 0, none⟩ = some (.slice A2 n2 c2) := hB2.cell 0
  have hn2 := hS2.len
  by_cases hu : us = []
  · subst hu
    obtain rfl : n2 = 0 := hn2.symm
    have hw2 := Lib.hid (show asF wOrd ws = s by rw [hw.out]; exact if_pos rfl)
    go_wp2
    go_ret
    exact ⟨ret_str hw2.out.symm, hb2⟩
  · have hn2p : 0 < n2 := by rw [← hn2]; cases us with | nil => exact absurd rfl hu | cons a b => simp
    have hn3 : ((n2 : Int) == 0) = false := by rw [beq_eq_false_iff_ne]; omega
    have hw2 := Lib.hid (show asF wOrd ws = [] by rw [hw.out]; exact if_neg hu)
    clear hn2
    go_wp2
    go_ret
    exact ⟨by rw [hw2.out]; rfl, hb2⟩

set_option maxRecDepth 100000 in
set_option maxHeartbeats 4000000 in
theorem as_digits (A : Option Addr) (n c : Nat) (ws : List Str) (w : World) (hS : Ss w A n c ws) (hlt : ∀ ad, A = some ad → ad.block < w.heap.size) (hT : WT w) (hl : Shw ws) :
    Calls Tryz.prog 66 #[.iface 116 (.agg #[]), .slice A n c] w fun e w' => e = .returned (.string ⟨(asF wDig ws).toArray⟩) ∧ Below w.heap.size w w' := by
  have hP := parserN hT hS hlt
  have ha := (Below.refl w.heap.size w).alloc (Nat.le_refl _) (.cells #[.slice A n c] 107)
  have hsz : (w.alloc (.cells #[.slice A n c] 107)).heap.size = w.heap.size + 1 := World.size_alloc _ _
  have hc := Lib.hid (fun (g : Nat) (w9 : World) (h9 : PW w9 g ws) => wDig_any g ws w9 h9 (by have := hl.1; omega))
  have hw := Lib.hid (show asF wDig ws = if (wDig ws).2 = [] then (wDig ws).1 else [] from rfl)
  obtain ⟨s, us, hr⟩ := pair_eta (wDig ws)
  rw [hr] at hc hw
  clear hr
  go_enter Tryz.func66, Tryz.ntmps66
  go_wp2_with fail
  generalize w.alloc (.cells #[.slice A n c] 107) = w1 at *
  refine (hc.out _ _ hP).mono ?_
  rintro e w2 ⟨rfl, hP2, hU2⟩
  have hb2 := ha.trans (hU2.below (B := w.heap.size) (Nat.le_refl _) (by omega))
  obtain ⟨A2, n2, c2, hB2, hS2, _⟩ := hP2.1
  have m0 : w2.cell? ⟨w.heap.size, 0, none⟩ = some (.slice A2 n2 c2) := hB2.cell 0
  have hn2 := hS2.len
  by_cases hu : us = []
  · subst hu
    obtain rfl : n2 = 0 := hn2.symm
    have hw2 := Lib.hid (show asF wDig ws = s by rw [hw.out]; exact if_pos rfl)
    go_wp2
    go_ret
    exact ⟨ret_str hw2.out.symm, hb2⟩
  · have hn2p : 0 < n2 := by rw [← hn2]; cases us with | nil => exact absurd rfl hu | cons a b => simp
    have hn3 : ((n2 : Int) == 0) = false := by rw [beq_eq_false_iff_ne]; omega
    have hw2 := Lib.hid (show asF wDig ws = [] by rw [hw.out]; exact if_neg hu)
    clear hn2
    go_wp2
    go_ret
    exact ⟨by rw [hw2.out]; rfl, hb2⟩

set_option maxRecDepth 100000 in
set_option maxHeartbeats 4000000 in
theorem as_decimal (A : Option Addr) (n c : Nat) (ws : List Str) (w : World) (hS : Ss w A n c ws) (hlt : ∀ ad, A = some ad → ad.block < w.heap.size) (hT : WT w) (hl : Shw ws) :
    Calls Tryz.prog 66 #[.iface 117 (.agg #[]), .slice A n c] w fun e w' => e = .returned (.string ⟨(asF wDec ws).toArray⟩) ∧ Below w.heap.size w w' := by
  have hP := parserN hT hS hlt
  have ha := (Below.refl w.heap.size w).alloc (Nat.le_refl _) (.cells #[.slice A n c] 107)
  have hsz : (w.alloc (.cells #[.slice A n c] 107)).heap.size = w.heap.size + 1 := World.size_alloc _ _
  have hc := Lib.hid (fun (g : Nat) (w9 : World) (h9 : PW w9 g ws) => wDec_any g ws w9 h9 (by have := hl.1; have h1 := (wholeF_suf (signF ws).2).length_le; have h2 := (signF_suf ws).length_le; omega))
  have hw := Lib.hid (show asF wDec ws = if (wDec ws).2 = [] then (wDec ws).1 else [] from rfl)
  obtain ⟨s, us, hr⟩ := pair_eta (wDec ws)
  rw [hr] at hc hw
  clear hr
  go_enter Tryz.func66, Tryz.ntmps66
  go_wp2_with fail
  generalize w.alloc (.cells #[.slice A n c] 107) = w1 at *
  refine (hc.out _ _ hP).mono ?_
  rintro e w2 ⟨rfl, hP2, hU2⟩
  have hb2 := ha.trans (hU2.below (B := w.heap.size) (Nat.le_refl _) (by omega))
  obtain ⟨A2, n2, c2, hB2, hS2, _⟩ := hP2.1
  have m0 : w2.cell? ⟨w.heap.size, 0, none⟩ = some (.slice A2 n2 c2) := hB2.cell 0
  have hn2 := hS2.len
  by_cases hu : us = []
  · subst hu
    obtain rfl : n2 = 0 := hn2.symm
    have hw2 := Lib.hid (show asF wDec ws = s by rw [hw.out]; exact if_pos rfl)
    go_wp2
    go_ret
    exact ⟨ret_str hw2.out.symm, hb2⟩
  · have hn2p : 0 < n2 := by rw [← hn2]; cases us with | nil => exact absurd rfl hu | cons a b => simp
    have hn3 : ((n2 : Int) == 0) = false := by rw [beq_eq_false_iff_ne]; omega
    have hw2 := Lib.hid (show asF wDec ws = [] by rw [hw.out]; exact if_neg hu)
    clear hn2
    go_wp2
    go_ret
    exact ⟨by rw [hw2.out]; rfl, hb2⟩

set_option maxRecDepth 100000 in
set_option maxHeartbeats 4000000 in
theorem as_clock (A : Option Addr) (n c : Nat) (ws : List Str) (w : World) (hS : Ss w A n c ws) (hlt : ∀ ad, A = some ad → ad.block < w.heap.size) (hT : WT w) (hl : Shw ws) :
    Calls Tryz.prog 66 #[.iface 118 (.agg #[]), .slice A n c] w fun e w' => e = .returned (.string ⟨(asF wClk ws).toArray⟩) ∧ Below w.heap.size w w' := by
  have hP := parserN hT hS hlt
  have ha := (Below.refl w.heap.size w).alloc (Nat.le_refl _) (.cells #[.slice A n c] 107)
  have hsz : (w.alloc (.cells #[.slice A n c] 107)).heap.size = w.heap.size + 1 := World.size_alloc _ _
  have hc := Lib.hid (fun (g : Nat) (w9 : World) (h9 : PW w9 g ws) => wClk_any g ws w9 h9)
  have hw := Lib.hid (show asF wClk ws = if (wClk ws).2 = [] then (wClk ws).1 else [] from rfl)
  obtain ⟨s, us, hr⟩ := pair_eta (wClk ws)
  rw [hr] at hc hw
  clear hr
  go_enter Tryz.func66, Tryz.ntmps66
  go_wp2_with fail
  generalize w.alloc (.cells #[.slice A n c] 107) = w1 at *
  refine (hc.out _ _ hP).mono ?_
  rintro e w2 ⟨rfl, hP2, hU2⟩
  have hb2 := ha.trans (hU2.below (B := w.heap.size) (Nat.le_refl _) (by omega))
  obtain ⟨A2, n2, c2, hB2, hS2, _⟩ := hP2.1
  have m0 : w2.cell? ⟨w.heap.size, 0, none⟩ = some (.slice A2 n2 c2) := hB2.cell 0
  have hn2 := hS2.len
  by_cases hu : us = []
  · subst hu
    obtain rfl : n2 = 0 := hn2.symm
    have hw2 := Lib.hid (show asF wClk ws = s by rw [hw.out]; exact if_pos rfl)
    go_wp2
    go_ret
    exact ⟨ret_str hw2.out.symm, hb2⟩
  · have hn2p : 0 < n2 := by rw [← hn2]; cases us with | nil => exact absurd rfl hu | cons a b => simp
    have hn3 : ((n2 : Int) == 0) = false := by rw [beq_eq_false_iff_ne]; omega
    have hw2 := Lib.hid (show asF wClk ws = [] by rw [hw.out]; exact if_neg hu)
    clear hn2
    go_wp2
    go_ret
    exact ⟨by rw [hw2.out]; rfl, hb2⟩

set_option maxRecDepth 100000 in
set_option maxHeartbeats 4000000 in
theorem as_date (A : Option Addr) (n c : Nat) (ws : List Str) (w : World) (hS : Ss w A n c ws) (hlt : ∀ ad, A = some ad → ad.block < w.heap.size) (hT : WT w) (hl : Shw ws) :
    Calls Tryz.prog 66 #[.iface 119 (.agg #[]), .slice A n c] w fun e w' => e = .returned (.string ⟨(asF wDat ws).toArray⟩) ∧ Below w.heap.size w w' := by
  have hP := parserN hT hS hlt
  have ha := (Below.refl w.heap.size w).alloc (Nat.le_refl _) (.cells #[.slice A n c] 107)
  have hsz : (w.alloc (.cells #[.slice A n c] 107)).heap.size = w.heap.size + 1 := World.size_alloc _ _
  have hc := Lib.hid (fun (g : Nat) (w9 : World) (h9 : PW w9 g ws) => wDat_any g ws w9 h9 hl)
  have hw := Lib.hid (show asF wDat ws = if (wDat ws).2 = [] then (wDat ws).1 else [] from rfl)
  obtain ⟨s, us, hr⟩ := pair_eta (wDat ws)
  rw [hr] at hc hw
  clear hr
  go_enter Tryz.func66, Tryz.ntmps66
  go_wp2_with fail
  generalize w.alloc (.cells #[.slice A n c] 107) = w1 at *
  refine (hc.out _ _ hP).mono ?_
  rintro e w2 ⟨rfl, hP2, hU2⟩
  have hb2 := ha.trans (hU2.below (B := w.heap.size) (Nat.le_refl _) (by omega))
  obtain ⟨A2, n2, c2, hB2, hS2, _⟩ := hP2.1
  have m0 : w2.cell? ⟨w.heap.size, 0, none⟩ = some (.slice A2 n2 c2) := hB2.cell 0
  have hn2 := hS2.len
  by_cases hu : us = []
  · subst hu
    obtain rfl : n2 = 0 := hn2.symm
    have hw2 := Lib.hid (show asF wDat ws = s by rw [hw.out]; exact if_pos rfl)
    go_wp2
    go_ret
    exact ⟨ret_str hw2.out.symm, hb2⟩
  · have hn2p : 0 < n2 := by rw [← hn2]; cases us with | nil => exact absurd rfl hu | cons a b => simp
    have hn3 : ((n2 : Int) == 0) = false := by rw [beq_eq_false_iff_ne]; omega
    have hw2 := Lib.hid (show asF wDat ws = [] by rw [hw.out]; exact if_neg hu)
    clear hn2
    go_wp2
    go_ret
    exact ⟨by rw [hw2.out]; rfl, hb2⟩

set_option maxRecDepth 100000 in
set_option maxHeartbeats 4000000 in
theorem as_money (A : Option Addr) (n c : Nat) (ws : List Str) (w : World) (hS : Ss w A n c ws) (hlt : ∀ ad, A = some ad → ad.block < w.heap.size) (hT : WT w) (hl : Shw ws) :
    Calls Tryz.prog 66 #[.iface 120 (.agg #[]), .slice A n c] w fun e w' => e = .returned (.string ⟨(asF wMon ws).toArray⟩) ∧ Below w.heap.size w w' := by
  have hP := parserN hT hS hlt
  have ha := (Below.refl w.heap.size w).alloc (Nat.le_refl _) (.cells #[.slice A n c] 107)
  have hsz : (w.alloc (.cells #[.slice A n c] 107)).heap.size = w.heap.size + 1 := World.size_alloc _ _
  have hc := Lib.hid (fun (g : Nat) (w9 : World) (h9 : PW w9 g ws) => wMon_any g ws w9 h9)
  have hw := Lib.hid (show asF wMon ws = if (wMon ws).2 = [] then (wMon ws).1 else [] from rfl)
  obtain ⟨s, us, hr⟩ := pair_eta (wMon ws)
  rw [hr] at hc hw
  clear hr
  go_enter Tryz.func66, Tryz.ntmps66
  go_wp2_with fail
  generalize w.alloc (.cells #[.slice A n c] 107) = w1 at *
  refine (hc.out _ _ hP).mono ?_
  rintro e w2 ⟨rfl, hP2, hU2⟩
  have hb2 := ha.trans (hU2.below (B := w.heap.size) (Nat.le_refl _) (by omega))
  obtain ⟨A2, n2, c2, hB2, hS2, _⟩ := hP2.1
  have m0 : w2.cell? ⟨w.heap.size, 0, none⟩ = some (.slice A2 n2 c2) := hB2.cell 0
  have hn2 := hS2.len
  by_cases hu : us = []
  · subst hu
    obtain rfl : n2 = 0 := hn2.symm
    have hw2 := Lib.hid (show asF wMon ws = s by rw [hw.out]; exact if_pos rfl)
    go_wp2
    go_ret
    exact ⟨ret_str hw2.out.symm, hb2⟩
  · have hn2p : 0 < n2 := by rw [← hn2]; cases us with | nil => exact absurd rfl hu | cons a b => simp
    have hn3 : ((n2 : Int) == 0) = false := by rw [beq_eq_false_iff_ne]; omega
    have hw2 := Lib.hid (show asF wMon ws = [] by rw [hw.out]; exact if_neg hu)
    clear hn2
    go_wp2
    go_ret
    exact ⟨by rw [hw2.out]; rfl, hb2⟩
end Go.Proofs.YtpdfjlbfhnapkaaGreatDoor

/- Spoken forms are written: the program's Write. -/
namespace Go.Proofs.YtpdfjlbfhnapkaaGreatDoor
open Go.RowKit
set_option linter.unusedSimpArgs false
set_option linter.unusedVariables false

/-- the parts of a string between single spaces -/
def spl : Str → List Str
  | [] => [[]]
  | c :: cs => if c = 32 then [] :: spl cs else match spl cs with
    | [] => [[c]]
    | x :: xs => (c :: x) :: xs
theorem spl_cons (c : UInt8) (cs : Str) : spl (c :: cs) = if c = 32 then [] :: spl cs else match spl cs with
    | [] => [[c]]
    | x :: xs => (c :: x) :: xs := rfl
theorem splitK_succ (k : Nat) (s : Str) : Lib.splitK [32] 0 (k + 1) s = if Lib.index s [32] == -1 then [s] else s.take ((Lib.index s [32]).toNat + 0) :: Lib.splitK [32] 0 k (s.drop ((Lib.index s [32]).toNat + 1)) := rfl
theorem idx_cons (c : UInt8) (cs : Str) : Lib.index (c :: cs) [32] = if c = 32 then 0 else if Lib.index cs [32] == -1 then -1 else Lib.index cs [32] + 1 := by
  by_cases h : c = 32
  · subst h; rfl
  · rw [if_neg h]
    show (if ([32] : Str).isPrefixOf (c :: cs) then (0 : Int) else _) = _
    have : ([32] : Str).isPrefixOf (c :: cs) = false := by
      have h9 : ((32 : UInt8) == c) = false := by rw [beq_eq_false_iff_ne]; exact fun e => h e.symm
      simp [List.isPrefixOf, h9]
    rw [if_neg (by rw [this]; exact Bool.false_ne_true)]
theorem splitK_spl (s : Str) : ∀ k, k = s.count 32 → Lib.splitK [32] 0 k s = spl s := by
  induction s with
  | nil => intro k h; subst h; rfl
  | cons c cs ih =>
    intro k h
    by_cases hc : c = 32
    · subst hc
      rw [List.count_cons_self] at h
      subst h
      show (if Lib.index (32 :: cs) [32] == -1 then _ else _) = _
      have hi : Lib.index (32 :: cs) [32] = 0 := rfl
      rw [hi, if_neg (by decide)]
      show [] :: Lib.splitK [32] 0 (cs.count 32) cs = _
      rw [ih _ rfl, spl_cons, if_pos rfl]
    · rw [List.count_cons_of_ne (fun e => hc e)] at h
      have hs : spl (c :: cs) = match spl cs with
        | [] => [[c]]
        | x :: xs => (c :: x) :: xs := by
        show (if c = 32 then _ else _) = _
        rw [if_neg hc]
      have hk := ih k h
      rw [hs, ← hk]
      cases k with
      | zero => rfl
      | succ k =>
        rw [splitK_succ, splitK_succ, idx_cons, if_neg hc]
        have hge := Lib.index_ge cs [32]
        by_cases hm : Lib.index cs [32] = -1
        · rw [hm]; rfl
        · obtain ⟨i, hi⟩ : ∃ i : Nat, Lib.index cs [32] = (i : Int) := ⟨(Lib.index cs [32]).toNat, by omega⟩
          rw [hi]
          have e1 : (((i : Int) == -1) : Bool) = false := by rw [beq_eq_false_iff_ne]; omega
          have e2 : ((((i : Int) + 1) == -1) : Bool) = false := by rw [beq_eq_false_iff_ne]; omega
          rw [e1]
          simp only [Bool.false_eq_true, if_false, e2]
          have e3 : ((i : Int) + 1).toNat = i + 1 := by omega
          rw [e3, Int.toNat_natCast]
          rfl
theorem split_spl (s : Str) : Lib.split s [32] = spl s := splitK_spl s _ (Lib.count_one 32 s)
theorem spl_len (s : Str) : (spl s).length ≤ s.length + 1 ∧ 0 < (spl s).length := by
  induction s with
  | nil => exact ⟨Nat.le_refl _, Nat.one_pos⟩
  | cons c cs ih =>
    unfold spl
    split
    · simp; omega
    · cases h : spl cs with
      | nil => rw [h] at ih; exact absurd ih.2 (by simp)
      | cons x xs => rw [h] at ih; simp at ih ⊢; omega
theorem spl_short (s : Str) : ∀ x ∈ spl s, x.length ≤ s.length := by
  induction s with
  | nil => intro x hx; simp [spl] at hx; subst hx; exact Nat.le_refl _
  | cons c cs ih =>
    intro x hx
    unfold spl at hx
    split at hx
    · rcases List.mem_cons.1 hx with rfl | hx
      · exact Nat.zero_le _
      · have := ih x hx; simp; omega
    · cases h : spl cs with
      | nil => rw [h] at hx; simp at hx; subst hx; simp
      | cons y ys =>
        rw [h] at hx ih
        rcases List.mem_cons.1 hx with rfl | hx
        · have := ih y List.mem_cons_self; simp; omega
        · have := ih x (List.mem_cons_of_mem _ hx); simp; omega

/-- the first that is not empty -/
def firstNE : List Str → Str
  | [] => []
  | x :: xs => if x = [] then firstNE xs else x
def formsL (ws : List Str) : List Str := [asF wNum ws, asF wOrd ws, asF wDig ws, asF wDec ws, asF wClk ws, asF wDat ws, asF wMon ws]
/-- words, written as a form, or an empty string -/
def writeF (ws : List Str) : Str := firstNE (formsL ws)
def formsC : Array Value := #[.iface 72 (.agg #[]), .iface 115 (.agg #[]), .iface 116 (.agg #[]), .iface 117 (.agg #[]), .iface 118 (.agg #[]), .iface 119 (.agg #[]), .iface 120 (.agg #[])]
theorem forms_any (w : World) : Calls Tryz.prog 81 #[] w fun e w' => e = .returned (.slice (some ⟨w.heap.size, 0, none⟩) 7 7) ∧ w' = w.alloc (.cells #[.iface 72 (.agg #[]), .iface 115 (.agg #[]), .iface 116 (.agg #[]), .iface 117 (.agg #[]), .iface 118 (.agg #[]), .iface 119 (.agg #[]), .iface 120 (.agg #[])] 92) := by
  go_enter Tryz.func81, Tryz.ntmps81
  go_wp2
  go_ret
  exact ⟨rfl, rfl⟩
set_option maxRecDepth 100000 in
set_option maxHeartbeats 8000000 in
theorem write_any (A : Option Addr) (n c : Nat) (ws : List Str) (w : World) (hS : Ss w A n c ws) (hlt : ∀ ad, A = some ad → ad.block < w.heap.size) (hT : WT w) (hl : Shw ws) :
    Calls Tryz.prog 57 #[.slice A n c] w fun e w' => e = .returned (.string ⟨(writeF ws).toArray⟩) ∧ Below w.heap.size w w' := by
  have hb0 := (Below.refl w.heap.size w).alloc (Nat.le_refl _) (.cells #[.iface 72 (.agg #[]), .iface 115 (.agg #[]), .iface 116 (.agg #[]), .iface 117 (.agg #[]), .iface 118 (.agg #[]), .iface 119 (.agg #[]), .iface 120 (.agg #[])] 92)
  have hB := Blk.new w 92 #[.iface 72 (.agg #[]), .iface 115 (.agg #[]), .iface 116 (.agg #[]), .iface 117 (.agg #[]), .iface 118 (.agg #[]), .iface 119 (.agg #[]), .iface 120 (.agg #[])]
  go_enter Tryz.func57, Tryz.ntmps57
  go_wp2_with fail
  refine (forms_any w).mono ?_
  rintro e w1 ⟨rfl, hw1⟩
  rw [← hw1] at hb0 hB
  clear hw1
  go_wp2
  go_loopw [8] (fun iv wr' => ∃ (j : Nat) (wr : World), wr = wr' ∧ iv = .int .i64 (j : Int) ∧ j ≤ 7 ∧ Hid (writeF ws = firstNE ((formsL ws).drop j)) ∧ Below w1.heap.size w1 wr) (fun iv _ => 7 - (intOf iv).toNat)
  case atStart => exact ⟨0, _, rfl, rfl, by decide, rfl, Below.refl _ _⟩
  case round =>
    obtain ⟨j, wr, rfl, rfl, hj, hq, hbel⟩ := hrel
    have hBr := hB.below hbel
    have hbw := hb0.trans (hbel.mono hb0.size)
    have hSr := hS.below hbw
    have hTr := hT.below hbw
    have hltr : ∀ ad, A = some ad → ad.block < wr.heap.size := fun ad e => Nat.lt_of_lt_of_le (hlt ad e) hbw.size
    have hbs := hbel.size
    rcases (show j = 0 ∨ j = 1 ∨ j = 2 ∨ j = 3 ∨ j = 4 ∨ j = 5 ∨ j = 6 ∨ j = 7 by omega) with rfl | rfl | rfl | rfl | rfl | rfl | rfl | rfl
    · have hc := Lib.hid (as_number A n c ws wr hSr hltr hTr hl)
      have hq1 := Lib.hid (show writeF ws = if asF wNum ws = [] then firstNE ((formsL ws).drop (0 + 1)) else asF wNum ws by rw [hq.out]; unfold formsL; simp only [List.drop_succ_cons, List.drop_zero]; conv => lhs; unfold firstNE)
      generalize asF wNum ws = Z at *
      have hcell : wr.cell? ⟨w.heap.size, 0, none⟩ = some (.iface 72 (.agg #[])) := hBr.cell 0
      by_cases hZ : Z = []
      · subst hZ
        have hq2 := Lib.hid (show writeF ws = firstNE ((formsL ws).drop (0 + 1)) by rw [hq1.out, if_pos rfl])
        go_wp2_with fail
        refine hc.out.mono ?_
        rintro e w2 ⟨rfl, hb2⟩
        have hb3 := hbel.trans (hb2.mono hbs)
        go_wp2
        exact ⟨⟨0 + 1, _, rfl, rfl, by decide, hq2.out, hb3⟩, by simp [intOf]⟩
      · have hq2 := Lib.hid (show writeF ws = Z by rw [hq1.out, if_neg hZ])
        have hZe : Z.isEmpty = false := by cases Z with | nil => exact absurd rfl hZ | cons a b => rfl
        go_wp2_with fail
        refine hc.out.mono ?_
        rintro e w2 ⟨rfl, hb2⟩
        have hb3 := hbw.trans (hb2.mono hbw.size)
        go_wp2
        go_ret
        exact ⟨ret_str hq2.out.symm, hb3⟩
    · have hc := Lib.hid (as_ordinal A n c ws wr hSr hltr hTr hl)
      have hq1 := Lib.hid (show writeF ws = if asF wOrd ws = [] then firstNE ((formsL ws).drop (1 + 1)) else asF wOrd ws by rw [hq.out]; unfold formsL; simp only [List.drop_succ_cons, List.drop_zero]; conv => lhs; unfold firstNE)
      generalize asF wOrd ws = Z at *
      have hcell : wr.cell? ⟨w.heap.size, 1, none⟩ = some (.iface 115 (.agg #[])) := hBr.cell 1
      by_cases hZ : Z = []
      · subst hZ
        have hq2 := Lib.hid (show writeF ws = firstNE ((formsL ws).drop (1 + 1)) by rw [hq1.out, if_pos rfl])
        go_wp2_with fail
        refine hc.out.mono ?_
        rintro e w2 ⟨rfl, hb2⟩
        have hb3 := hbel.trans (hb2.mono hbs)
        go_wp2
        exact ⟨⟨1 + 1, _, rfl, rfl, by decide, hq2.out, hb3⟩, by simp [intOf]⟩
      · have hq2 := Lib.hid (show writeF ws = Z by rw [hq1.out, if_neg hZ])
        have hZe : Z.isEmpty = false := by cases Z with | nil => exact absurd rfl hZ | cons a b => rfl
        go_wp2_with fail
        refine hc.out.mono ?_
        rintro e w2 ⟨rfl, hb2⟩
        have hb3 := hbw.trans (hb2.mono hbw.size)
        go_wp2
        go_ret
        exact ⟨ret_str hq2.out.symm, hb3⟩
    · have hc := Lib.hid (as_digits A n c ws wr hSr hltr hTr hl)
      have hq1 := Lib.hid (show writeF ws = if asF wDig ws = [] then firstNE ((formsL ws).drop (2 + 1)) else asF wDig ws by rw [hq.out]; unfold formsL; simp only [List.drop_succ_cons, List.drop_zero]; conv => lhs; unfold firstNE)
      generalize asF wDig ws = Z at *
      have hcell : wr.cell? ⟨w.heap.size, 2, none⟩ = some (.iface 116 (.agg #[])) := hBr.cell 2
      by_cases hZ : Z = []
      · subst hZ
        have hq2 := Lib.hid (show writeF ws = firstNE ((formsL ws).drop (2 + 1)) by rw [hq1.out, if_pos rfl])
        go_wp2_with fail
        refine hc.out.mono ?_
        rintro e w2 ⟨rfl, hb2⟩
        have hb3 := hbel.trans (hb2.mono hbs)
        go_wp2
        exact ⟨⟨2 + 1, _, rfl, rfl, by decide, hq2.out, hb3⟩, by simp [intOf]⟩
      · have hq2 := Lib.hid (show writeF ws = Z by rw [hq1.out, if_neg hZ])
        have hZe : Z.isEmpty = false := by cases Z with | nil => exact absurd rfl hZ | cons a b => rfl
        go_wp2_with fail
        refine hc.out.mono ?_
        rintro e w2 ⟨rfl, hb2⟩
        have hb3 := hbw.trans (hb2.mono hbw.size)
        go_wp2
        go_ret
        exact ⟨ret_str hq2.out.symm, hb3⟩
    · have hc := Lib.hid (as_decimal A n c ws wr hSr hltr hTr hl)
      have hq1 := Lib.hid (show writeF ws = if asF wDec ws = [] then firstNE ((formsL ws).drop (3 + 1)) else asF wDec ws by rw [hq.out]; unfold formsL; simp only [List.drop_succ_cons, List.drop_zero]; conv => lhs; unfold firstNE)
      generalize asF wDec ws = Z at *
      have hcell : wr.cell? ⟨w.heap.size, 3, none⟩ = some (.iface 117 (.agg #[])) := hBr.cell 3
      by_cases hZ : Z = []
      · subst hZ
        have hq2 := Lib.hid (show writeF ws = firstNE ((formsL ws).drop (3 + 1)) by rw [hq1.out, if_pos rfl])
        go_wp2_with fail
        refine hc.out.mono ?_
        rintro e w2 ⟨rfl, hb2⟩
        have hb3 := hbel.trans (hb2.mono hbs)
        go_wp2
        exact ⟨⟨3 + 1, _, rfl, rfl, by decide, hq2.out, hb3⟩, by simp [intOf]⟩
      · have hq2 := Lib.hid (show writeF ws = Z by rw [hq1.out, if_neg hZ])
        have hZe : Z.isEmpty = false := by cases Z with | nil => exact absurd rfl hZ | cons a b => rfl
        go_wp2_with fail
        refine hc.out.mono ?_
        rintro e w2 ⟨rfl, hb2⟩
        have hb3 := hbw.trans (hb2.mono hbw.size)
        go_wp2
        go_ret
        exact ⟨ret_str hq2.out.symm, hb3⟩
    · have hc := Lib.hid (as_clock A n c ws wr hSr hltr hTr hl)
      have hq1 := Lib.hid (show writeF ws = if asF wClk ws = [] then firstNE ((formsL ws).drop (4 + 1)) else asF wClk ws by rw [hq.out]; unfold formsL; simp only [List.drop_succ_cons, List.drop_zero]; conv => lhs; unfold firstNE)
      generalize asF wClk ws = Z at *
      have hcell : wr.cell? ⟨w.heap.size, 4, none⟩ = some (.iface 118 (.agg #[])) := hBr.cell 4
      by_cases hZ : Z = []
      · subst hZ
        have hq2 := Lib.hid (show writeF ws = firstNE ((formsL ws).drop (4 + 1)) by rw [hq1.out, if_pos rfl])
        go_wp2_with fail
        refine hc.out.mono ?_
        rintro e w2 ⟨rfl, hb2⟩
        have hb3 := hbel.trans (hb2.mono hbs)
        go_wp2
        exact ⟨⟨4 + 1, _, rfl, rfl, by decide, hq2.out, hb3⟩, by simp [intOf]⟩
      · have hq2 := Lib.hid (show writeF ws = Z by rw [hq1.out, if_neg hZ])
        have hZe : Z.isEmpty = false := by cases Z with | nil => exact absurd rfl hZ | cons a b => rfl
        go_wp2_with fail
        refine hc.out.mono ?_
        rintro e w2 ⟨rfl, hb2⟩
        have hb3 := hbw.trans (hb2.mono hbw.size)
        go_wp2
        go_ret
        exact ⟨ret_str hq2.out.symm, hb3⟩
    · have hc := Lib.hid (as_date A n c ws wr hSr hltr hTr hl)
      have hq1 := Lib.hid (show writeF ws = if asF wDat ws = [] then firstNE ((formsL ws).drop (5 + 1)) else asF wDat ws by rw [hq.out]; unfold formsL; simp only [List.drop_succ_cons, List.drop_zero]; conv => lhs; unfold firstNE)
      generalize asF wDat ws = Z at *
      have hcell : wr.cell? ⟨w.heap.size, 5, none⟩ = some (.iface 119 (.agg #[])) := hBr.cell 5
      by_cases hZ : Z = []
      · subst hZ
        have hq2 := Lib.hid (show writeF ws = firstNE ((formsL ws).drop (5 + 1)) by rw [hq1.out, if_pos rfl])
        go_wp2_with fail
        refine hc.out.mono ?_
        rintro e w2 ⟨rfl, hb2⟩
        have hb3 := hbel.trans (hb2.mono hbs)
        go_wp2
        exact ⟨⟨5 + 1, _, rfl, rfl, by decide, hq2.out, hb3⟩, by simp [intOf]⟩
      · have hq2 := Lib.hid (show writeF ws = Z by rw [hq1.out, if_neg hZ])
        have hZe : Z.isEmpty = false := by cases Z with | nil => exact absurd rfl hZ | cons a b => rfl
        go_wp2_with fail
        refine hc.out.mono ?_
        rintro e w2 ⟨rfl, hb2⟩
        have hb3 := hbw.trans (hb2.mono hbw.size)
        go_wp2
        go_ret
        exact ⟨ret_str hq2.out.symm, hb3⟩
    · have hc := Lib.hid (as_money A n c ws wr hSr hltr hTr hl)
      have hq1 := Lib.hid (show writeF ws = if asF wMon ws = [] then firstNE ((formsL ws).drop (6 + 1)) else asF wMon ws by rw [hq.out]; unfold formsL; simp only [List.drop_succ_cons, List.drop_zero]; conv => lhs; unfold firstNE)
      generalize asF wMon ws = Z at *
      have hcell : wr.cell? ⟨w.heap.size, 6, none⟩ = some (.iface 120 (.agg #[])) := hBr.cell 6
      by_cases hZ : Z = []
      · subst hZ
        have hq2 := Lib.hid (show writeF ws = firstNE ((formsL ws).drop (6 + 1)) by rw [hq1.out, if_pos rfl])
        go_wp2_with fail
        refine hc.out.mono ?_
        rintro e w2 ⟨rfl, hb2⟩
        have hb3 := hbel.trans (hb2.mono hbs)
        go_wp2
        exact ⟨⟨6 + 1, _, rfl, rfl, by decide, hq2.out, hb3⟩, by simp [intOf]⟩
      · have hq2 := Lib.hid (show writeF ws = Z by rw [hq1.out, if_neg hZ])
        have hZe : Z.isEmpty = false := by cases Z with | nil => exact absurd rfl hZ | cons a b => rfl
        go_wp2_with fail
        refine hc.out.mono ?_
        rintro e w2 ⟨rfl, hb2⟩
        have hb3 := hbw.trans (hb2.mono hbw.size)
        go_wp2
        go_ret
        exact ⟨ret_str hq2.out.symm, hb3⟩
    · have hq2 := Lib.hid (show writeF ws = [] from hq.out)
      go_wp2
      go_ret
      exact ⟨by rw [hq2.out]; rfl, hbw⟩
end Go.Proofs.YtpdfjlbfhnapkaaGreatDoor

/- Strings are cut at spaces; the program's Write. -/
namespace Go.Proofs.YtpdfjlbfhnapkaaGreatDoor
open Go.RowKit
set_option linter.unusedSimpArgs false

theorem checkLen_any (n m : Int) (w : World) : Calls Tryz.prog 79 #[.int .i64 n, .int .i64 m] w fun e w' => e = .returned (.int .i64 (if n ≤ m then 0 else 5)) ∧ w = w' := by
  by_cases h : n ≤ m
  · have h2 : decide (n ≤ m) = true := decide_eq_true h
    go_enter Tryz.func79, Tryz.ntmps79
    go_wp2
    go_ret
    exact ⟨by first | rfl | exact ret_int (if_pos h).symm, rfl⟩
  · have h2 : decide (n ≤ m) = false := decide_eq_false h
    have hq := Lib.hid (show (if n ≤ m then (0 : Int) else 5) = 5 from if_neg h)
    rw [hq.out]
    go_enter Tryz.func79, Tryz.ntmps79
    go_wp2
    go_ret
    exact ⟨rfl, rfl⟩
/-- the code of a string's length -/
def lenC (s : Str) : Int := if s.length ≤ 2000 then 0 else 5
theorem length_any (s : Str) (w : World) : Calls Tryz.prog 47 #[.string ⟨s.toArray⟩] w fun e w' => e = .returned (.int .i64 (lenC s)) ∧ w = w' := by
  have hc := Lib.hid (checkLen_any (s.length : Int) 2000 w)
  have he := Lib.hid (show (if (s.length : Int) ≤ 2000 then (0 : Int) else 5) = lenC s by
    unfold lenC
    by_cases h : s.length ≤ 2000
    · rw [if_pos h, if_pos (by omega)]
    · rw [if_neg h, if_neg (by omega)])
  rw [he.out] at hc
  go_enter Tryz.func47, Tryz.ntmps47
  go_wp2_with fail
  refine hc.out.mono ?_
  rintro e w' ⟨rfl, rfl⟩
  go_wp2
  go_ret
  exact ⟨rfl, rfl⟩
/-- a string is cut at its spaces -/
theorem split_any (s : Str) (hs : s.length ≤ 100000) (w : World) (hT : WT w) :
    Calls Tryz.prog 58 #[.string ⟨s.toArray⟩, .string ⟨#[32]⟩] w fun e w' => e = .returned (.slice (some ⟨w.heap.size, 0, none⟩) (spl s).length (spl s).length) ∧ Ss w' (some ⟨w.heap.size, 0, none⟩) (spl s).length (spl s).length (spl s) ∧ Below w.heap.size w w' ∧ w'.heap.size = w.heap.size + 1 := by
  obtain ⟨m, hm⟩ := hT.ml
  have hsz : (⟨s.toArray⟩ : ByteArray).size = s.length := by show s.toArray.size = _; simp
  refine (Tryz.strings_Split ⟨s.toArray⟩ ⟨#[32]⟩ m w (by rw [hsz]; omega) hm (by decide)).mono ?_
  rintro e w' ⟨rfl, rfl⟩
  have hdata : (Lib.splitB ⟨#[32]⟩ 0 (Lib.countB ⟨s.toArray⟩ ⟨#[32]⟩) ⟨s.toArray⟩).map (·.data.toList) = spl s := by
    rw [Lib.splitB_data]
    exact split_spl s
  have hlen : (Lib.splitB ⟨#[32]⟩ 0 (Lib.countB ⟨s.toArray⟩ ⟨#[32]⟩) ⟨s.toArray⟩).length = (spl s).length := by rw [← hdata, List.length_map]
  have hall := Lib.splitB_all ⟨#[32]⟩ (by decide) 0 _ ⟨s.toArray⟩ rfl
  rw [← hall, hlen]
  have hl := (spl_len s).1
  refine ⟨rfl, ⟨rfl, Nat.le_refl _, by omega, fun _ => ⟨_, rfl, fun j x hx => ?_⟩⟩, (Below.refl _ _).alloc (Nat.le_refl _) _, World.size_alloc _ _⟩
  rw [add_new]
  have hb := (Blk.new w 9 ((Lib.splitB ⟨#[32]⟩ 0 (Lib.countB ⟨s.toArray⟩ ⟨#[32]⟩) ⟨s.toArray⟩).map Value.string).toArray).cell j
  refine hb.trans ?_
  rw [← hdata, List.getElem?_map] at hx
  simp only [List.getElem?_toArray, List.getElem?_map]
  cases hq : (Lib.splitB ⟨#[32]⟩ 0 (Lib.countB ⟨s.toArray⟩ ⟨#[32]⟩) ⟨s.toArray⟩)[j]? with
  | none => rw [hq] at hx; cases hx
  | some b =>
    rw [hq] at hx
    injection hx with hx
    subst hx
    rfl
def wrC (s : Str) : Int := if 2000 < s.length then 5 else if writeF (spl s) = [] then 4 else 0
def wrT (s : Str) : Str := if 2000 < s.length then [] else writeF (spl s)
theorem spl_shw {s : Str} (h : s.length ≤ 2000) : Shw (spl s) := ⟨by have := (spl_len s).1; omega, fun x hx => by have := spl_short s x hx; omega⟩
theorem Write_any (s : Str) (w : World) (hT : WT w) :
    Calls Tryz.prog 22 #[.string ⟨s.toArray⟩] w fun e w' => e = .returned (.tuple #[.string ⟨(wrT s).toArray⟩, .int .i64 (wrC s)]) ∧ Below w.heap.size w w' := by
  have hln := Lib.hid (length_any s w)
  by_cases hs : 2000 < s.length
  · have h1 : lenC s = 5 := if_neg (by omega)
    rw [h1] at hln
    have h2 := Lib.hid (show wrC s = 5 from if_pos hs)
    have h3 := Lib.hid (show wrT s = [] from if_pos hs)
    clear h1
    go_enter Tryz.func22, Tryz.ntmps22
    go_wp2_with fail
    refine hln.out.mono ?_
    rintro e w' ⟨rfl, rfl⟩
    go_wp2
    go_ret2
    exact ⟨by rw [h2.out, h3.out]; rfl, Below.refl _ _⟩
  · have h1 : lenC s = 0 := if_pos (by omega)
    rw [h1] at hln
    have h3 := Lib.hid (show wrT s = writeF (spl s) from if_neg hs)
    have h2 := Lib.hid (show wrC s = if writeF (spl s) = [] then 4 else 0 from if_neg hs)
    have hsp := Lib.hid (split_any s (by omega) w hT)
    have hsh := spl_shw (s := s) (by omega)
    generalize hn : (spl s).length = n at *
    have hwr := Lib.hid (fun (w9 : World) (hT9 : WT w9) (h9 : Ss w9 (some ⟨w.heap.size, 0, none⟩) n n (spl s)) (hs9 : w.heap.size < w9.heap.size) => write_any (some ⟨w.heap.size, 0, none⟩) n n (spl s) w9 h9 (fun ad e => by injection e with e; subst e; exact hs9) hT9 hsh)
    generalize writeF (spl s) = Z at *
    clear h1 hn hsh
    go_enter Tryz.func22, Tryz.ntmps22
    go_wp2_with fail
    refine hln.out.mono ?_
    rintro e w' ⟨rfl, rfl⟩
    go_wp2_with fail
    refine hsp.out.mono ?_
    rintro e w2 ⟨rfl, hS2, hb2, hz2⟩
    go_wp2_with fail
    refine (hwr.out _ (hT.below hb2) hS2 (by omega)).mono ?_
    rintro e w4 ⟨rfl, hb4⟩
    have hb5 := hb2.trans (hb4.mono hb2.size)
    by_cases hZ : Z = []
    · subst hZ
      have h4 := Lib.hid (show wrC s = 4 by rw [h2.out]; rfl)
      go_wp2
      go_ret2
      exact ⟨by rw [h4.out, h3.out]; rfl, hb5⟩
    · have h4 := Lib.hid (show wrC s = 0 by rw [h2.out]; exact if_neg hZ)
      have hZe : Z.isEmpty = false := by cases Z with | nil => exact absurd rfl hZ | cons a b => rfl
      go_wp2
      go_ret2
      exact ⟨by rw [h4.out, h3.out]; rfl, hb5⟩
end Go.Proofs.YtpdfjlbfhnapkaaGreatDoor
