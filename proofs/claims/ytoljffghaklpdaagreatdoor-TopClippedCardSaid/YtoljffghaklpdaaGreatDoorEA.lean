/- The steps of a recipe: the methods that call one function of wave or of feature. -/
import Derived.Test.YtoljffghaklpdaaGreatDoorHM
import Derived.Test.YtoljffghaklpdaaGreatDoorJA
import Derived.Test.YtoljffghaklpdaaGreatDoorZK0
import Derived.Test.YtoljffghaklpdaaGreatDoorZV3
import Derived.Deep.RegionHeld3
import Derived.Deep.RegionWith
import Derived.Test.YtoljffghaklpdaaGreatDoorGE
namespace Go.Proofs.YtoljffghaklpdaaGreatDoor
open Go.RowKit

/-- a recipe as a value; E is its list of edges -/
def rcV (num den size step kind points : Int) (E : Value) (cep : Int) (diff ctr : Bool) : Value := .agg #[.int .i64 num, .int .i64 den, .int .i64 size, .int .i64 step, .int .i64 kind, .int .i64 points, E, .int .i64 cep, .bool diff, .bool ctr]
theorem below_box {w w2 : World} {o : Obj} (hb : Below (w.alloc o).heap.size (w.alloc o) w2) : Below w.heap.size w w2 := ((Below.refl _ _).alloc (Nat.le_refl _) _).trans (hb.mono (by simp))

theorem isWindow_any (kind : Int) (w : World) :
    Calls Tryz.prog 53 #[.int .i64 kind] w fun e w' => e = .returned (.bool (wnC kind 1 == 0)) ∧ Below w.heap.size w w' := by
  go_enter Tryz.func53, Tryz.ntmps53
  go_wp2_with fail
  refine (Window_any kind 1 _).mono ?_
  rintro e w' ⟨A, m, c, rfl, hs, hb⟩
  go_wp2
  go_ret
  exact ⟨rfl, hb⟩

set_option maxHeartbeats 1600000 in
theorem emphasize_any (num den size step kind points cep : Int) (E : Value) (diff ctr : Bool) (A : Option Addr) (n c : Nat) (xs : List Int) (w : World) (h : Sl .i64 w A n c xs) (hE : ∃ B m d, E = .slice B m d) :
    Calls Tryz.prog 121 #[rcV num den size step kind points E cep diff ctr, .slice A n c] w (RetL2 .i64 w (emL false xs num den) (emC false xs num den)) := by
  obtain ⟨B, m, d, rfl⟩ := hE
  unfold rcV
  go_enter Tryz.func121, Tryz.ntmps121
  go_wp2_with fail
  refine (Emphasize_any _ _ _ _ num den _ (h.alloc _)).mono ?_
  rintro e w' ⟨A', m', c', rfl, hs, hb⟩
  go_wp2
  go_ret2
  exact ⟨A', m', c', rfl, hs, ((Below.refl _ _).alloc (Nat.le_refl _) _).trans (hb.mono (by simp))⟩

set_option maxHeartbeats 1600000 in
theorem weigh_any (num den size step kind points cep : Int) (E : Value) (diff ctr : Bool) (A : Option Addr) (n c : Nat) (xs : List Int) (w : World) (h : Sl .i64 w A n c xs) (hE : ∃ B m d, E = .slice B m d) :
    Calls Tryz.prog 123 #[rcV num den size step kind points E cep diff ctr, .slice A n c] w (RetL2 .i64 w (wgL xs kind) (wgC xs kind)) := by
  obtain ⟨B, m, d, rfl⟩ := hE
  unfold rcV
  go_enter Tryz.func123, Tryz.ntmps123
  go_wp2_with fail
  refine (Weigh_any _ _ _ _ kind _ (h.alloc _)).mono ?_
  rintro e w' ⟨A', m', c', rfl, hs, hb⟩
  go_wp2
  go_ret2
  exact ⟨A', m', c', rfl, hs, ((Below.refl _ _).alloc (Nat.le_refl _) _).trans (hb.mono (by simp))⟩

set_option maxHeartbeats 1600000 in
theorem shorten_any (num den size step kind points cep : Int) (E : Value) (diff ctr : Bool) (A : Option Addr) (n c : Nat) (xs : List Int) (w : World) (h : Sl .i64 w A n c xs) (hE : ∃ B m d, E = .slice B m d) (hT : Tab w) :
    Calls Tryz.prog 126 #[rcV num den size step kind points E cep diff ctr, .slice A n c] w fun e w' => (cpOk xs cep = true ∧ RetS w cep.toNat (cpL xs cep) e w') ∨ (cpOk xs cep = false ∧ RetN w 2 e w') := by
  obtain ⟨B, m, d, rfl⟩ := hE
  unfold rcV
  go_enter Tryz.func126, Tryz.ntmps126
  go_wp2_with fail
  refine (Cepstrum_any _ _ _ _ cep _ (h.alloc _) (hT.alloc _)).mono ?_
  rintro e w' (⟨hok, hr⟩ | ⟨hok, hr⟩)
  · obtain ⟨A', c', rfl, hs, hb⟩ := hr
    go_wp2
    go_ret2
    exact Or.inl ⟨hok, A', c', rfl, hs, ((Below.refl _ _).alloc (Nat.le_refl _) _).trans (hb.mono (by simp))⟩
  · obtain ⟨rfl, hb⟩ := hr
    go_wp2
    go_ret2
    exact Or.inr ⟨hok, rfl, ((Below.refl _ _).alloc (Nat.le_refl _) _).trans (hb.mono (by simp))⟩

set_option maxHeartbeats 1600000 in
theorem analyze_any (num den size step kind cep : Int) (p : Nat) (E : Value) (diff ctr : Bool) (A : Option Addr) (n c : Nat) (xs : List Int) (w : World) (h : Sl .i64 w A n c xs) (hE : ∃ B m d, E = .slice B m d) (hT : Tab w) (hn : 0 < n) (hp : n ≤ p) (hp2 : p ≤ 64) :
    Calls Tryz.prog 124 #[rcV num den size step kind (p : Int) E cep diff ctr, .slice A n c] w fun e w' => (trOk (xs ++ zs (p - n)) = true ∧ RetM w p (spL (xs ++ zs (p - n))) e w') ∨ (trOk (xs ++ zs (p - n)) = false ∧ RetN w 2 e w') := by
  obtain ⟨B, m, d, rfl⟩ := hE
  have hl := h.len
  have hls : (xs ++ zs (p - n)).length = p := by simp [zs, hl]; omega
  unfold rcV
  go_enter Tryz.func124, Tryz.ntmps124
  clear hl
  go_wp2_with fail
  refine (extend_any _ _ _ p _ _ (h.alloc _) hn hp (by omega)).mono ?_
  rintro e w2 ⟨g, rfl, hg, hb2, hgs⟩
  have hT2 : Tab w2 := (hT.alloc _).below hb2
  have hs2 := hg.sl hls (by omega)
  have hbb := below_box hb2
  go_wp2_with fail
  refine (Spectrum_any _ _ _ _ _ hs2 hT2).mono ?_
  rintro e w3 (⟨hok, hr⟩ | ⟨hok, hr⟩)
  · obtain ⟨g3, rfl, hm3, hb3, hg3⟩ := hr
    go_wp2
    go_ret2
    exact Or.inl ⟨hok, g3, rfl, hm3, hbb.trans (hb3.mono hbb.size), Nat.le_trans hbb.size hg3⟩
  · obtain ⟨rfl, hb3⟩ := hr
    go_wp2
    go_ret2
    exact Or.inr ⟨hok, rfl, hbb.trans (hb3.mono hbb.size)⟩
end Go.Proofs.YtoljffghaklpdaaGreatDoor


/- Is a recording one? The program's and the document's own answer. -/
namespace Go.Proofs.YtoljffghaklpdaaGreatDoor
open Go.RowKit

theorem wValid_any (rate : Int) (A : Option Addr) (n c : Nat) (xs : List Int) (w : World) (h : Sl .i64 w A n c xs) :
    Calls Tryz.prog 49 #[.agg #[.int .i64 rate, .slice A n c]] w fun e w' => e = .returned (.bool (chkR rate xs == 0)) ∧ Below w.heap.size w w' := by
  have hb1 := (Below.refl w.heap.size w).alloc (Nat.le_refl _) (.cells #[.int .i64 rate, .slice A n c] 30)
  have h1 := h.below hb1
  go_enter Tryz.func49, Tryz.ntmps49
  go_wp2_with fail
  refine (checkRecording_any _ _ _ _ _ _ h1).mono ?_
  rintro e w2 ⟨rfl, hb2⟩
  go_wp2
  go_ret
  exact ⟨rfl, hb1.trans (hb2.mono hb1.size)⟩
theorem wRValid_any (rate : Int) (A : Option Addr) (n c : Nat) (xs : List Int) (w : World) (h : Sl .i64 w A n c xs) (hn : n ≤ 200000) :
    Calls Tryz.prog 16 #[.agg #[.int .i64 rate, .slice A n c]] w fun e w' => e = .returned (.bool (okB 1 192000 rate && allB (-32768) 32767 xs)) ∧ Below w.heap.size w w' := by
  have hcap := h.cap
  have htop := h.top
  have h1 := h.alloc (.cells #[.int .i64 rate, .slice A n c] 30)
  have hb := (Below.refl w.heap.size w).alloc (Nat.le_refl _) (.cells #[.int .i64 rate, .slice A n c] 30)
  by_cases h2 : 1 ≤ rate
  · by_cases h3 : rate ≤ 192000
    · have hv := Lib.hid (show (okB 1 192000 rate && allB (-32768) 32767 xs) = allB (-32768) 32767 xs by rw [okB_mk h2 h3]; rfl)
      go_enter Tryz.func16, Tryz.ntmps16
      go_wp2_with (go_at_call 19; refine (All_any _ _ _ _ _ _ _ h1).mono ?_; rintro e w' ⟨rfl, rfl⟩)
      go_ret
      exact ⟨ret_bool hv.out.symm, hb⟩
    · have hd : decide (rate ≤ 192000) = false := decide_eq_false h3
      have hv := Lib.hid (show (okB 1 192000 rate && allB (-32768) 32767 xs) = false by rw [okB_hi (lo := 1) h3]; rfl)
      go_enter Tryz.func16, Tryz.ntmps16
      go_wp2
      go_ret
      exact ⟨ret_bool hv.out.symm, hb⟩
  · have hd : decide (1 ≤ rate) = false := decide_eq_false h2
    have hd2 : ¬ 0 < rate := by omega
    have hd3 : decide (0 < rate) = false := decide_eq_false hd2
    have hv := Lib.hid (show (okB 1 192000 rate && allB (-32768) 32767 xs) = false by rw [okB_lo (hi := 192000) h2]; rfl)
    go_enter Tryz.func16, Tryz.ntmps16
    go_wp2
    go_ret
    exact ⟨ret_bool hv.out.symm, hb⟩

/-- a recipe that is valid; p points, edges es -/
def RcP (num den size step kind points cep : Int) (es : List Int) : Prop :=
  (1 ≤ den ∧ den ≤ 1024) ∧ (0 ≤ num ∧ num ≤ den) ∧ (0 ≤ points ∧ lenB points.toNat = true) ∧ (1 ≤ size ∧ size ≤ points) ∧ (1 ≤ step ∧ step ≤ 4096) ∧ (1 ≤ kind ∧ kind ≤ 3) ∧ es.length ≤ 33 ∧ EdP es points ∧ 0 ≤ cep ∧ cep ≤ pd (es.length - 1)

theorem isLength_neg (x : Int) (w : World) (h : x < 0) : Calls Tryz.prog 52 #[.int .i64 x] w fun e w' => e = .returned (.bool false) ∧ w = w' := by
  have h1 : ¬ 0 < x := by omega
  have h2 : decide (0 < x) = false := decide_eq_false h1
  go_enter Tryz.func52, Tryz.ntmps52
  go_wp2
  go_ret
  exact ⟨rfl, rfl⟩
theorem RLength_neg (x : Int) (w : World) (h : x < 0) : Calls Tryz.prog 57 #[.int .i64 x] w fun e w' => e = .returned (.bool false) ∧ w' = w := by
  have q1 : (x == 1) = false := by rw [beq_eq_false_iff_ne]; omega
  have q2 : (x == 2) = false := by rw [beq_eq_false_iff_ne]; omega
  have q4 : (x == 4) = false := by rw [beq_eq_false_iff_ne]; omega
  have q8 : (x == 8) = false := by rw [beq_eq_false_iff_ne]; omega
  have q16 : (x == 16) = false := by rw [beq_eq_false_iff_ne]; omega
  have q32 : (x == 32) = false := by rw [beq_eq_false_iff_ne]; omega
  have q64 : (x == 64) = false := by rw [beq_eq_false_iff_ne]; omega
  have h1 : ¬ 0 < x := by omega
  have h1' : ¬ 1 ≤ x := by omega
  have h2 : decide (0 < x) = false := decide_eq_false h1
  have h3 : decide (1 ≤ x) = false := decide_eq_false h1'
  go_enter Tryz.func57, Tryz.ntmps57
  go_wp2
  go_ret
  first
    | exact ⟨rfl, rfl⟩
    | exact ⟨ret_bool (by rw [q1, q2, q4, q8, q16, q32, q64]; rfl), rfl⟩
end Go.Proofs.YtoljffghaklpdaaGreatDoor


/- The step that cuts the frames. -/
namespace Go.Proofs.YtoljffghaklpdaaGreatDoor
open Go.RowKit

set_option maxHeartbeats 800000 in
set_option maxRecDepth 20000 in
theorem cut_any (num den size step kind points cep : Int) (E : Value) (diff ctr : Bool) (ad : Addr) (k ck : Nat) (A : Option Addr) (n c : Nat) (xs : List Int) (w : World) (h : Sl .i64 w A n c xs) (hE : ∃ B m d, E = .slice B m d) (hk : 0 < k) (hc : w.cell? ad = some (.slice A n c)) (N : Nat) (hN : (if frC xs size step false = 0 then fcount n size.toNat step.toNat false else 0) = N) :
    Calls Tryz.prog 122 #[rcV num den size step kind points E cep diff ctr, .slice (some ad) k ck] w fun e w' => (10000 < N ∧ RetN w 5 e w') ∨ (¬ 10000 < N ∧ RetRs w N (frameL xs size.toNat step.toNat) (frC xs size step false) e w') := by
  obtain ⟨B, m, d, rfl⟩ := hE
  have hN := Lib.hid hN
  obtain ⟨cv, hcv⟩ : ∃ cv, cv = frC xs size step false := ⟨_, rfl⟩
  have hcv := Lib.hid hcv
  have hka : (k : Int) ≠ 0 := by omega
  have hb0 := (Below.refl w.heap.size w).alloc (Nat.le_refl _) (.cells #[.int .i64 num, .int .i64 den, .int .i64 size, .int .i64 step, .int .i64 kind, .int .i64 points, .slice B m d, .int .i64 cep, .bool diff, .bool ctr] 90)
  have hc1 := (hb0.cell (World.block_lt_of_cell? _ _ hc)).trans hc
  have h1 := h.below hb0
  have f2 : (w.alloc (.cells #[.int .i64 num, .int .i64 den, .int .i64 size, .int .i64 step, .int .i64 kind, .int .i64 points, .slice B m d, .int .i64 cep, .bool diff, .bool ctr] 90)).cell? ⟨w.heap.size, 2, none⟩ = some (.int .i64 size) := by simp
  have f3 : (w.alloc (.cells #[.int .i64 num, .int .i64 den, .int .i64 size, .int .i64 step, .int .i64 kind, .int .i64 points, .slice B m d, .int .i64 cep, .bool diff, .bool ctr] 90)).cell? ⟨w.heap.size, 3, none⟩ = some (.int .i64 step) := by simp
  have hsz : (w.alloc (.cells #[.int .i64 num, .int .i64 den, .int .i64 size, .int .i64 step, .int .i64 kind, .int .i64 points, .slice B m d, .int .i64 cep, .bool diff, .bool ctr] 90)).heap.size = w.heap.size + 1 := by simp
  unfold rcV
  go_enter Tryz.func122, Tryz.ntmps122
  go_wp2
  generalize (w.alloc (.cells #[.int .i64 num, .int .i64 den, .int .i64 size, .int .i64 step, .int .i64 kind, .int .i64 points, .slice B m d, .int .i64 cep, .bool diff, .bool ctr] 90)) = w1 at *
  have hKeep := Lib.hid (fun (wx : World) (hb : Below w1.heap.size w1 wx) => (⟨(hb.cell (World.block_lt_of_cell? _ _ hc1)).trans hc1, (hb.cell (World.block_lt_of_cell? _ _ f2)).trans f2, (hb.cell (World.block_lt_of_cell? _ _ f3)).trans f3⟩ : wx.cell? ad = some (.slice A n c) ∧ wx.cell? ⟨w.heap.size, 2, none⟩ = some (.int .i64 size) ∧ wx.cell? ⟨w.heap.size, 3, none⟩ = some (.int .i64 step)))
  have hbd := bel_drewN (Below.refl w1.heap.size w1) 1
  have hd1 : Sl .i64 w1.drew A n c xs := h1.below hbd
  have hbw := Below.refl w1.heap.size w1
  go_region_held3 (fun wx => wx.cell? ad = some (.slice A n c) ∧ wx.cell? ⟨w.heap.size, 2, none⟩ = some (.int .i64 size) ∧ wx.cell? ⟨w.heap.size, 3, none⟩ = some (.int .i64 step)) (first | exact hKeep.out _ hbw | exact hKeep.out _ hbd | exact hKeep.out _ hb5 | go_keep)
    (first | (go_at_call 167; refine (Frames_any _ _ _ _ size step false _ hd1).mono ?_; rintro e w5 ⟨A5, c5, B5, L5, C5, he5, hs5, hq5⟩; rw [hN.out, ← hcv.out] at he5; rw [hN.out] at hs5; subst he5; have hb5 : Below w1.heap.size w1 w5 := hbd.trans hq5))
  have hbw5 : Below w.heap.size w w5 := hb0.trans (hb5.mono (by omega))
  by_cases hbig : 10000 < N
  · have hbi : (10000 : Int) < (N : Int) := by omega
    have hbd2 : decide ((10000 : Int) < (N : Int)) = true := decide_eq_true hbi
    go_wp2
    go_ret2
    exact Or.inl ⟨hbig, rfl, hbw5⟩
  · have hbi : ¬ (10000 : Int) < (N : Int) := by omega
    have hbd2 : decide ((10000 : Int) < (N : Int)) = false := decide_eq_false hbi
    go_wp2
    go_ret2
    exact ⟨A5, c5, B5, L5, C5, by first | rfl | rw [hcv.out], hs5, hbw5⟩
end Go.Proofs.YtoljffghaklpdaaGreatDoor


/- The step that takes the bands and their logarithms. -/
namespace Go.Proofs.YtoljffghaklpdaaGreatDoor
open Go.RowKit

set_option maxHeartbeats 800000 in
theorem measure_any (num den size step kind points cep : Int) (diff ctr : Bool) (A' : Option Addr) (m c' : Nat) (es : List Int) (A : Option Addr) (n c : Nat) (xs : List Int) (w : World) (h : Sl .i64 w A n c xs) (h' : Sl .i64 w A' m c' es) (hm : m ≤ 1000) (hP : BnP xs es) (hbn : ∀ i, i < m - 1 → 0 ≤ bnF xs es i ∧ bnF xs es i ≤ 9223372036854775807) :
    Calls Tryz.prog 125 #[rcV num den size step kind points (.slice A' m c') cep diff ctr, .slice A n c] w (RetM w (m - 1) (tab (m - 1) fun i => (lg (bnF xs es i).toNat : Int))) := by
  have hl' := Lib.hid h'.len
  obtain ⟨q, hq⟩ : ∃ q, m - 1 = q := ⟨_, rfl⟩
  have hB := Lib.hid (Bands_ok A A' n c m c' xs es)
  have hLn : (bnL xs es) = upd q 0 (bnF xs es) fun i => (lg (bnF xs es i).toNat : Int) := by unfold bnL; rw [hl'.out, hq, upd_zero]
  have hP := Lib.hid hP
  rw [hq] at hbn ⊢
  have hq := Lib.hid hq
  have hbn := Lib.hid hbn
  have hLn := Lib.hid hLn
  unfold rcV
  go_enter Tryz.func125, Tryz.ntmps125
  go_wp2_with fail
  refine (hB.out _ (h.alloc _) (h'.alloc _) hm hP.out).mono ?_
  rintro e w2 ⟨g, rfl, hM, hb, hg⟩
  have hbb := below_box hb
  have hgw : w.heap.size ≤ g := by simp at hg; omega
  rw [hLn.out] at hM
  rw [hq.out]
  have hq64 : q ≤ 1000 := by have := hq.out; omega
  go_wp2
  go_loopw [20] (fun iv wr => ∃ k : Nat, iv = .int .i64 k ∧ k ≤ q ∧ Mk wr g 3 .i64 (upd q k (bnF xs es) fun i => (lg (bnF xs es i).toNat : Int)) ∧ Below w.heap.size w wr) (fun iv _ => q - (intOf iv).toNat)
  case atStart => exact ⟨0, rfl, Nat.zero_le _, hM, hbb⟩
  case round =>
    obtain ⟨k, rfl, hkn, hM2, hb2⟩ := hrel
    rcases Nat.lt_or_ge k q with hlt | hge
    · have hc := hM2.cell (i := k) (by rw [upd_len]; exact hlt)
      rw [upd_at hlt] at hc
      have hbk := hbn.out k hlt
      have hst := Lib.hid (upd_set hlt (bnF xs es) fun i => (lg (bnF xs es i).toNat : Int))
      have hM2 := Lib.hid hM2
      generalize bnF xs es k = v at *
      have hv0 : ¬ v < 0 := by omega
      go_wp2_with fail
      refine (Log_any v _ (by omega)).mono ?_
      rw [if_neg (show ¬ v < 0 by omega)]
      rintro e w5 ⟨rfl, hb5⟩
      have hM5 := hM2.out.below hb5
      have hc5 := hM5.frozen k
      have hb6 : Below w.heap.size w w5 := hb2.trans (hb5.mono hb2.size)
      have hcl := hM5.cell (i := k) (by rw [upd_len]; exact hlt)
      have hM3 := hM5.set_ k (lg v.toNat : Int)
      have hb4 := hb6.setCell (p := ⟨g, k, none⟩) hgw (.int .i64 (lg v.toNat : Int))
      rw [hst.out] at hM3
      have hM3 := Lib.hid hM3
      go_wp2
      go_roundw
      case rel => exact ⟨k + 1, by go_num, hlt, hM3.out, hb4⟩
      case measure => simp [intOf]; omega
    · have hkn' : k = q := by omega
      subst hkn'
      rw [upd_all] at hM2
      go_wp2
      go_ret2
      exact ⟨_, rfl, hM2, hb2, hgw⟩
end Go.Proofs.YtoljffghaklpdaaGreatDoor


/- The steps of a recipe, where they hand back a row that can be stored: lists that aren't nil, or empty ones. -/
namespace Go.Proofs.YtoljffghaklpdaaGreatDoor
open Go.RowKit

/-- the call returned a list, beside the code 0, which is nil only with the capacity 0 -/
def RetRow (w : World) (ys : List Int) (e : Ending) (w' : World) : Prop :=
  ∃ A m c, e = .returned (.tuple #[.slice A m c, .int .i64 0]) ∧ Sl .i64 w' A m c ys ∧ (A = none → c = 0) ∧ Below w.heap.size w w'
theorem sl_some {w : World} {A : Option Addr} {n c : Nat} {xs : List Int} (h : Sl .i64 w A n c xs) (hn : 0 < n) : A = none → c = 0 := fun e => by
  obtain ⟨ad, _, e6, _⟩ := h.at_ (j := 0) hn
  rw [e] at e6
  cases e6
theorem RetRow.of_L2 {w : World} {ys : List Int} {code : Int} {e : Ending} {w' : World} (h : RetL2 .i64 w ys code e w') (hc : code = 0) (hy : 0 < ys.length) : RetRow w ys e w' := by
  obtain ⟨A, m, c, rfl, hs, hb⟩ := h
  subst hc
  exact ⟨A, m, c, rfl, hs, sl_some hs (by rw [← hs.len]; exact hy), hb⟩
theorem RetRow.of_M {w : World} {ys : List Int} {n : Nat} {e : Ending} {w' : World} (h : RetM w n ys e w') (hn : ys.length = n) (h2 : n ≤ 140737488355328) : RetRow w ys e w' := by
  obtain ⟨g, rfl, hM, hb, _⟩ := h
  exact ⟨_, n, n, rfl, hM.sl hn h2, (fun e => by cases e), hb⟩
theorem RetRow.of_S {w : World} {ys : List Int} {n : Nat} {e : Ending} {w' : World} (h : RetS w n ys e w') (hn : 0 < n) : RetRow w ys e w' := by
  obtain ⟨A, c, rfl, hs, hb⟩ := h
  exact ⟨A, n, c, rfl, hs, sl_some hs hn, hb⟩

theorem only_nil (g c : Nat) (w : World) (h : Sl .i64 w (some ⟨g, 0, none⟩) 0 c []) :
    Calls Tryz.prog 141 #[.slice (some ⟨g, 0, none⟩) 0 c] w fun e w' => e = .returned (.tuple #[.slice (some ⟨g, 0, none⟩) 0 c, .int .i64 0]) ∧ w = w' := by
  have hv : allB (-2147483647) 2147483647 ([] : List Int) = true := rfl
  go_enter Tryz.func141, Tryz.ntmps141
  go_wp2_with (go_at_call 129; refine (allWithin_any _ _ _ _ _ _ _ h).mono ?_; rintro e w' ⟨rfl, rfl⟩)
  go_ret2
  exact ⟨rfl, rfl⟩
set_option maxHeartbeats 800000 in
set_option maxRecDepth 100000 in
theorem Emphasize_nil (A : Option Addr) (c : Nat) (num den : Int) (w : World) (h : Sl .i64 w A 0 c []) (hd1 : 1 ≤ den) (hd2 : den ≤ 1024) (hn1 : 0 ≤ num) (hn2 : num ≤ den) :
    Calls Tryz.prog 85 #[.slice A 0 c, .int .i64 num, .int .i64 den] w (RetRow w []) := by
  have hk : chkE [] num den = 0 := by
    rcases chkE_cases [] num den with ⟨hk, _⟩ | hk | hk
    · exact hk
    · exfalso
      unfold chkE chkV_w at hk
      rw [show chk (-2147483647) 2147483647 ([] : List Int) = 0 from rfl] at hk
      simp [okB_mk hd1 hd2, okB_mk hn1 hn2] at hk
    · exfalso
      unfold chkE chkV_w at hk
      rw [show chk (-2147483647) 2147483647 ([] : List Int) = 0 from rfl] at hk
      simp [okB_mk hd1 hd2, okB_mk hn1 hn2] at hk
  have hcap := h.cap
  have htop := h.top
  have hmk : ∀ w : World, (Instr.makeSlice 28 (.int .i64 0) (.int .i64 0)).run Tryz.prog w = .ok (.slice (some ⟨w.heap.size, 0, none⟩) 0 0) (w.alloc (.cells (ivs .i64 (zs 0)).toArray 3)) := make_int 0 (by omega)
  go_enter Tryz.func85, Tryz.ntmps85
  go_wp2_with (go_at_call 140; refine (checkEmphasis_any _ _ _ _ _ _ _ h).mono ?_; rintro e w' ⟨rfl, rfl⟩)
  clear hk hmk
  refine wp_loop_rounds 1 ?_
  rw [rounds_succ]
  have hM : Sl .i64 (w.alloc (.cells (ivs .i64 (zs 0)).toArray 3)) (some ⟨w.heap.size, 0, none⟩) 0 0 [] := ⟨rfl, Nat.le_refl _, by decide, fun h => absurd h (by omega)⟩
  have hb := (Below.refl w.heap.size w).alloc (Nat.le_refl _) (.cells (ivs .i64 (zs 0)).toArray 3)
  go_wp2_with (go_at_call 141; refine (only_nil _ _ _ hM).mono ?_; rintro e w' ⟨rfl, rfl⟩)
  go_ret2
  exact ⟨_, 0, 0, rfl, hM, (fun e => by cases e), hb⟩
end Go.Proofs.YtoljffghaklpdaaGreatDoor


/- A list of lists, each taken by the same function value. -/
namespace Go.Proofs.YtoljffghaklpdaaGreatDoor
open Go.RowKit

set_option maxHeartbeats 1600000 in
set_option maxRecDepth 100000 in
theorem each1_any (fid : Nat) (rc : Value) (gv : Addr) (A : Option Addr) (n c : Nat) (vs : List (List Int)) (f : List Int → List Int) (w : World) (h : Rr w A n c vs) (hn : n ≤ 10000)
    (hc : w.cell? gv = some (.func (.func fid) #[rc] #[])) (hcf : ∀ (a : Array Value) (w : World), (callFunc fid a).run Tryz.prog w = .ok (.enter fid a) w)
    (hf : ∀ x, x ∈ vs → ∀ B L C W, Below w.heap.size w W → Sl .i64 W B L C x → Calls Tryz.prog fid #[rc, .slice B L C] W (RetRow W (f x)))
    (hfl : ∀ x, x ∈ vs → (f x).length ≤ 17592186044416) :
    Calls Tryz.prog 166 #[.slice A n c, .pointer (some gv)] w fun e w' => ∃ A' c', e = .returned (.tuple #[.slice A' n c', .int .i64 0]) ∧ Rr w' A' n c' (vs.map f) ∧ Below w.heap.size w w' := by
  have hl := Lib.hid h.len
  have hcap := h.cap
  have htop := h.top
  have hmk := make_rows n (by omega)
  have hf := Lib.hid hf
  have hfl := Lib.hid hfl
  have hgl := World.block_lt_of_cell? _ _ hc
  go_enter Tryz.func166, Tryz.ntmps166
  go_wp2
  clear hmk
  have hst := RFill.start (n := n) (Below.refl w.heap.size w)
  go_loopw [15] (fun iv wr => ∃ t : Nat, iv = .int .i64 t ∧ t ≤ n ∧ RFill w wr w.heap.size n t ((vs.take t).map f)) (fun iv _ => n - (intOf iv).toNat)
  case atStart => exact ⟨0, rfl, Nat.zero_le _, hst⟩
  case round =>
    obtain ⟨t, rfl, ht, hF⟩ := hrel
    clear hst
    have hr := h.below hF.bel
    have hcw := (hF.bel.cell hgl).trans hc
    clear hc
    rcases Nat.lt_or_ge t n with hlt | hge
    · obtain ⟨ad, B, L, C, x, rfl, hcx, hx, hS, hB0, hL0⟩ := hr.at_ hlt
      go_wp2_with fail
      refine (hf.out x (List.mem_of_getElem? hx.out) B L C wr hF.bel hS).mono ?_
      rintro e w4 ⟨A4, m4, c4, rfl, hS4, hn4, hb4⟩
      have hF4 := hF.below hb4
      have hcg := hF4.cell hlt
      have hfg := hF4.frozen t
      have hN := hF4.next hlt hS4 hn4 (by rw [← hS4.len]; exact hfl.out x (List.mem_of_getElem? hx.out))
      have hN : RFill w (w4.setCell ⟨w.heap.size, t, none⟩ (.slice A4 m4 c4)) w.heap.size n (t + 1) ((vs.take (t + 1)).map f) := by
        rw [List.take_add_one, List.map_append, hx.out]
        exact hN
      have hN := Lib.hid hN
      go_wp2
      go_roundw
      case rel => exact ⟨t + 1, by go_num, hlt, hN.out⟩
      case measure => simp [intOf]; omega
    · have htn : t = n := by omega
      subst htn
      have hD := hF.done (by omega)
      rw [List.take_of_length_le (by rw [hl.out]; omega)] at hD
      have hbw := hF.bel
      go_wp2
      go_ret2
      exact ⟨_, _, rfl, hD, hbw⟩

/-- the closure of each -/
def cloV (g : Nat) : Value := .func (.func 166) #[] #[.pointer (some ⟨g, 0, none⟩)]
theorem each_any (fid : Nat) (rc : Value) (w : World) :
    Calls Tryz.prog 120 #[.func (.func fid) #[rc] #[]] w fun e w' => ∃ g, e = .returned (.func (.func 166) #[] #[.pointer (some ⟨g, 0, none⟩)]) ∧ w'.cell? ⟨g, 0, none⟩ = some (.func (.func fid) #[rc] #[]) ∧ Below w.heap.size w w' := by
  have hmf : ∀ (fn : Fn) (first cap : Array Value) (w : World), (Instr.makeFunc fn first cap).run Tryz.prog w = .ok (.func fn first cap) w := fun _ _ _ _ => rfl
  go_enter Tryz.func120, Tryz.ntmps120
  go_wp2
  go_ret
  exact ⟨_, rfl, by simp, (Below.refl _ _).alloc (Nat.le_refl _) _⟩
end Go.Proofs.YtoljffghaklpdaaGreatDoor
