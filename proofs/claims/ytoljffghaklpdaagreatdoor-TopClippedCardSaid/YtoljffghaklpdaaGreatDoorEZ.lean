/- The features of a part of a recording that begins and ends with a frame, where nothing is emphasized: mathematics alone. -/
import Derived.Test.YtoljffghaklpdaaGreatDoorES
import Derived.Test.YtoljffghaklpdaaGreatDoorEU
import Derived.Test.YtoljffghaklpdaaGreatDoorHM
import Derived.Test.YtoljffghaklpdaaGreatDoorJA
import Derived.Test.YtoljffghaklpdaaGreatDoorZC0
import Derived.Test.YtoljffghaklpdaaGreatDoorZP6
import Derived.Test.YtoljffghaklpdaaGreatDoorEV
namespace Go.Proofs.YtoljffghaklpdaaGreatDoor
open Go.RowKit

theorem em_zero (xs : List Int) {den : Int} (hd : 1 ≤ den) : emF xs 0 den = xs := by
  unfold emF
  refine Eq.trans (tab_congr fun i _ => ?_) (tab_self xs)
  unfold emAt rnd
  rw [Int.zero_mul, if_neg (by decide), Int.mul_zero, Int.zero_add, Int.ediv_eq_zero_of_lt (by omega) (by omega), Int.sub_zero]
theorem cut_getD (xs : List Int) {a b i : Nat} (h : a + i < b) : ((xs.take b).drop a).getD i 0 = xs.getD (a + i) 0 := by
  rw [List.getD_eq_getElem?_getD, List.getD_eq_getElem?_getD, List.getElem?_drop, List.getElem?_take_of_lt h]
/-- where a part of so many frames ends -/
theorem cut_in {n s p f t : Nat} (hs : 1 ≤ s) (hp : 1 ≤ p) (hft : f < t) (ht : t ≤ fcount n s p false) : f * p ≤ (t - 1) * p + s ∧ (t - 1) * p + s ≤ n ∧ (t - 1) * p + s - f * p = (t - 1 - f) * p + s := by
  have h1 := ((fcount_at (n := n) (s := s) (p := p) (pad := false) hs hp (t := t - 1)).1 (by omega)).2.resolve_left (by decide)
  have h2 : f * p ≤ (t - 1) * p := Nat.mul_le_mul_right _ (by omega)
  have h3 := Nat.sub_mul (t - 1) f p
  omega
theorem fr_cut (xs : List Int) {s p : Int} {f t : Nat} (hs : 1 ≤ s) (hp : 1 ≤ p) (hft : f < t) (ht : t ≤ fcount xs.length s.toNat p.toNat false) :
    frF ((xs.take ((t - 1) * p.toNat + s.toNat)).drop (f * p.toNat)) s p = ((frF xs s p).take t).drop f := by
  have h1 := cut_in (n := xs.length) (s := s.toNat) (p := p.toNat) (by omega) (by omega) hft ht
  unfold frF
  rw [← List.map_take, ← List.map_drop, List.take_range, Nat.min_eq_left ht]
  have hL : ((xs.take ((t - 1) * p.toNat + s.toNat)).drop (f * p.toNat)).length = (t - 1 - f) * p.toNat + s.toNat := by
    rw [List.length_drop, List.length_take, Nat.min_eq_left h1.2.1]; exact h1.2.2
  rw [hL, fcount_nopad, if_neg (by omega), Nat.add_sub_cancel, Nat.mul_div_cancel _ (by omega)]
  have e : (List.range t).drop f = (List.range (t - 1 - f + 1)).map (f + ·) := by
    apply List.ext_getElem
    · simp; omega
    · intro i h1 h2
      simp
  rw [e, List.map_map]
  refine List.map_congr_left fun k hk => ?_
  have hk := List.mem_range.1 hk
  show frameL _ _ _ k = frameL xs _ _ (f + k)
  unfold frameL
  refine tab_congr fun i hi => ?_
  have h2 : (f + k) * p.toNat ≤ (t - 1) * p.toNat := Nat.mul_le_mul_right _ (by omega)
  have h3 := Nat.add_mul f k p.toNat
  rw [cut_getD xs (by omega)]
  congr 1
  omega
/-- the features of a part are those of its frames -/
theorem feat_cut {den size step kind cep : Int} {p : Nat} {es : List Int} (xs : List Int) {f t : Nat} (hd : 1 ≤ den) (hs : 1 ≤ size) (hp : 1 ≤ step) (hft : f < t) (ht : t ≤ fcount xs.length size.toNat step.toNat false) :
    featL 0 den size step kind p cep es false false ((xs.take ((t - 1) * step.toNat + size.toNat)).drop (f * step.toNat)) = ((featL 0 den size step kind p cep es false false xs).take t).drop f := by
  show (frF (emF _ 0 den) size step).map (ftF kind p es cep) = (((frF (emF xs 0 den) size step).map (ftF kind p es cep)).take t).drop f
  rw [em_zero _ hd, em_zero _ hd, fr_cut xs hs hp hft ht, ← List.map_take, ← List.map_drop]
theorem feat_vec {num den size step kind points cep : Int} {es xs : List Int} (hR : RcP num den size step kind points cep es) (hx : allB (-32768) 32767 xs = true) (hl : xs.length ≤ 200000) : VecM (ftN es cep) 128000 (featL num den size step kind points.toNat cep es false false xs) := by
  obtain ⟨⟨hd1, hd2⟩, ⟨hn1, hn2⟩, ⟨hp1, hp2⟩, ⟨hs1, hs2⟩, _, ⟨hk1, hk2⟩, h33, hE, hc0, hc2⟩ := hR
  have hem := em_ok hd1 hd2 hn1 hn2 hx hl
  have hp64 := (lenB_le hp2).2.1
  intro u hu
  have hu : u ∈ (frF (emF xs num den) size step).map (ftF kind points.toNat es cep) := hu
  obtain ⟨x, hxx, rfl⟩ := List.mem_map.1 hu
  have hr := fr_row hem.2.2 hxx
  exact ft_ok (s := size.toNat) hk1 hk2 (by omega) (by omega) hp2 (by rw [Int.toNat_of_nonneg hp1]; exact hE) h33 hc0 hc2 hr.1 hr.2
/-- vectors of as many numbers as the codewords have can be coded -/
theorem cod_zero {m : Nat} {M : Int} {vs us : List (List Int)} (h : VecM m M vs) (hM : M ≤ 1048576) (h1 : 1 ≤ m) (h2 : m ≤ 64) (hn : vs.length ≤ 10000) (h0 : 0 < vs.length) (hu : vecsB us = true) (hu2 : okB 1 256 us.length = true) (hh : (us.headD []).length = m) : codC vs us = 0 := by
  have hu3 := okB_iff.1 hu2
  have hk : chk2 vs us = 0 := by
    unfold chk2
    rw [if_neg (by omega), if_pos]
    unfold vecsB
    have hd : ((vs ++ us).headD []).length = m := by
      cases vs with
      | nil => simp at h0
      | cons a l => exact (h a List.mem_cons_self).1
    rw [List.all_eq_true]
    intro x hx
    unfold rowOk
    rw [hd]
    rcases List.mem_append.1 hx with hx | hx
    · have hx2 := h x hx
      unfold vecB
      rw [hx2.1, okB_mk (by omega) (by omega), allB_wide hx2.2 (by omega) hM]
      simp
    · have hx2 := List.all_eq_true.1 hu x hx
      unfold rowOk at hx2
      rw [hh] at hx2
      exact hx2
  unfold codC
  rw [if_pos hk, if_pos hu2]
/-- the numbers of the nearest codewords -/
def symL (us vs : List (List Int)) : List Int := tab vs.length fun i => ((nrS (vs.getD i []) us us.length).1 : Nat)
theorem sym_len (us vs : List (List Int)) : (symL us vs).length = vs.length := tab_len _ _
theorem sym_cut (us vs : List (List Int)) {f t : Nat} (hft : f ≤ t) (ht : t ≤ vs.length) : symL us ((vs.take t).drop f) = ((symL us vs).take t).drop f := by
  have hL : ((vs.take t).drop f).length = t - f := by rw [List.length_drop, List.length_take, Nat.min_eq_left ht]
  unfold symL
  rw [hL, tab_take ht, tab_drop hft]
  refine tab_congr fun i hi => ?_
  rw [show ((vs.take t).drop f).getD i [] = vs.getD (f + i) [] by
    rw [List.getD_eq_getElem?_getD, List.getD_eq_getElem?_getD, List.getElem?_drop, List.getElem?_take_of_lt (by omega)]]
theorem Quant_ok (A A' : Option Addr) (N c n c' : Nat) (vs us : List (List Int)) (w : World) (h : Rr w A N c vs) (h' : Rr w A' n c' us) (h0 : codC vs us = 0) :
    Calls Tryz.prog 34 #[.slice A N c, .slice A' n c'] w (RetM w N (symL us vs)) := (Quantize_any A A' N c n c' vs us w h h').mono fun e w' hh => by
  rcases hh with ⟨_, h1⟩ | ⟨h1, _⟩
  · unfold symL
    rw [h.len, h'.len]
    exact h1
  · exact absurd h0 h1
end Go.Proofs.YtoljffghaklpdaaGreatDoor


/- A part of a recording. -/
namespace Go.Proofs.YtoljffghaklpdaaGreatDoor
open Go.RowKit

set_option maxHeartbeats 1600000 in
set_option maxRecDepth 100000 in
theorem Clip_bad (rate : Int) (A : Option Addr) (n c : Nat) (xs : List Int) (a b : Int) (w : World) (h : Sl .i64 w A n c xs) (k : Int) (hk : chkR rate xs = k) (h0 : (k == 0) = false) :
    Calls Tryz.prog 33 #[.agg #[.int .i64 rate, .slice A n c], .agg #[.int .i64 a, .int .i64 b]] w (RetRec w 0 [] k) := by
  have hB0 := ((Blk.new w 30 #[.int .i64 rate, .slice A n c]).alloc (.cells #[.int .i64 a, .int .i64 b] 61)).alloc (.cells #[.int .i64 0, .slice none 0 0] 30)
  have hG0 := (Blk.new (w.alloc (.cells #[.int .i64 rate, .slice A n c] 30)) 61 #[.int .i64 a, .int .i64 b]).alloc (.cells #[.int .i64 0, .slice none 0 0] 30)
  have hR0 := Blk.new ((w.alloc (.cells #[.int .i64 rate, .slice A n c] 30)).alloc (.cells #[.int .i64 a, .int .i64 b] 61)) 30 #[.int .i64 0, .slice none 0 0]
  rw [show (w.alloc (.cells #[.int .i64 rate, .slice A n c] 30)).heap.size = w.heap.size + 1 from by simp] at hG0
  rw [show ((w.alloc (.cells #[.int .i64 rate, .slice A n c] 30)).alloc (.cells #[.int .i64 a, .int .i64 b] 61)).heap.size = w.heap.size + 1 + 1 from by simp] at hR0
  have hw0 := (((Below.refl w.heap.size w).alloc (Nat.le_refl _) (.cells #[.int .i64 rate, .slice A n c] 30)).alloc (by simp) (.cells #[.int .i64 a, .int .i64 b] 61)).alloc (by simp; omega) (.cells #[.int .i64 0, .slice none 0 0] 30)
  have h1 := h.below hw0
  have hl := Lib.hid h.len
  have hcap := h.cap
  have htop := h.top
  have hk := Lib.hid hk
  go_enter Tryz.func33, Tryz.ntmps33
  go_wp2_with fail
  generalize ((w.alloc (.cells #[.int .i64 rate, .slice A n c] 30)).alloc (.cells #[.int .i64 a, .int .i64 b] 61)).alloc (.cells #[.int .i64 0, .slice none 0 0] 30) = w1 at *
  refine (checkRecording_any _ _ _ _ _ _ h1).mono ?_
  rintro e w2 ⟨he, hb2⟩
  rw [hk.out] at he
  subst he
  have hR2 := hR0.below hb2
  have hB2 := hB0.below hb2
  have hG2 := hG0.below hb2
  have h2 := h1.below hb2
  have b0 := hB2.cell 0
  have b1 := hB2.cell 1
  have g0 := hG2.cell 0
  have g1 := hG2.cell 1
  have f0 := hR2.frozen 0
  have f1 := hR2.frozen 1
  have c0 := hR2.cell 0
  have c1 := hR2.cell 1
  have hsz := hb2.size
  have hsz0 := hw0.size
  go_wp2
  exact ret_rec2 rfl rfl ((hR2.set_ 0 _).set_ 1 _) rfl ⟨none, 0, 0, rfl, Sl.nil _ _, ((hw0.trans (hb2.mono hsz0)).setCell (p := ⟨w.heap.size + 1 + 1, 0, none⟩) (by simp; omega) _).setCell (p := ⟨w.heap.size + 1 + 1, 1, none⟩) (by simp; omega) _⟩

set_option maxHeartbeats 1600000 in
set_option maxRecDepth 100000 in
theorem Clip_far (rate : Int) (A : Option Addr) (n c : Nat) (xs : List Int) (a b : Int) (w : World) (h : Sl .i64 w A n c xs) (hk : chkR rate xs = 0) (hb : okB 0 n b = false) :
    Calls Tryz.prog 33 #[.agg #[.int .i64 rate, .slice A n c], .agg #[.int .i64 a, .int .i64 b]] w (RetRec w 0 [] 2) := by
  have hB0 := ((Blk.new w 30 #[.int .i64 rate, .slice A n c]).alloc (.cells #[.int .i64 a, .int .i64 b] 61)).alloc (.cells #[.int .i64 0, .slice none 0 0] 30)
  have hG0 := (Blk.new (w.alloc (.cells #[.int .i64 rate, .slice A n c] 30)) 61 #[.int .i64 a, .int .i64 b]).alloc (.cells #[.int .i64 0, .slice none 0 0] 30)
  have hR0 := Blk.new ((w.alloc (.cells #[.int .i64 rate, .slice A n c] 30)).alloc (.cells #[.int .i64 a, .int .i64 b] 61)) 30 #[.int .i64 0, .slice none 0 0]
  rw [show (w.alloc (.cells #[.int .i64 rate, .slice A n c] 30)).heap.size = w.heap.size + 1 from by simp] at hG0
  rw [show ((w.alloc (.cells #[.int .i64 rate, .slice A n c] 30)).alloc (.cells #[.int .i64 a, .int .i64 b] 61)).heap.size = w.heap.size + 1 + 1 from by simp] at hR0
  have hw0 := (((Below.refl w.heap.size w).alloc (Nat.le_refl _) (.cells #[.int .i64 rate, .slice A n c] 30)).alloc (by simp) (.cells #[.int .i64 a, .int .i64 b] 61)).alloc (by simp; omega) (.cells #[.int .i64 0, .slice none 0 0] 30)
  have h1 := h.below hw0
  have hl := Lib.hid h.len
  have hcap := h.cap
  have htop := h.top
  have hk := Lib.hid hk
  go_enter Tryz.func33, Tryz.ntmps33
  go_wp2_with fail
  generalize ((w.alloc (.cells #[.int .i64 rate, .slice A n c] 30)).alloc (.cells #[.int .i64 a, .int .i64 b] 61)).alloc (.cells #[.int .i64 0, .slice none 0 0] 30) = w1 at *
  refine (checkRecording_any _ _ _ _ _ _ h1).mono ?_
  rintro e w2 ⟨he, hb2⟩
  rw [hk.out] at he
  subst he
  have hR2 := hR0.below hb2
  have hB2 := hB0.below hb2
  have hG2 := hG0.below hb2
  have h2 := h1.below hb2
  have b0 := hB2.cell 0
  have b1 := hB2.cell 1
  have g0 := hG2.cell 0
  have g1 := hG2.cell 1
  have f0 := hR2.frozen 0
  have f1 := hR2.frozen 1
  have c0 := hR2.cell 0
  have c1 := hR2.cell 1
  have hsz := hb2.size
  have hsz0 := hw0.size
  go_wp2_with (go_at_call 51; refine (within_any _ _ _ _).mono ?_; rintro e w' ⟨rfl, rfl⟩)
  exact ret_rec2 rfl rfl ((hR2.set_ 0 _).set_ 1 _) rfl ⟨none, 0, 0, rfl, Sl.nil _ _, ((hw0.trans (hb2.mono hsz0)).setCell (p := ⟨w.heap.size + 1 + 1, 0, none⟩) (by simp; omega) _).setCell (p := ⟨w.heap.size + 1 + 1, 1, none⟩) (by simp; omega) _⟩

set_option maxHeartbeats 1600000 in
set_option maxRecDepth 100000 in
theorem Clip_near (rate : Int) (A : Option Addr) (n c : Nat) (xs : List Int) (a b : Int) (w : World) (h : Sl .i64 w A n c xs) (hk : chkR rate xs = 0) (hb : okB 0 n b = true) (ha : okB 0 b a = false) :
    Calls Tryz.prog 33 #[.agg #[.int .i64 rate, .slice A n c], .agg #[.int .i64 a, .int .i64 b]] w (RetRec w 0 [] 2) := by
  have hB0 := ((Blk.new w 30 #[.int .i64 rate, .slice A n c]).alloc (.cells #[.int .i64 a, .int .i64 b] 61)).alloc (.cells #[.int .i64 0, .slice none 0 0] 30)
  have hG0 := (Blk.new (w.alloc (.cells #[.int .i64 rate, .slice A n c] 30)) 61 #[.int .i64 a, .int .i64 b]).alloc (.cells #[.int .i64 0, .slice none 0 0] 30)
  have hR0 := Blk.new ((w.alloc (.cells #[.int .i64 rate, .slice A n c] 30)).alloc (.cells #[.int .i64 a, .int .i64 b] 61)) 30 #[.int .i64 0, .slice none 0 0]
  rw [show (w.alloc (.cells #[.int .i64 rate, .slice A n c] 30)).heap.size = w.heap.size + 1 from by simp] at hG0
  rw [show ((w.alloc (.cells #[.int .i64 rate, .slice A n c] 30)).alloc (.cells #[.int .i64 a, .int .i64 b] 61)).heap.size = w.heap.size + 1 + 1 from by simp] at hR0
  have hw0 := (((Below.refl w.heap.size w).alloc (Nat.le_refl _) (.cells #[.int .i64 rate, .slice A n c] 30)).alloc (by simp) (.cells #[.int .i64 a, .int .i64 b] 61)).alloc (by simp; omega) (.cells #[.int .i64 0, .slice none 0 0] 30)
  have h1 := h.below hw0
  have hl := Lib.hid h.len
  have hcap := h.cap
  have htop := h.top
  have hk := Lib.hid hk
  go_enter Tryz.func33, Tryz.ntmps33
  go_wp2_with fail
  generalize ((w.alloc (.cells #[.int .i64 rate, .slice A n c] 30)).alloc (.cells #[.int .i64 a, .int .i64 b] 61)).alloc (.cells #[.int .i64 0, .slice none 0 0] 30) = w1 at *
  refine (checkRecording_any _ _ _ _ _ _ h1).mono ?_
  rintro e w2 ⟨he, hb2⟩
  rw [hk.out] at he
  subst he
  have hR2 := hR0.below hb2
  have hB2 := hB0.below hb2
  have hG2 := hG0.below hb2
  have h2 := h1.below hb2
  have b0 := hB2.cell 0
  have b1 := hB2.cell 1
  have g0 := hG2.cell 0
  have g1 := hG2.cell 1
  have f0 := hR2.frozen 0
  have f1 := hR2.frozen 1
  have c0 := hR2.cell 0
  have c1 := hR2.cell 1
  have hsz := hb2.size
  have hsz0 := hw0.size
  go_wp2_with (go_at_call 51; refine (within_any _ _ _ _).mono ?_; rintro e w' ⟨rfl, rfl⟩)
  exact ret_rec2 rfl rfl ((hR2.set_ 0 _).set_ 1 _) rfl ⟨none, 0, 0, rfl, Sl.nil _ _, ((hw0.trans (hb2.mono hsz0)).setCell (p := ⟨w.heap.size + 1 + 1, 0, none⟩) (by simp; omega) _).setCell (p := ⟨w.heap.size + 1 + 1, 1, none⟩) (by simp; omega) _⟩

set_option maxHeartbeats 1600000 in
set_option maxRecDepth 100000 in
theorem Clip_some (rate : Int) (ad : Addr) (n c : Nat) (xs : List Int) (i j : Nat) (w : World) (h : Sl .i64 w (some ad) n c xs) (hij : i ≤ j) (hjn : j ≤ n) (hci : ¬ c = i) (hn : n ≤ 200000) (hk : chkR rate xs = 0) :
    Calls Tryz.prog 33 #[.agg #[.int .i64 rate, .slice (some ad) n c], .agg #[.int .i64 (i : Int), .int .i64 (j : Int)]] w (RetRec w rate ((xs.take j).drop i) 0) := by
  have hB0 := ((Blk.new w 30 #[.int .i64 rate, .slice (some ad) n c]).alloc (.cells #[.int .i64 (i : Int), .int .i64 (j : Int)] 61)).alloc (.cells #[.int .i64 0, .slice none 0 0] 30)
  have hG0 := (Blk.new (w.alloc (.cells #[.int .i64 rate, .slice (some ad) n c] 30)) 61 #[.int .i64 (i : Int), .int .i64 (j : Int)]).alloc (.cells #[.int .i64 0, .slice none 0 0] 30)
  have hR0 := Blk.new ((w.alloc (.cells #[.int .i64 rate, .slice (some ad) n c] 30)).alloc (.cells #[.int .i64 (i : Int), .int .i64 (j : Int)] 61)) 30 #[.int .i64 0, .slice none 0 0]
  rw [show (w.alloc (.cells #[.int .i64 rate, .slice (some ad) n c] 30)).heap.size = w.heap.size + 1 from by simp] at hG0
  rw [show ((w.alloc (.cells #[.int .i64 rate, .slice (some ad) n c] 30)).alloc (.cells #[.int .i64 (i : Int), .int .i64 (j : Int)] 61)).heap.size = w.heap.size + 1 + 1 from by simp] at hR0
  have hw0 := (((Below.refl w.heap.size w).alloc (Nat.le_refl _) (.cells #[.int .i64 rate, .slice (some ad) n c] 30)).alloc (by simp) (.cells #[.int .i64 (i : Int), .int .i64 (j : Int)] 61)).alloc (by simp; omega) (.cells #[.int .i64 0, .slice none 0 0] 30)
  have h1 := h.below hw0
  have hl := Lib.hid h.len
  have hcap := h.cap
  have htop := h.top
  have hk := Lib.hid hk
  have ok1 : okB 0 (n : Int) (j : Int) = true := okB_mk (by omega) (by omega)
  have ok2 : okB 0 (j : Int) (i : Int) = true := okB_mk (by omega) (by omega)
  go_enter Tryz.func33, Tryz.ntmps33
  go_wp2_with fail
  generalize ((w.alloc (.cells #[.int .i64 rate, .slice (some ad) n c] 30)).alloc (.cells #[.int .i64 (i : Int), .int .i64 (j : Int)] 61)).alloc (.cells #[.int .i64 0, .slice none 0 0] 30) = w1 at *
  refine (checkRecording_any _ _ _ _ _ _ h1).mono ?_
  rintro e w2 ⟨he, hb2⟩
  rw [hk.out] at he
  subst he
  have hR2 := hR0.below hb2
  have hB2 := hB0.below hb2
  have hG2 := hG0.below hb2
  have h2 := h1.below hb2
  have b0 := hB2.cell 0
  have b1 := hB2.cell 1
  have g0 := hG2.cell 0
  have g1 := hG2.cell 1
  have f0 := hR2.frozen 0
  have f1 := hR2.frozen 1
  have c0 := hR2.cell 0
  have c1 := hR2.cell 1
  have hsz := hb2.size
  have hsz0 := hw0.size
  have hKeep := Lib.hid (fun (wx : World) (hb : Below w1.heap.size w1 wx) => show wx.cell? ⟨w.heap.size, 0, none⟩ = some (.int .i64 rate) ∧ wx.cell? ⟨w.heap.size, 1, none⟩ = some (.slice (some ad) n c) ∧ wx.cell? ⟨w.heap.size + 1, 0, none⟩ = some (.int .i64 (i : Int)) ∧ wx.cell? ⟨w.heap.size + 1, 1, none⟩ = some (.int .i64 (j : Int)) from ⟨(hB0.below hb).cell 0, (hB0.below hb).cell 1, (hG0.below hb).cell 0, (hG0.below hb).cell 1⟩)
  have hKeep2 := Lib.hid (fun (wy : World) (hb : Below w1.heap.size w1 wy) (u v : Value) => show (fun wx => wx.cell? ⟨w.heap.size, 0, none⟩ = some (.int .i64 rate) ∧ wx.cell? ⟨w.heap.size, 1, none⟩ = some (.slice (some ad) n c) ∧ wx.cell? ⟨w.heap.size + 1, 0, none⟩ = some (.int .i64 (i : Int)) ∧ wx.cell? ⟨w.heap.size + 1, 1, none⟩ = some (.int .i64 (j : Int))) ((wy.setCell ⟨w.heap.size + 1 + 1, 0, none⟩ u).setCell ⟨w.heap.size + 1 + 1, 1, none⟩ v) from ⟨(((hB0.below hb).far (p := ⟨w.heap.size + 1 + 1, 0, none⟩) (by simp; omega) u).far (p := ⟨w.heap.size + 1 + 1, 1, none⟩) (by simp; omega) v).cell 0, (((hB0.below hb).far (p := ⟨w.heap.size + 1 + 1, 0, none⟩) (by simp; omega) u).far (p := ⟨w.heap.size + 1 + 1, 1, none⟩) (by simp; omega) v).cell 1, (((hG0.below hb).far (p := ⟨w.heap.size + 1 + 1, 0, none⟩) (by simp) u).far (p := ⟨w.heap.size + 1 + 1, 1, none⟩) (by simp) v).cell 0, (((hG0.below hb).far (p := ⟨w.heap.size + 1 + 1, 0, none⟩) (by simp) u).far (p := ⟨w.heap.size + 1 + 1, 1, none⟩) (by simp) v).cell 1⟩)
  have hsub := ((h2.take (m := j) (by omega)).cut (m := i) (by omega)).drewN 1
  rw [if_neg hci] at hsub
  have hb2d : Below w1.heap.size w1 (w2.drewN 1) := bel_drewN hb2 1
  have hRl : w.heap.size + 1 + 1 < w1.heap.size := hR0.lt
  have hi1 : (i : Int) ≤ (j : Int) := by omega
  have hj1 : (j : Int) ≤ (c : Int) := by omega
  go_wp2_with (go_at_call 51; refine (within_any _ _ _ _).mono ?_; rintro e w' ⟨rfl, rfl⟩)
  go_region_held3 (fun wx => wx.cell? ⟨w.heap.size, 0, none⟩ = some (.int .i64 rate) ∧ wx.cell? ⟨w.heap.size, 1, none⟩ = some (.slice (some ad) n c) ∧ wx.cell? ⟨w.heap.size + 1, 0, none⟩ = some (.int .i64 (i : Int)) ∧ wx.cell? ⟨w.heap.size + 1, 1, none⟩ = some (.int .i64 (j : Int))) (first | exact hKeep.out _ hb2 | exact hKeep.out _ hb2d | exact hKeep.out _ hb13 | exact hKeep2.out _ hb13 _ _ | go_keep)
    (first | (go_at_call 87; refine (Clone_any _ _ _ _ _ hsub (by omega)).mono ?_; rintro e w3 ⟨A3, c3, rfl, hS3, hb3, hfr⟩; have hb13 : Below w1.heap.size w1 w3 := hb2d.trans (hb3.mono hsz); have hR3 := hR0.below hb13; have f0 := hR3.frozen 0; have f1 := hR3.frozen 1; have c0 := hR3.cell 0; have c1 := hR3.cell 1))
  all_goals
    go_wp2
    exact ret_rec2 rfl rfl ((hR3.set_ 0 _).set_ 1 _) rfl ⟨A3, _, c3, rfl, (hS3.farn (fun _ ad e => by have := hfr ad e; have : w1.heap.size ≤ ad.block := Nat.le_trans hsz this; omega) 0 _).farn (fun _ ad e => by have := hfr ad e; have : w1.heap.size ≤ ad.block := Nat.le_trans hsz this; omega) 1 _, ((hw0.trans (hb13.mono hsz0)).setCell (p := ⟨w.heap.size + 1 + 1, 0, none⟩) (by simp; omega) _).setCell (p := ⟨w.heap.size + 1 + 1, 1, none⟩) (by simp; omega) _⟩

set_option maxHeartbeats 1600000 in
set_option maxRecDepth 100000 in
theorem Clip_end (rate : Int) (ad : Addr) (n : Nat) (xs : List Int) (w : World) (h : Sl .i64 w (some ad) n n xs) (hn : n ≤ 200000) (hk : chkR rate xs = 0) :
    Calls Tryz.prog 33 #[.agg #[.int .i64 rate, .slice (some ad) n n], .agg #[.int .i64 (n : Int), .int .i64 (n : Int)]] w (RetRec w rate ((xs.take n).drop n) 0) := by
  have hB0 := ((Blk.new w 30 #[.int .i64 rate, .slice (some ad) n n]).alloc (.cells #[.int .i64 (n : Int), .int .i64 (n : Int)] 61)).alloc (.cells #[.int .i64 0, .slice none 0 0] 30)
  have hG0 := (Blk.new (w.alloc (.cells #[.int .i64 rate, .slice (some ad) n n] 30)) 61 #[.int .i64 (n : Int), .int .i64 (n : Int)]).alloc (.cells #[.int .i64 0, .slice none 0 0] 30)
  have hR0 := Blk.new ((w.alloc (.cells #[.int .i64 rate, .slice (some ad) n n] 30)).alloc (.cells #[.int .i64 (n : Int), .int .i64 (n : Int)] 61)) 30 #[.int .i64 0, .slice none 0 0]
  rw [show (w.alloc (.cells #[.int .i64 rate, .slice (some ad) n n] 30)).heap.size = w.heap.size + 1 from by simp] at hG0
  rw [show ((w.alloc (.cells #[.int .i64 rate, .slice (some ad) n n] 30)).alloc (.cells #[.int .i64 (n : Int), .int .i64 (n : Int)] 61)).heap.size = w.heap.size + 1 + 1 from by simp] at hR0
  have hw0 := (((Below.refl w.heap.size w).alloc (Nat.le_refl _) (.cells #[.int .i64 rate, .slice (some ad) n n] 30)).alloc (by simp) (.cells #[.int .i64 (n : Int), .int .i64 (n : Int)] 61)).alloc (by simp; omega) (.cells #[.int .i64 0, .slice none 0 0] 30)
  have h1 := h.below hw0
  have hl := Lib.hid h.len
  have hcap := h.cap
  have htop := h.top
  have hk := Lib.hid hk
  have ok1 : okB 0 (n : Int) (n : Int) = true := okB_mk (by omega) (by omega)
  have ok2 : okB 0 (n : Int) (n : Int) = true := okB_mk (by omega) (by omega)
  go_enter Tryz.func33, Tryz.ntmps33
  go_wp2_with fail
  generalize ((w.alloc (.cells #[.int .i64 rate, .slice (some ad) n n] 30)).alloc (.cells #[.int .i64 (n : Int), .int .i64 (n : Int)] 61)).alloc (.cells #[.int .i64 0, .slice none 0 0] 30) = w1 at *
  refine (checkRecording_any _ _ _ _ _ _ h1).mono ?_
  rintro e w2 ⟨he, hb2⟩
  rw [hk.out] at he
  subst he
  have hR2 := hR0.below hb2
  have hB2 := hB0.below hb2
  have hG2 := hG0.below hb2
  have h2 := h1.below hb2
  have b0 := hB2.cell 0
  have b1 := hB2.cell 1
  have g0 := hG2.cell 0
  have g1 := hG2.cell 1
  have f0 := hR2.frozen 0
  have f1 := hR2.frozen 1
  have c0 := hR2.cell 0
  have c1 := hR2.cell 1
  have hsz := hb2.size
  have hsz0 := hw0.size
  have hKeep := Lib.hid (fun (wx : World) (hb : Below w1.heap.size w1 wx) => show wx.cell? ⟨w.heap.size, 0, none⟩ = some (.int .i64 rate) ∧ wx.cell? ⟨w.heap.size, 1, none⟩ = some (.slice (some ad) n n) ∧ wx.cell? ⟨w.heap.size + 1, 0, none⟩ = some (.int .i64 (n : Int)) ∧ wx.cell? ⟨w.heap.size + 1, 1, none⟩ = some (.int .i64 (n : Int)) from ⟨(hB0.below hb).cell 0, (hB0.below hb).cell 1, (hG0.below hb).cell 0, (hG0.below hb).cell 1⟩)
  have hKeep2 := Lib.hid (fun (wy : World) (hb : Below w1.heap.size w1 wy) (u v : Value) => show (fun wx => wx.cell? ⟨w.heap.size, 0, none⟩ = some (.int .i64 rate) ∧ wx.cell? ⟨w.heap.size, 1, none⟩ = some (.slice (some ad) n n) ∧ wx.cell? ⟨w.heap.size + 1, 0, none⟩ = some (.int .i64 (n : Int)) ∧ wx.cell? ⟨w.heap.size + 1, 1, none⟩ = some (.int .i64 (n : Int))) ((wy.setCell ⟨w.heap.size + 1 + 1, 0, none⟩ u).setCell ⟨w.heap.size + 1 + 1, 1, none⟩ v) from ⟨(((hB0.below hb).far (p := ⟨w.heap.size + 1 + 1, 0, none⟩) (by simp; omega) u).far (p := ⟨w.heap.size + 1 + 1, 1, none⟩) (by simp; omega) v).cell 0, (((hB0.below hb).far (p := ⟨w.heap.size + 1 + 1, 0, none⟩) (by simp; omega) u).far (p := ⟨w.heap.size + 1 + 1, 1, none⟩) (by simp; omega) v).cell 1, (((hG0.below hb).far (p := ⟨w.heap.size + 1 + 1, 0, none⟩) (by simp) u).far (p := ⟨w.heap.size + 1 + 1, 1, none⟩) (by simp) v).cell 0, (((hG0.below hb).far (p := ⟨w.heap.size + 1 + 1, 0, none⟩) (by simp) u).far (p := ⟨w.heap.size + 1 + 1, 1, none⟩) (by simp) v).cell 1⟩)
  have hsub := ((h2.take (m := n) (by omega)).cut (m := n) (by omega)).drewN 1
  rw [if_pos rfl, Nat.sub_self] at hsub
  have hb2d : Below w1.heap.size w1 (w2.drewN 1) := bel_drewN hb2 1
  have hRl : w.heap.size + 1 + 1 < w1.heap.size := hR0.lt
  have hi1 : (n : Int) ≤ (n : Int) := by omega
  have hj1 : (n : Int) ≤ (n : Int) := by omega
  go_wp2_with (go_at_call 51; refine (within_any _ _ _ _).mono ?_; rintro e w' ⟨rfl, rfl⟩)
  go_region_held3 (fun wx => wx.cell? ⟨w.heap.size, 0, none⟩ = some (.int .i64 rate) ∧ wx.cell? ⟨w.heap.size, 1, none⟩ = some (.slice (some ad) n n) ∧ wx.cell? ⟨w.heap.size + 1, 0, none⟩ = some (.int .i64 (n : Int)) ∧ wx.cell? ⟨w.heap.size + 1, 1, none⟩ = some (.int .i64 (n : Int))) (first | exact hKeep.out _ hb2 | exact hKeep.out _ hb2d | exact hKeep.out _ hb13 | exact hKeep2.out _ hb13 _ _ | go_keep)
    (first | (go_at_call 87; refine (Clone_any _ _ _ _ _ hsub (by omega)).mono ?_; rintro e w3 ⟨A3, c3, rfl, hS3, hb3, hfr⟩; have hb13 : Below w1.heap.size w1 w3 := hb2d.trans (hb3.mono hsz); have hR3 := hR0.below hb13; have f0 := hR3.frozen 0; have f1 := hR3.frozen 1; have c0 := hR3.cell 0; have c1 := hR3.cell 1))
  all_goals
    go_wp2
    exact ret_rec2 rfl rfl ((hR3.set_ 0 _).set_ 1 _) rfl ⟨A3, _, c3, rfl, (hS3.farn (fun _ ad e => by have := hfr ad e; have : w1.heap.size ≤ ad.block := Nat.le_trans hsz this; omega) 0 _).farn (fun _ ad e => by have := hfr ad e; have : w1.heap.size ≤ ad.block := Nat.le_trans hsz this; omega) 1 _, ((hw0.trans (hb13.mono hsz0)).setCell (p := ⟨w.heap.size + 1 + 1, 0, none⟩) (by simp; omega) _).setCell (p := ⟨w.heap.size + 1 + 1, 1, none⟩) (by simp; omega) _⟩

set_option maxHeartbeats 1600000 in
set_option maxRecDepth 100000 in
theorem Clip_none (rate : Int) (n c : Nat) (xs : List Int) (i j : Nat) (w : World) (h : Sl .i64 w none n c xs) (hij : i ≤ j) (hjn : j ≤ n) (hn : n ≤ 200000) (hk : chkR rate xs = 0) :
    Calls Tryz.prog 33 #[.agg #[.int .i64 rate, .slice none n c], .agg #[.int .i64 (i : Int), .int .i64 (j : Int)]] w (RetRec w rate ((xs.take j).drop i) 0) := by
  have hB0 := ((Blk.new w 30 #[.int .i64 rate, .slice none n c]).alloc (.cells #[.int .i64 (i : Int), .int .i64 (j : Int)] 61)).alloc (.cells #[.int .i64 0, .slice none 0 0] 30)
  have hG0 := (Blk.new (w.alloc (.cells #[.int .i64 rate, .slice none n c] 30)) 61 #[.int .i64 (i : Int), .int .i64 (j : Int)]).alloc (.cells #[.int .i64 0, .slice none 0 0] 30)
  have hR0 := Blk.new ((w.alloc (.cells #[.int .i64 rate, .slice none n c] 30)).alloc (.cells #[.int .i64 (i : Int), .int .i64 (j : Int)] 61)) 30 #[.int .i64 0, .slice none 0 0]
  rw [show (w.alloc (.cells #[.int .i64 rate, .slice none n c] 30)).heap.size = w.heap.size + 1 from by simp] at hG0
  rw [show ((w.alloc (.cells #[.int .i64 rate, .slice none n c] 30)).alloc (.cells #[.int .i64 (i : Int), .int .i64 (j : Int)] 61)).heap.size = w.heap.size + 1 + 1 from by simp] at hR0
  have hw0 := (((Below.refl w.heap.size w).alloc (Nat.le_refl _) (.cells #[.int .i64 rate, .slice none n c] 30)).alloc (by simp) (.cells #[.int .i64 (i : Int), .int .i64 (j : Int)] 61)).alloc (by simp; omega) (.cells #[.int .i64 0, .slice none 0 0] 30)
  have h1 := h.below hw0
  have hl := Lib.hid h.len
  have hcap := h.cap
  have htop := h.top
  have hk := Lib.hid hk
  have ok1 : okB 0 (n : Int) (j : Int) = true := okB_mk (by omega) (by omega)
  have ok2 : okB 0 (j : Int) (i : Int) = true := okB_mk (by omega) (by omega)
  go_enter Tryz.func33, Tryz.ntmps33
  go_wp2_with fail
  generalize ((w.alloc (.cells #[.int .i64 rate, .slice none n c] 30)).alloc (.cells #[.int .i64 (i : Int), .int .i64 (j : Int)] 61)).alloc (.cells #[.int .i64 0, .slice none 0 0] 30) = w1 at *
  refine (checkRecording_any _ _ _ _ _ _ h1).mono ?_
  rintro e w2 ⟨he, hb2⟩
  rw [hk.out] at he
  subst he
  have hR2 := hR0.below hb2
  have hB2 := hB0.below hb2
  have hG2 := hG0.below hb2
  have h2 := h1.below hb2
  have b0 := hB2.cell 0
  have b1 := hB2.cell 1
  have g0 := hG2.cell 0
  have g1 := hG2.cell 1
  have f0 := hR2.frozen 0
  have f1 := hR2.frozen 1
  have c0 := hR2.cell 0
  have c1 := hR2.cell 1
  have hsz := hb2.size
  have hsz0 := hw0.size
  have hKeep := Lib.hid (fun (wx : World) (hb : Below w1.heap.size w1 wx) => show wx.cell? ⟨w.heap.size, 0, none⟩ = some (.int .i64 rate) ∧ wx.cell? ⟨w.heap.size, 1, none⟩ = some (.slice none n c) ∧ wx.cell? ⟨w.heap.size + 1, 0, none⟩ = some (.int .i64 (i : Int)) ∧ wx.cell? ⟨w.heap.size + 1, 1, none⟩ = some (.int .i64 (j : Int)) from ⟨(hB0.below hb).cell 0, (hB0.below hb).cell 1, (hG0.below hb).cell 0, (hG0.below hb).cell 1⟩)
  have hKeep2 := Lib.hid (fun (wy : World) (hb : Below w1.heap.size w1 wy) (u v : Value) => show (fun wx => wx.cell? ⟨w.heap.size, 0, none⟩ = some (.int .i64 rate) ∧ wx.cell? ⟨w.heap.size, 1, none⟩ = some (.slice none n c) ∧ wx.cell? ⟨w.heap.size + 1, 0, none⟩ = some (.int .i64 (i : Int)) ∧ wx.cell? ⟨w.heap.size + 1, 1, none⟩ = some (.int .i64 (j : Int))) ((wy.setCell ⟨w.heap.size + 1 + 1, 0, none⟩ u).setCell ⟨w.heap.size + 1 + 1, 1, none⟩ v) from ⟨(((hB0.below hb).far (p := ⟨w.heap.size + 1 + 1, 0, none⟩) (by simp; omega) u).far (p := ⟨w.heap.size + 1 + 1, 1, none⟩) (by simp; omega) v).cell 0, (((hB0.below hb).far (p := ⟨w.heap.size + 1 + 1, 0, none⟩) (by simp; omega) u).far (p := ⟨w.heap.size + 1 + 1, 1, none⟩) (by simp; omega) v).cell 1, (((hG0.below hb).far (p := ⟨w.heap.size + 1 + 1, 0, none⟩) (by simp) u).far (p := ⟨w.heap.size + 1 + 1, 1, none⟩) (by simp) v).cell 0, (((hG0.below hb).far (p := ⟨w.heap.size + 1 + 1, 0, none⟩) (by simp) u).far (p := ⟨w.heap.size + 1 + 1, 1, none⟩) (by simp) v).cell 1⟩)
  have hsub := ((h2.take (m := j) (by omega)).cut (m := i) (by omega)).drewN 1
  rw [show (if c = i then (none : Option Addr) else Option.map (fun q : Addr => q.add i) none) = none by split <;> rfl] at hsub
  have hb2d : Below w1.heap.size w1 (w2.drewN 1) := bel_drewN hb2 1
  have hRl : w.heap.size + 1 + 1 < w1.heap.size := hR0.lt
  have hi1 : (i : Int) ≤ (j : Int) := by omega
  have hj1 : (j : Int) ≤ (c : Int) := by omega
  go_wp2_with (go_at_call 51; refine (within_any _ _ _ _).mono ?_; rintro e w' ⟨rfl, rfl⟩)
  go_region_held3 (fun wx => wx.cell? ⟨w.heap.size, 0, none⟩ = some (.int .i64 rate) ∧ wx.cell? ⟨w.heap.size, 1, none⟩ = some (.slice none n c) ∧ wx.cell? ⟨w.heap.size + 1, 0, none⟩ = some (.int .i64 (i : Int)) ∧ wx.cell? ⟨w.heap.size + 1, 1, none⟩ = some (.int .i64 (j : Int))) (first | exact hKeep.out _ hb2 | exact hKeep.out _ hb2d | exact hKeep.out _ hb13 | exact hKeep2.out _ hb13 _ _ | go_keep)
    (first | (go_at_call 87; refine (Clone_any _ _ _ _ _ hsub (by omega)).mono ?_; rintro e w3 ⟨A3, c3, rfl, hS3, hb3, hfr⟩; have hb13 : Below w1.heap.size w1 w3 := hb2d.trans (hb3.mono hsz); have hR3 := hR0.below hb13; have f0 := hR3.frozen 0; have f1 := hR3.frozen 1; have c0 := hR3.cell 0; have c1 := hR3.cell 1))
  all_goals
    go_wp2
    exact ret_rec2 rfl rfl ((hR3.set_ 0 _).set_ 1 _) rfl ⟨A3, _, c3, rfl, (hS3.farn (fun _ ad e => by have := hfr ad e; have : w1.heap.size ≤ ad.block := Nat.le_trans hsz this; omega) 0 _).farn (fun _ ad e => by have := hfr ad e; have : w1.heap.size ≤ ad.block := Nat.le_trans hsz this; omega) 1 _, ((hw0.trans (hb13.mono hsz0)).setCell (p := ⟨w.heap.size + 1 + 1, 0, none⟩) (by simp; omega) _).setCell (p := ⟨w.heap.size + 1 + 1, 1, none⟩) (by simp; omega) _⟩
end Go.Proofs.YtoljffghaklpdaaGreatDoor


/- The symbols of a part of a recording that begins and ends with a frame are those of these frames: the law's walk. -/
namespace Go.Proofs.YtoljffghaklpdaaGreatDoor
open Go.RowKit

theorem okB_comp {a b : Int} {k : Nat} (h : okB a b (k : Int) = true) : a ≤ (k : Int) ∧ (k : Int) ≤ b := okB_iff.1 h

set_option linter.unusedSimpArgs false
set_option maxHeartbeats 16000000 in
set_option maxRecDepth 100000 in
theorem clipped_law (rate : Int) (A : Option Addr) (n c : Nat) (xs : List Int) (num den size step kind points : Int) (Ae : Option Addr) (m ce : Nat) (es : List Int) (cep : Int) (diff ctr : Bool) (Ab : Option Addr) (nb cb : Nat) (us : List (List Int)) (f0 t0 : Int) (w : World) (hS : Sl .i64 w A n c xs) (hA : A = none → c = 0) (he : Sl .i64 w Ae m ce es) (hU : Rr w Ab nb cb us) (hT : Tab w) :
    Calls Tryz.prog 8 #[.agg #[.int .i64 rate, .slice A n c], (rcV num den size step kind points (.slice Ae m ce) cep diff ctr), .slice Ab nb cb, .int .i64 f0, .int .i64 t0] w (YesF w) := by
  have hl := Lib.hid hS.len
  have hlb := Lib.hid hU.len
  have hcapz := hS.cap
  have htopz := hS.top
  have hcape := he.cap
  have htope := he.top
  have hcapb := hU.cap
  have htopb := hU.top
  have hb0 := (((Below.refl w.heap.size w).alloc (Nat.le_refl _) (.cells #[.int .i64 rate, .slice A n c] 30)).alloc (by simp) (.cells #[.int .i64 0, .int .i64 den, .int .i64 size, .int .i64 step, .int .i64 kind, .int .i64 points, .slice Ae m ce, .int .i64 cep, .bool false, .bool false] 33))
  have hsz : ((w.alloc (.cells #[.int .i64 rate, .slice A n c] 30)).alloc (.cells #[.int .i64 0, .int .i64 den, .int .i64 size, .int .i64 step, .int .i64 kind, .int .i64 points, .slice Ae m ce, .int .i64 cep, .bool false, .bool false] 33)).heap.size = w.heap.size + 2 := by simp
  have q0 : ((w.alloc (.cells #[.int .i64 rate, .slice A n c] 30)).alloc (.cells #[.int .i64 0, .int .i64 den, .int .i64 size, .int .i64 step, .int .i64 kind, .int .i64 points, .slice Ae m ce, .int .i64 cep, .bool false, .bool false] 33)).cell? ⟨w.heap.size, 0, none⟩ = some (.int .i64 rate) := by simp
  have q1 : ((w.alloc (.cells #[.int .i64 rate, .slice A n c] 30)).alloc (.cells #[.int .i64 0, .int .i64 den, .int .i64 size, .int .i64 step, .int .i64 kind, .int .i64 points, .slice Ae m ce, .int .i64 cep, .bool false, .bool false] 33)).cell? ⟨w.heap.size, 1, none⟩ = some (.slice A n c) := by simp
  have hC : RcC ((w.alloc (.cells #[.int .i64 rate, .slice A n c] 30)).alloc (.cells #[.int .i64 0, .int .i64 den, .int .i64 size, .int .i64 step, .int .i64 kind, .int .i64 points, .slice Ae m ce, .int .i64 cep, .bool false, .bool false] 33)) (w.heap.size + 1) 0 den size step kind points (.slice Ae m ce) cep false false := ⟨by simp, by simp, by simp, by simp, by simp, by simp, by simp, by simp, by simp, by simp⟩
  have h2 := hS.below hb0
  have he2 := he.below hb0
  have hU2 := hU.below hb0
  have hT2 : Tab ((w.alloc (.cells #[.int .i64 rate, .slice A n c] 30)).alloc (.cells #[.int .i64 0, .int .i64 den, .int .i64 size, .int .i64 step, .int .i64 kind, .int .i64 points, .slice Ae m ce, .int .i64 cep, .bool false, .bool false] 33)) := hT.below hb0
  have hVb := Lib.hid (Valid_both 0 den size step kind points cep false false Ae m ce es).2
  obtain ⟨P, hP⟩ : ∃ P : Prop, RcP 0 den size step kind points cep es = P := ⟨_, rfl⟩
  rw [hP] at hVb
  have hP := Lib.hid hP
  obtain ⟨vb, hvb⟩ : ∃ vb, (okB 1 192000 rate && allB (-32768) 32767 xs) = vb := ⟨_, rfl⟩
  have hvb := Lib.hid hvb
  obtain ⟨bb, hbb⟩ : ∃ bb, (okB 1 256 (nb : Int) && vecsB us) = bb := ⟨_, rfl⟩
  have hbb := Lib.hid hbb
  have kfin := Lib.hid (fun (wq : World) => known03_any wq)
  unfold rcV at hVb ⊢
  have hb02 := hb0
  have hC2 := hC
  by_cases n3 : 300 < n
  · have cn1 : (300 : Int) < (n : Int) := by omega
    have cn2 : decide ((300 : Int) < (n : Int)) = true := decide_eq_true cn1
    have cn3 : decide (300 < n) = true := decide_eq_true n3
    go_enter Tryz.func8, Tryz.ntmps8
    go_wp2_with fail
    generalize ((w.alloc (.cells #[.int .i64 rate, .slice A n c] 30)).alloc (.cells #[.int .i64 0, .int .i64 den, .int .i64 size, .int .i64 step, .int .i64 kind, .int .i64 points, .slice Ae m ce, .int .i64 cep, .bool false, .bool false] 33)) = w2 at *
    obtain ⟨k0, k1, k2, k3, k4, k5, k6, k7, k8, k9⟩ := id hC
    go_wp2_with fail
    refine (kfin.out _).mono ?_
    rintro e w99 ⟨rfl, hb99⟩
    have hbz := hb02.trans (hb99.mono hb02.size)
    go_wp2
    go_ret
    exact ⟨rfl, hbz⟩
  have cn1 : ¬ (300 : Int) < (n : Int) := by omega
  have cn2 : decide ((300 : Int) < (n : Int)) = false := decide_eq_false cn1
  have cn3 : decide (300 < n) = false := decide_eq_false n3
  by_cases m3 : 40 < m
  · have d1 : (40 : Int) < (m : Int) := by omega
    have d2 : decide ((40 : Int) < (m : Int)) = true := decide_eq_true d1
    have d3 : decide (40 < m) = true := decide_eq_true m3
    go_enter Tryz.func8, Tryz.ntmps8
    go_wp2_with fail
    generalize ((w.alloc (.cells #[.int .i64 rate, .slice A n c] 30)).alloc (.cells #[.int .i64 0, .int .i64 den, .int .i64 size, .int .i64 step, .int .i64 kind, .int .i64 points, .slice Ae m ce, .int .i64 cep, .bool false, .bool false] 33)) = w2 at *
    obtain ⟨k0, k1, k2, k3, k4, k5, k6, k7, k8, k9⟩ := id hC
    go_wp2_with fail
    refine (kfin.out _).mono ?_
    rintro e w99 ⟨rfl, hb99⟩
    have hbz := hb02.trans (hb99.mono hb02.size)
    go_wp2
    go_ret
    exact ⟨rfl, hbz⟩
  have d1 : ¬ (40 : Int) < (m : Int) := by omega
  have d2 : decide ((40 : Int) < (m : Int)) = false := decide_eq_false d1
  have d3 : decide (40 < m) = false := decide_eq_false m3
  by_cases b3 : 8 < nb
  · have e1 : (8 : Int) < (nb : Int) := by omega
    have e2 : decide ((8 : Int) < (nb : Int)) = true := decide_eq_true e1
    have e3 : decide (8 < nb) = true := decide_eq_true b3
    go_enter Tryz.func8, Tryz.ntmps8
    go_wp2_with fail
    generalize ((w.alloc (.cells #[.int .i64 rate, .slice A n c] 30)).alloc (.cells #[.int .i64 0, .int .i64 den, .int .i64 size, .int .i64 step, .int .i64 kind, .int .i64 points, .slice Ae m ce, .int .i64 cep, .bool false, .bool false] 33)) = w2 at *
    obtain ⟨k0, k1, k2, k3, k4, k5, k6, k7, k8, k9⟩ := id hC
    go_wp2_with fail
    refine (kfin.out _).mono ?_
    rintro e w99 ⟨rfl, hb99⟩
    have hbz := hb02.trans (hb99.mono hb02.size)
    go_wp2
    go_ret
    exact ⟨rfl, hbz⟩
  have e1 : ¬ (8 : Int) < (nb : Int) := by omega
  have e2 : decide ((8 : Int) < (nb : Int)) = false := decide_eq_false e1
  have e3 : decide (8 < nb) = false := decide_eq_false b3
  cases vb with
  | false =>
    go_enter Tryz.func8, Tryz.ntmps8
    go_wp2_with fail
    generalize ((w.alloc (.cells #[.int .i64 rate, .slice A n c] 30)).alloc (.cells #[.int .i64 0, .int .i64 den, .int .i64 size, .int .i64 step, .int .i64 kind, .int .i64 points, .slice Ae m ce, .int .i64 cep, .bool false, .bool false] 33)) = w2 at *
    obtain ⟨k0, k1, k2, k3, k4, k5, k6, k7, k8, k9⟩ := id hC
    go_wp2_with fail
    refine (wRValid_any _ _ _ _ _ _ h2 (by omega)).mono ?_
    rintro e w3 ⟨rfl, hb3⟩
    rw [hvb.out]
    have q0 := cell_bel q0 hb3
    have q1 := cell_bel q1 hb3
    obtain ⟨k0, k1, k2, k3, k4, k5, k6, k7, k8, k9⟩ := hC2.below hb3
    have hC3 := hC2.below hb3
    have he3 := he2.below hb3
    have h3 := h2.below hb3
    have hU3 := hU2.below hb3
    have hT3 : Tab w3 := Tab.below hT2 hb3
    have hb03 := hb02.trans (hb3.mono hb02.size)
    go_wp2_with fail
    refine (kfin.out _).mono ?_
    rintro e w99 ⟨rfl, hb99⟩
    have hbz := hb03.trans (hb99.mono hb03.size)
    go_wp2
    go_ret
    exact ⟨rfl, hbz⟩
  | true =>
  by_cases hPP : P
  case neg =>
    go_enter Tryz.func8, Tryz.ntmps8
    go_wp2_with fail
    generalize ((w.alloc (.cells #[.int .i64 rate, .slice A n c] 30)).alloc (.cells #[.int .i64 0, .int .i64 den, .int .i64 size, .int .i64 step, .int .i64 kind, .int .i64 points, .slice Ae m ce, .int .i64 cep, .bool false, .bool false] 33)) = w2 at *
    obtain ⟨k0, k1, k2, k3, k4, k5, k6, k7, k8, k9⟩ := id hC
    go_wp2_with fail
    refine (wRValid_any _ _ _ _ _ _ h2 (by omega)).mono ?_
    rintro e w3 ⟨rfl, hb3⟩
    rw [hvb.out]
    have q0 := cell_bel q0 hb3
    have q1 := cell_bel q1 hb3
    obtain ⟨k0, k1, k2, k3, k4, k5, k6, k7, k8, k9⟩ := hC2.below hb3
    have hC3 := hC2.below hb3
    have he3 := he2.below hb3
    have h3 := h2.below hb3
    have hU3 := hU2.below hb3
    have hT3 : Tab w3 := Tab.below hT2 hb3
    have hb03 := hb02.trans (hb3.mono hb02.size)
    go_wp2_with fail
    refine (hVb.out _ he3).mono ?_
    rintro e w4 ⟨b4, rfl, hi4, hb4⟩
    (obtain rfl : b4 = false := by cases b4 with | false => rfl | true => exact absurd (hi4.1 rfl) hPP)
    clear hi4
    have q0 := cell_bel q0 hb4
    have q1 := cell_bel q1 hb4
    obtain ⟨k0, k1, k2, k3, k4, k5, k6, k7, k8, k9⟩ := hC3.below hb4
    have hC4 := hC3.below hb4
    have he4 := he3.below hb4
    have h4 := h3.below hb4
    have hU4 := hU3.below hb4
    have hT4 : Tab w4 := Tab.below hT3 hb4
    have hb04 := hb03.trans (hb4.mono hb03.size)
    go_wp2_with fail
    refine (kfin.out _).mono ?_
    rintro e w99 ⟨rfl, hb99⟩
    have hbz := hb04.trans (hb99.mono hb04.size)
    go_wp2
    go_ret
    exact ⟨rfl, hbz⟩
  cases bb with
  | false =>
    go_enter Tryz.func8, Tryz.ntmps8
    go_wp2_with fail
    generalize ((w.alloc (.cells #[.int .i64 rate, .slice A n c] 30)).alloc (.cells #[.int .i64 0, .int .i64 den, .int .i64 size, .int .i64 step, .int .i64 kind, .int .i64 points, .slice Ae m ce, .int .i64 cep, .bool false, .bool false] 33)) = w2 at *
    obtain ⟨k0, k1, k2, k3, k4, k5, k6, k7, k8, k9⟩ := id hC
    go_wp2_with fail
    refine (wRValid_any _ _ _ _ _ _ h2 (by omega)).mono ?_
    rintro e w3 ⟨rfl, hb3⟩
    rw [hvb.out]
    have q0 := cell_bel q0 hb3
    have q1 := cell_bel q1 hb3
    obtain ⟨k0, k1, k2, k3, k4, k5, k6, k7, k8, k9⟩ := hC2.below hb3
    have hC3 := hC2.below hb3
    have he3 := he2.below hb3
    have h3 := h2.below hb3
    have hU3 := hU2.below hb3
    have hT3 : Tab w3 := Tab.below hT2 hb3
    have hb03 := hb02.trans (hb3.mono hb02.size)
    go_wp2_with fail
    refine (hVb.out _ he3).mono ?_
    rintro e w4 ⟨b4, rfl, hi4, hb4⟩
    (obtain rfl : b4 = true := hi4.2 hPP)
    clear hi4
    have q0 := cell_bel q0 hb4
    have q1 := cell_bel q1 hb4
    obtain ⟨k0, k1, k2, k3, k4, k5, k6, k7, k8, k9⟩ := hC3.below hb4
    have hC4 := hC3.below hb4
    have he4 := he3.below hb4
    have h4 := h3.below hb4
    have hU4 := hU3.below hb4
    have hT4 : Tab w4 := Tab.below hT3 hb4
    have hb04 := hb03.trans (hb4.mono hb03.size)
    go_wp2_with fail
    refine (RBook_any _ _ _ _ _ hU4).mono ?_
    rintro e w5 ⟨rfl, r5, hw5⟩
    rw [hbb.out]
    have hb5 : Below w4.heap.size w4 w5 := by rw [hw5]; exact bel_drewN (Below.refl _ _) r5
    clear hw5
    have q0 := cell_bel q0 hb5
    have q1 := cell_bel q1 hb5
    obtain ⟨k0, k1, k2, k3, k4, k5, k6, k7, k8, k9⟩ := hC4.below hb5
    have hC5 := hC4.below hb5
    have he5 := he4.below hb5
    have h5 := h4.below hb5
    have hU5 := hU4.below hb5
    have hT5 : Tab w5 := Tab.below hT4 hb5
    have hb05 := hb04.trans (hb5.mono hb04.size)
    go_wp2_with fail
    refine (kfin.out _).mono ?_
    rintro e w99 ⟨rfl, hb99⟩
    have hbz := hb05.trans (hb99.mono hb05.size)
    go_wp2
    go_ret
    exact ⟨rfl, hbz⟩
  | true =>
  have hx := (Bool.and_eq_true _ _ ▸ hvb.out).2
  have hrt := (Bool.and_eq_true _ _ ▸ hvb.out).1
  have hR : RcP 0 den size step kind points cep es := by rw [hP.out]; exact hPP
  have hk : chkR rate xs = 0 := (chkR_iff (by rw [hl.out]; omega)).2 hvb.out
  have hbk1 := (Bool.and_eq_true _ _ ▸ hbb.out).1
  have hbk2 := (Bool.and_eq_true _ _ ▸ hbb.out).2
  have hnb1 := okB_comp hbk1
  have hbk1 : okB 1 256 (us.length : Int) = true := by rw [hlb.out]; exact hbk1
  obtain ⟨p, hp⟩ : ∃ p : Nat, points = (p : Int) := ⟨points.toNat, by have := hR.2.2.1.1; omega⟩
  subst hp
  have hpn : ((p : Int)).toNat = p := Int.toNat_natCast p
  have hlen' : lenB p = true := by have := hR.2.2.1.2; rw [hpn] at this; exact this
  have hp64 := (lenB_le hlen').2.1
  obtain ⟨hd1, hd2⟩ := hR.1
  obtain ⟨hs1, hs2⟩ := hR.2.2.2.1
  obtain ⟨ht1, ht2⟩ := hR.2.2.2.2.1
  obtain ⟨sz, hsz9⟩ : ∃ sz : Nat, size = (sz : Int) := ⟨size.toNat, by omega⟩
  obtain ⟨st, hst9⟩ : ∃ st : Nat, step = (st : Int) := ⟨step.toNat, by omega⟩
  subst hsz9
  subst hst9
  have hfn := ftN_bd hR.2.2.2.2.2.2.2.1 hR.2.2.2.2.2.2.1 hR.2.2.2.2.2.2.2.2.1 hR.2.2.2.2.2.2.2.2.2
  obtain ⟨vs, hvs⟩ : ∃ vs, featL 0 den (sz : Int) (st : Int) kind p cep es false false xs = vs := ⟨_, rfl⟩
  have hVM := feat_vec hR hx (by rw [hl.out]; omega)
  rw [hpn, hvs] at hVM
  have hXok := fun (A9 : Option Addr) (n9 c9 : Nat) (zs9 : List Int) (hz : allB (-32768) 32767 zs9 = true) (hzn : n9 ≤ 1000) (w9 : World) (a1 : Sl .i64 w9 A9 n9 c9 zs9) (a2 : A9 = none → c9 = 0) (a3 : Sl .i64 w9 Ae m ce es) (a4 : Tab w9) =>
    Extract_ok rate 0 den (sz : Int) (st : Int) kind cep p false false A9 n9 c9 zs9 Ae m ce es w9 a1 a2 a3 a4 hzn ((chkR_iff (by rw [a1.len]; omega)).2 (by rw [hrt, hz]; rfl)) hz hR
  have hXa := fun w9 a1 a2 a3 => hXok A n c xs hx (by omega) w9 a1 hA a2 a3
  rw [hvs] at hXa
  obtain ⟨N, hN⟩ : ∃ N, fcount n sz st false = N := ⟨_, rfl⟩
  have hvN : vs.length = N := by rw [← hvs, feat_len, hl.out]; exact hN
  have hNb : N ≤ 1000 := by
    have := fcount_le (n := n) (s := sz) (p := st) (pad := false) (by omega) (by omega)
    omega
  have hXa := Lib.hid hXa
  unfold rcV at hXa
  go_enter Tryz.func8, Tryz.ntmps8
  go_wp2_with fail
  generalize ((w.alloc (.cells #[.int .i64 rate, .slice A n c] 30)).alloc (.cells #[.int .i64 0, .int .i64 den, .int .i64 (sz : Int), .int .i64 (st : Int), .int .i64 kind, .int .i64 (p : Int), .slice Ae m ce, .int .i64 cep, .bool false, .bool false] 33)) = w2 at *
  obtain ⟨k0, k1, k2, k3, k4, k5, k6, k7, k8, k9⟩ := id hC
  go_wp2_with fail
  refine (wRValid_any _ _ _ _ _ _ h2 (by omega)).mono ?_
  rintro e w3 ⟨rfl, hb3⟩
  rw [hvb.out]
  have q0 := cell_bel q0 hb3
  have q1 := cell_bel q1 hb3
  obtain ⟨k0, k1, k2, k3, k4, k5, k6, k7, k8, k9⟩ := hC2.below hb3
  have hC3 := hC2.below hb3
  have he3 := he2.below hb3
  have h3 := h2.below hb3
  have hU3 := hU2.below hb3
  have hT3 : Tab w3 := Tab.below hT2 hb3
  have hb03 := hb02.trans (hb3.mono hb02.size)
  go_wp2_with fail
  refine (hVb.out _ he3).mono ?_
  rintro e w4 ⟨b4, rfl, hi4, hb4⟩
  (obtain rfl : b4 = true := hi4.2 hPP)
  clear hi4
  have q0 := cell_bel q0 hb4
  have q1 := cell_bel q1 hb4
  obtain ⟨k0, k1, k2, k3, k4, k5, k6, k7, k8, k9⟩ := hC3.below hb4
  have hC4 := hC3.below hb4
  have he4 := he3.below hb4
  have h4 := h3.below hb4
  have hU4 := hU3.below hb4
  have hT4 : Tab w4 := Tab.below hT3 hb4
  have hb04 := hb03.trans (hb4.mono hb03.size)
  go_wp2_with fail
  refine (RBook_any _ _ _ _ _ hU4).mono ?_
  rintro e w5 ⟨rfl, r5, hw5⟩
  rw [hbb.out]
  have hb5 : Below w4.heap.size w4 w5 := by rw [hw5]; exact bel_drewN (Below.refl _ _) r5
  clear hw5
  have q0 := cell_bel q0 hb5
  have q1 := cell_bel q1 hb5
  obtain ⟨k0, k1, k2, k3, k4, k5, k6, k7, k8, k9⟩ := hC4.below hb5
  have hC5 := hC4.below hb5
  have he5 := he4.below hb5
  have h5 := h4.below hb5
  have hU5 := hU4.below hb5
  have hT5 : Tab w5 := Tab.below hT4 hb5
  have hb05 := hb04.trans (hb5.mono hb04.size)
  have hvs := Lib.hid hvs
  have hvN := Lib.hid hvN
  have hN := Lib.hid hN
  have hVM := Lib.hid hVM
  have hx := Lib.hid hx
  have hk := Lib.hid hk
  have hrt := Lib.hid hrt
  have hR := Lib.hid hR
  have hbk1 := Lib.hid hbk1
  have hbk2 := Lib.hid hbk2
  have hXok := Lib.hid hXok
  have hfn := Lib.hid hfn
  clear hpn hlen'
  go_wp2_with fail
  refine (hXa.out _ h5 he5 hT5).mono ?_
  rintro e w6 ⟨A6, c6, rfl, hV6, hb6⟩
  rw [hvN.out] at hV6 ⊢
  have q0 := cell_bel q0 hb6
  have q1 := cell_bel q1 hb6
  obtain ⟨k0, k1, k2, k3, k4, k5, k6, k7, k8, k9⟩ := hC5.below hb6
  have hC6 := hC5.below hb6
  have he6 := he5.below hb6
  have h6 := h5.below hb6
  have hU6 := hU5.below hb6
  have hT6 : Tab w6 := Tab.below hT5 hb6
  have hb06 := hb05.trans (hb6.mono hb05.size)
  by_cases hf : f0 < 0
  · have gf2 : decide (f0 < 0) = true := decide_eq_true hf
    go_wp2_with fail
    refine wp_region_held_drew (S := (fun wx => True)) (by kernel_rfl) trivial (fun hHeld => ?_)
    refine wpAnyH_take (i := 0) (v := .int .i64 f0) rfl (by kernel_rfl) (by kernel_rfl) (by kernel_rfl) (fun _ _ _ h => h) (Or.inl ⟨by kernel_rfl, by (intro w hSw; (try dsimp only at hSw); go_simp)⟩) hHeld ?_
    simp only [Act.put, List.getElem_toArray, List.getElem_cons_succ, List.getElem_cons_zero, List.setIfInBounds_toArray, List.set_cons_zero, List.set_cons_succ]
    refine wpAnyH_take (i := 1) (v := .bool true) rfl (by kernel_rfl) (by kernel_rfl) (by kernel_rfl) (fun _ _ _ h => h) (Or.inl ⟨by kernel_rfl, by (intro w hSw; (try dsimp only at hSw); go_simp)⟩) hHeld ?_
    simp only [Act.put, List.getElem_toArray, List.getElem_cons_succ, List.getElem_cons_zero, List.setIfInBounds_toArray, List.set_cons_zero, List.set_cons_succ]
    refine wpAnyH_take (i := 2) (v := .bool true) rfl (by kernel_rfl) (by kernel_rfl) (by kernel_rfl) (fun _ _ _ h => h) (Or.inl ⟨by kernel_rfl, by (intro w hSw; (try dsimp only at hSw); go_simp)⟩) hHeld ?_
    simp only [Act.put, List.getElem_toArray, List.getElem_cons_succ, List.getElem_cons_zero, List.setIfInBounds_toArray, List.set_cons_zero, List.set_cons_succ]
    refine wpAnyH_take (i := 3) (v := undef) rfl (by kernel_rfl) (by kernel_rfl) (by kernel_rfl) (fun _ _ _ h => h) (Or.inr ⟨by kernel_rfl, rfl⟩) hHeld ?_
    simp only [Act.put, List.getElem_toArray, List.getElem_cons_succ, List.getElem_cons_zero, List.setIfInBounds_toArray, List.set_cons_zero, List.set_cons_succ]
    refine wpAnyH_take (i := 4) (v := undef) rfl (by kernel_rfl) (by kernel_rfl) (by kernel_rfl) (fun _ _ _ h => h) (Or.inr ⟨by kernel_rfl, rfl⟩) hHeld ?_
    simp only [Act.put, List.getElem_toArray, List.getElem_cons_succ, List.getElem_cons_zero, List.setIfInBounds_toArray, List.set_cons_zero, List.set_cons_succ]
    refine wpAnyH_take (i := 5) (v := undef) rfl (by kernel_rfl) (by kernel_rfl) (by kernel_rfl) (fun _ _ _ h => h) (Or.inr ⟨by kernel_rfl, rfl⟩) hHeld ?_
    simp only [Act.put, List.getElem_toArray, List.getElem_cons_succ, List.getElem_cons_zero, List.setIfInBounds_toArray, List.set_cons_zero, List.set_cons_succ]
    refine wpAnyH_take (i := 6) (v := .bool true) rfl (by kernel_rfl) (by kernel_rfl) (by kernel_rfl) (fun _ _ _ h => h) (Or.inl ⟨by kernel_rfl, by (intro w hSw; (try dsimp only at hSw); go_simp)⟩) hHeld ?_
    simp only [Act.put, List.getElem_toArray, List.getElem_cons_succ, List.getElem_cons_zero, List.setIfInBounds_toArray, List.set_cons_zero, List.set_cons_succ]
    refine wpAnyH_take (i := 7) (v := .bool true) rfl (by kernel_rfl) (by kernel_rfl) (by kernel_rfl) (fun _ _ _ h => h) (Or.inl ⟨by kernel_rfl, by (intro w hSw; (try dsimp only at hSw); go_simp)⟩) hHeld ?_
    simp only [Act.put, List.getElem_toArray, List.getElem_cons_succ, List.getElem_cons_zero, List.setIfInBounds_toArray, List.set_cons_zero, List.set_cons_succ]
    refine wpAnyH_take (i := 8) (v := undef) rfl (by kernel_rfl) (by kernel_rfl) (by kernel_rfl) (fun _ _ _ h => h) (Or.inr ⟨by kernel_rfl, rfl⟩) hHeld ?_
    simp only [Act.put, List.getElem_toArray, List.getElem_cons_succ, List.getElem_cons_zero, List.setIfInBounds_toArray, List.set_cons_zero, List.set_cons_succ]
    refine wpAnyH_take (i := 9) (v := undef) rfl (by kernel_rfl) (by kernel_rfl) (by kernel_rfl) (fun _ _ _ h => h) (Or.inr ⟨by kernel_rfl, rfl⟩) hHeld ?_
    simp only [Act.put, List.getElem_toArray, List.getElem_cons_succ, List.getElem_cons_zero, List.setIfInBounds_toArray, List.set_cons_zero, List.set_cons_succ]
    refine wpAnyH_take (i := 10) (v := undef) rfl (by kernel_rfl) (by kernel_rfl) (by kernel_rfl) (fun _ _ _ h => h) (Or.inr ⟨by kernel_rfl, rfl⟩) hHeld ?_
    simp only [Act.put, List.getElem_toArray, List.getElem_cons_succ, List.getElem_cons_zero, List.setIfInBounds_toArray, List.set_cons_zero, List.set_cons_succ]
    refine wpAnyH_take (i := 11) (v := undef) rfl (by kernel_rfl) (by kernel_rfl) (by kernel_rfl) (fun _ _ _ h => h) (Or.inr ⟨by kernel_rfl, rfl⟩) hHeld ?_
    simp only [Act.put, List.getElem_toArray, List.getElem_cons_succ, List.getElem_cons_zero, List.setIfInBounds_toArray, List.set_cons_zero, List.set_cons_succ]
    refine wpAnyH_take (i := 12) (v := .bool true) rfl (by kernel_rfl) (by kernel_rfl) (by kernel_rfl) (fun _ _ _ h => h) (Or.inl ⟨by kernel_rfl, by (intro w hSw; (try dsimp only at hSw); go_simp)⟩) hHeld ?_
    simp only [Act.put, List.getElem_toArray, List.getElem_cons_succ, List.getElem_cons_zero, List.setIfInBounds_toArray, List.set_cons_zero, List.set_cons_succ]
    refine wpAnyH_take (i := 13) (v := .bool true) rfl (by kernel_rfl) (by kernel_rfl) (by kernel_rfl) (fun _ _ _ h => h) (Or.inl ⟨by kernel_rfl, by (intro w hSw; (try dsimp only at hSw); go_simp)⟩) hHeld ?_
    simp only [Act.put, List.getElem_toArray, List.getElem_cons_succ, List.getElem_cons_zero, List.setIfInBounds_toArray, List.set_cons_zero, List.set_cons_succ]
    refine wpAnyH_take (i := 14) (v := undef) rfl (by kernel_rfl) (by kernel_rfl) (by kernel_rfl) (fun _ _ _ h => h) (Or.inr ⟨by kernel_rfl, rfl⟩) hHeld ?_
    simp only [Act.put, List.getElem_toArray, List.getElem_cons_succ, List.getElem_cons_zero, List.setIfInBounds_toArray, List.set_cons_zero, List.set_cons_succ]
    refine wpAnyH_take (i := 15) (v := undef) rfl (by kernel_rfl) (by kernel_rfl) (by kernel_rfl) (fun _ _ _ h => h) (Or.inr ⟨by kernel_rfl, rfl⟩) hHeld ?_
    simp only [Act.put, List.getElem_toArray, List.getElem_cons_succ, List.getElem_cons_zero, List.setIfInBounds_toArray, List.set_cons_zero, List.set_cons_succ]
    refine wpAnyH_take (i := 16) (v := undef) rfl (by kernel_rfl) (by kernel_rfl) (by kernel_rfl) (fun _ _ _ h => h) (Or.inr ⟨by kernel_rfl, rfl⟩) hHeld ?_
    simp only [Act.put, List.getElem_toArray, List.getElem_cons_succ, List.getElem_cons_zero, List.setIfInBounds_toArray, List.set_cons_zero, List.set_cons_succ]
    refine wpAnyH_take (i := 17) (v := undef) rfl (by kernel_rfl) (by kernel_rfl) (by kernel_rfl) (fun _ _ _ h => h) (Or.inr ⟨by kernel_rfl, rfl⟩) hHeld ?_
    simp only [Act.put, List.getElem_toArray, List.getElem_cons_succ, List.getElem_cons_zero, List.setIfInBounds_toArray, List.set_cons_zero, List.set_cons_succ]
    refine wpAnyH_take (i := 18) (v := undef) rfl (by kernel_rfl) (by kernel_rfl) (by kernel_rfl) (fun _ _ _ h => h) (Or.inr ⟨by kernel_rfl, rfl⟩) hHeld ?_
    simp only [Act.put, List.getElem_toArray, List.getElem_cons_succ, List.getElem_cons_zero, List.setIfInBounds_toArray, List.set_cons_zero, List.set_cons_succ]
    refine wpAnyH_take (i := 19) (v := undef) rfl (by kernel_rfl) (by kernel_rfl) (by kernel_rfl) (fun _ _ _ h => h) (Or.inr ⟨by kernel_rfl, rfl⟩) hHeld ?_
    simp only [Act.put, List.getElem_toArray, List.getElem_cons_succ, List.getElem_cons_zero, List.setIfInBounds_toArray, List.set_cons_zero, List.set_cons_succ]
    refine wpAnyH_take (i := 20) (v := undef) rfl (by kernel_rfl) (by kernel_rfl) (by kernel_rfl) (fun _ _ _ h => h) (Or.inr ⟨by kernel_rfl, rfl⟩) hHeld ?_
    simp only [Act.put, List.getElem_toArray, List.getElem_cons_succ, List.getElem_cons_zero, List.setIfInBounds_toArray, List.set_cons_zero, List.set_cons_succ]
    refine wpAnyH_take (i := 21) (v := undef) rfl (by kernel_rfl) (by kernel_rfl) (by kernel_rfl) (fun _ _ _ h => h) (Or.inr ⟨by kernel_rfl, rfl⟩) hHeld ?_
    simp only [Act.put, List.getElem_toArray, List.getElem_cons_succ, List.getElem_cons_zero, List.setIfInBounds_toArray, List.set_cons_zero, List.set_cons_succ]
    refine wpAnyH_take (i := 22) (v := undef) rfl (by kernel_rfl) (by kernel_rfl) (by kernel_rfl) (fun _ _ _ h => h) (Or.inr ⟨by kernel_rfl, rfl⟩) hHeld ?_
    simp only [Act.put, List.getElem_toArray, List.getElem_cons_succ, List.getElem_cons_zero, List.setIfInBounds_toArray, List.set_cons_zero, List.set_cons_succ]
    refine wpAnyH_take (i := 23) (v := .bool true) rfl (by kernel_rfl) (by kernel_rfl) (by kernel_rfl) (fun _ _ _ h => h) (Or.inl ⟨by kernel_rfl, by (intro w hSw; (try dsimp only at hSw); go_simp)⟩) hHeld ?_
    simp only [Act.put, List.getElem_toArray, List.getElem_cons_succ, List.getElem_cons_zero, List.setIfInBounds_toArray, List.set_cons_zero, List.set_cons_succ]
    refine wpAnyH_done (by kernel_rfl) ?_ _
    have hb07 : Below w.heap.size w w6.drew := bel_drewN hb06 1
    go_wp2_with fail
    refine (kfin.out _).mono ?_
    rintro e w99 ⟨rfl, hb99⟩
    have hbz := hb07.trans (hb99.mono hb07.size)
    go_wp2
    go_ret
    exact ⟨rfl, hbz⟩
  have gf2 : decide (f0 < 0) = false := decide_eq_false hf
  by_cases htf : t0 ≤ f0
  · have gt2 : decide (t0 ≤ f0) = true := decide_eq_true htf
    go_wp2_with fail
    refine wp_region_held_drew (S := (fun wx => True)) (by kernel_rfl) trivial (fun hHeld => ?_)
    refine wpAnyH_take (i := 0) (v := .int .i64 f0) rfl (by kernel_rfl) (by kernel_rfl) (by kernel_rfl) (fun _ _ _ h => h) (Or.inl ⟨by kernel_rfl, by (intro w hSw; (try dsimp only at hSw); go_simp)⟩) hHeld ?_
    simp only [Act.put, List.getElem_toArray, List.getElem_cons_succ, List.getElem_cons_zero, List.setIfInBounds_toArray, List.set_cons_zero, List.set_cons_succ]
    refine wpAnyH_take (i := 1) (v := .bool false) rfl (by kernel_rfl) (by kernel_rfl) (by kernel_rfl) (fun _ _ _ h => h) (Or.inl ⟨by kernel_rfl, by (intro w hSw; (try dsimp only at hSw); go_simp)⟩) hHeld ?_
    simp only [Act.put, List.getElem_toArray, List.getElem_cons_succ, List.getElem_cons_zero, List.setIfInBounds_toArray, List.set_cons_zero, List.set_cons_succ]
    refine wpAnyH_take (i := 2) (v := .bool false) rfl (by kernel_rfl) (by kernel_rfl) (by kernel_rfl) (fun _ _ _ h => h) (Or.inl ⟨by kernel_rfl, by (intro w hSw; (try dsimp only at hSw); go_simp)⟩) hHeld ?_
    simp only [Act.put, List.getElem_toArray, List.getElem_cons_succ, List.getElem_cons_zero, List.setIfInBounds_toArray, List.set_cons_zero, List.set_cons_succ]
    refine wpAnyH_take (i := 3) (v := .int .i64 t0) rfl (by kernel_rfl) (by kernel_rfl) (by kernel_rfl) (fun _ _ _ h => h) (Or.inl ⟨by kernel_rfl, by (intro w hSw; (try dsimp only at hSw); go_simp)⟩) hHeld ?_
    simp only [Act.put, List.getElem_toArray, List.getElem_cons_succ, List.getElem_cons_zero, List.setIfInBounds_toArray, List.set_cons_zero, List.set_cons_succ]
    refine wpAnyH_take (i := 4) (v := .int .i64 f0) rfl (by kernel_rfl) (by kernel_rfl) (by kernel_rfl) (fun _ _ _ h => h) (Or.inl ⟨by kernel_rfl, by (intro w hSw; (try dsimp only at hSw); go_simp)⟩) hHeld ?_
    simp only [Act.put, List.getElem_toArray, List.getElem_cons_succ, List.getElem_cons_zero, List.setIfInBounds_toArray, List.set_cons_zero, List.set_cons_succ]
    refine wpAnyH_take (i := 5) (v := .bool true) rfl (by kernel_rfl) (by kernel_rfl) (by kernel_rfl) (fun _ _ _ h => h) (Or.inl ⟨by kernel_rfl, by (intro w hSw; (try dsimp only at hSw); go_simp)⟩) hHeld ?_
    simp only [Act.put, List.getElem_toArray, List.getElem_cons_succ, List.getElem_cons_zero, List.setIfInBounds_toArray, List.set_cons_zero, List.set_cons_succ]
    refine wpAnyH_take (i := 6) (v := .bool true) rfl (by kernel_rfl) (by kernel_rfl) (by kernel_rfl) (fun _ _ _ h => h) (Or.inl ⟨by kernel_rfl, by (intro w hSw; (try dsimp only at hSw); go_simp)⟩) hHeld ?_
    simp only [Act.put, List.getElem_toArray, List.getElem_cons_succ, List.getElem_cons_zero, List.setIfInBounds_toArray, List.set_cons_zero, List.set_cons_succ]
    refine wpAnyH_take (i := 7) (v := .bool true) rfl (by kernel_rfl) (by kernel_rfl) (by kernel_rfl) (fun _ _ _ h => h) (Or.inl ⟨by kernel_rfl, by (intro w hSw; (try dsimp only at hSw); go_simp)⟩) hHeld ?_
    simp only [Act.put, List.getElem_toArray, List.getElem_cons_succ, List.getElem_cons_zero, List.setIfInBounds_toArray, List.set_cons_zero, List.set_cons_succ]
    refine wpAnyH_take (i := 8) (v := undef) rfl (by kernel_rfl) (by kernel_rfl) (by kernel_rfl) (fun _ _ _ h => h) (Or.inr ⟨by kernel_rfl, rfl⟩) hHeld ?_
    simp only [Act.put, List.getElem_toArray, List.getElem_cons_succ, List.getElem_cons_zero, List.setIfInBounds_toArray, List.set_cons_zero, List.set_cons_succ]
    refine wpAnyH_take (i := 9) (v := undef) rfl (by kernel_rfl) (by kernel_rfl) (by kernel_rfl) (fun _ _ _ h => h) (Or.inr ⟨by kernel_rfl, rfl⟩) hHeld ?_
    simp only [Act.put, List.getElem_toArray, List.getElem_cons_succ, List.getElem_cons_zero, List.setIfInBounds_toArray, List.set_cons_zero, List.set_cons_succ]
    refine wpAnyH_take (i := 10) (v := undef) rfl (by kernel_rfl) (by kernel_rfl) (by kernel_rfl) (fun _ _ _ h => h) (Or.inr ⟨by kernel_rfl, rfl⟩) hHeld ?_
    simp only [Act.put, List.getElem_toArray, List.getElem_cons_succ, List.getElem_cons_zero, List.setIfInBounds_toArray, List.set_cons_zero, List.set_cons_succ]
    refine wpAnyH_take (i := 11) (v := undef) rfl (by kernel_rfl) (by kernel_rfl) (by kernel_rfl) (fun _ _ _ h => h) (Or.inr ⟨by kernel_rfl, rfl⟩) hHeld ?_
    simp only [Act.put, List.getElem_toArray, List.getElem_cons_succ, List.getElem_cons_zero, List.setIfInBounds_toArray, List.set_cons_zero, List.set_cons_succ]
    refine wpAnyH_take (i := 12) (v := .bool true) rfl (by kernel_rfl) (by kernel_rfl) (by kernel_rfl) (fun _ _ _ h => h) (Or.inl ⟨by kernel_rfl, by (intro w hSw; (try dsimp only at hSw); go_simp)⟩) hHeld ?_
    simp only [Act.put, List.getElem_toArray, List.getElem_cons_succ, List.getElem_cons_zero, List.setIfInBounds_toArray, List.set_cons_zero, List.set_cons_succ]
    refine wpAnyH_take (i := 13) (v := .bool true) rfl (by kernel_rfl) (by kernel_rfl) (by kernel_rfl) (fun _ _ _ h => h) (Or.inl ⟨by kernel_rfl, by (intro w hSw; (try dsimp only at hSw); go_simp)⟩) hHeld ?_
    simp only [Act.put, List.getElem_toArray, List.getElem_cons_succ, List.getElem_cons_zero, List.setIfInBounds_toArray, List.set_cons_zero, List.set_cons_succ]
    refine wpAnyH_take (i := 14) (v := undef) rfl (by kernel_rfl) (by kernel_rfl) (by kernel_rfl) (fun _ _ _ h => h) (Or.inr ⟨by kernel_rfl, rfl⟩) hHeld ?_
    simp only [Act.put, List.getElem_toArray, List.getElem_cons_succ, List.getElem_cons_zero, List.setIfInBounds_toArray, List.set_cons_zero, List.set_cons_succ]
    refine wpAnyH_take (i := 15) (v := undef) rfl (by kernel_rfl) (by kernel_rfl) (by kernel_rfl) (fun _ _ _ h => h) (Or.inr ⟨by kernel_rfl, rfl⟩) hHeld ?_
    simp only [Act.put, List.getElem_toArray, List.getElem_cons_succ, List.getElem_cons_zero, List.setIfInBounds_toArray, List.set_cons_zero, List.set_cons_succ]
    refine wpAnyH_take (i := 16) (v := undef) rfl (by kernel_rfl) (by kernel_rfl) (by kernel_rfl) (fun _ _ _ h => h) (Or.inr ⟨by kernel_rfl, rfl⟩) hHeld ?_
    simp only [Act.put, List.getElem_toArray, List.getElem_cons_succ, List.getElem_cons_zero, List.setIfInBounds_toArray, List.set_cons_zero, List.set_cons_succ]
    refine wpAnyH_take (i := 17) (v := undef) rfl (by kernel_rfl) (by kernel_rfl) (by kernel_rfl) (fun _ _ _ h => h) (Or.inr ⟨by kernel_rfl, rfl⟩) hHeld ?_
    simp only [Act.put, List.getElem_toArray, List.getElem_cons_succ, List.getElem_cons_zero, List.setIfInBounds_toArray, List.set_cons_zero, List.set_cons_succ]
    refine wpAnyH_take (i := 18) (v := undef) rfl (by kernel_rfl) (by kernel_rfl) (by kernel_rfl) (fun _ _ _ h => h) (Or.inr ⟨by kernel_rfl, rfl⟩) hHeld ?_
    simp only [Act.put, List.getElem_toArray, List.getElem_cons_succ, List.getElem_cons_zero, List.setIfInBounds_toArray, List.set_cons_zero, List.set_cons_succ]
    refine wpAnyH_take (i := 19) (v := undef) rfl (by kernel_rfl) (by kernel_rfl) (by kernel_rfl) (fun _ _ _ h => h) (Or.inr ⟨by kernel_rfl, rfl⟩) hHeld ?_
    simp only [Act.put, List.getElem_toArray, List.getElem_cons_succ, List.getElem_cons_zero, List.setIfInBounds_toArray, List.set_cons_zero, List.set_cons_succ]
    refine wpAnyH_take (i := 20) (v := undef) rfl (by kernel_rfl) (by kernel_rfl) (by kernel_rfl) (fun _ _ _ h => h) (Or.inr ⟨by kernel_rfl, rfl⟩) hHeld ?_
    simp only [Act.put, List.getElem_toArray, List.getElem_cons_succ, List.getElem_cons_zero, List.setIfInBounds_toArray, List.set_cons_zero, List.set_cons_succ]
    refine wpAnyH_take (i := 21) (v := undef) rfl (by kernel_rfl) (by kernel_rfl) (by kernel_rfl) (fun _ _ _ h => h) (Or.inr ⟨by kernel_rfl, rfl⟩) hHeld ?_
    simp only [Act.put, List.getElem_toArray, List.getElem_cons_succ, List.getElem_cons_zero, List.setIfInBounds_toArray, List.set_cons_zero, List.set_cons_succ]
    refine wpAnyH_take (i := 22) (v := undef) rfl (by kernel_rfl) (by kernel_rfl) (by kernel_rfl) (fun _ _ _ h => h) (Or.inr ⟨by kernel_rfl, rfl⟩) hHeld ?_
    simp only [Act.put, List.getElem_toArray, List.getElem_cons_succ, List.getElem_cons_zero, List.setIfInBounds_toArray, List.set_cons_zero, List.set_cons_succ]
    refine wpAnyH_take (i := 23) (v := .bool true) rfl (by kernel_rfl) (by kernel_rfl) (by kernel_rfl) (fun _ _ _ h => h) (Or.inl ⟨by kernel_rfl, by (intro w hSw; (try dsimp only at hSw); go_simp)⟩) hHeld ?_
    simp only [Act.put, List.getElem_toArray, List.getElem_cons_succ, List.getElem_cons_zero, List.setIfInBounds_toArray, List.set_cons_zero, List.set_cons_succ]
    refine wpAnyH_done (by kernel_rfl) ?_ _
    have hb07 : Below w.heap.size w w6.drew := bel_drewN hb06 1
    go_wp2_with fail
    refine (kfin.out _).mono ?_
    rintro e w99 ⟨rfl, hb99⟩
    have hbz := hb07.trans (hb99.mono hb07.size)
    go_wp2
    go_ret
    exact ⟨rfl, hbz⟩
  have gt2 : decide (t0 ≤ f0) = false := decide_eq_false htf
  by_cases htN : (N : Int) < t0
  · have gn2 : decide ((N : Int) < t0) = true := decide_eq_true htN
    go_wp2_with fail
    refine wp_region_held_drew (S := (fun wx => True)) (by kernel_rfl) trivial (fun hHeld => ?_)
    refine wpAnyH_take (i := 0) (v := .int .i64 f0) rfl (by kernel_rfl) (by kernel_rfl) (by kernel_rfl) (fun _ _ _ h => h) (Or.inl ⟨by kernel_rfl, by (intro w hSw; (try dsimp only at hSw); go_simp)⟩) hHeld ?_
    simp only [Act.put, List.getElem_toArray, List.getElem_cons_succ, List.getElem_cons_zero, List.setIfInBounds_toArray, List.set_cons_zero, List.set_cons_succ]
    refine wpAnyH_take (i := 1) (v := .bool false) rfl (by kernel_rfl) (by kernel_rfl) (by kernel_rfl) (fun _ _ _ h => h) (Or.inl ⟨by kernel_rfl, by (intro w hSw; (try dsimp only at hSw); go_simp)⟩) hHeld ?_
    simp only [Act.put, List.getElem_toArray, List.getElem_cons_succ, List.getElem_cons_zero, List.setIfInBounds_toArray, List.set_cons_zero, List.set_cons_succ]
    refine wpAnyH_take (i := 2) (v := .bool false) rfl (by kernel_rfl) (by kernel_rfl) (by kernel_rfl) (fun _ _ _ h => h) (Or.inl ⟨by kernel_rfl, by (intro w hSw; (try dsimp only at hSw); go_simp)⟩) hHeld ?_
    simp only [Act.put, List.getElem_toArray, List.getElem_cons_succ, List.getElem_cons_zero, List.setIfInBounds_toArray, List.set_cons_zero, List.set_cons_succ]
    refine wpAnyH_take (i := 3) (v := .int .i64 t0) rfl (by kernel_rfl) (by kernel_rfl) (by kernel_rfl) (fun _ _ _ h => h) (Or.inl ⟨by kernel_rfl, by (intro w hSw; (try dsimp only at hSw); go_simp)⟩) hHeld ?_
    simp only [Act.put, List.getElem_toArray, List.getElem_cons_succ, List.getElem_cons_zero, List.setIfInBounds_toArray, List.set_cons_zero, List.set_cons_succ]
    refine wpAnyH_take (i := 4) (v := .int .i64 f0) rfl (by kernel_rfl) (by kernel_rfl) (by kernel_rfl) (fun _ _ _ h => h) (Or.inl ⟨by kernel_rfl, by (intro w hSw; (try dsimp only at hSw); go_simp)⟩) hHeld ?_
    simp only [Act.put, List.getElem_toArray, List.getElem_cons_succ, List.getElem_cons_zero, List.setIfInBounds_toArray, List.set_cons_zero, List.set_cons_succ]
    refine wpAnyH_take (i := 5) (v := .bool false) rfl (by kernel_rfl) (by kernel_rfl) (by kernel_rfl) (fun _ _ _ h => h) (Or.inl ⟨by kernel_rfl, by (intro w hSw; (try dsimp only at hSw); go_simp)⟩) hHeld ?_
    simp only [Act.put, List.getElem_toArray, List.getElem_cons_succ, List.getElem_cons_zero, List.setIfInBounds_toArray, List.set_cons_zero, List.set_cons_succ]
    refine wpAnyH_take (i := 6) (v := .bool false) rfl (by kernel_rfl) (by kernel_rfl) (by kernel_rfl) (fun _ _ _ h => h) (Or.inl ⟨by kernel_rfl, by (intro w hSw; (try dsimp only at hSw); go_simp)⟩) hHeld ?_
    simp only [Act.put, List.getElem_toArray, List.getElem_cons_succ, List.getElem_cons_zero, List.setIfInBounds_toArray, List.set_cons_zero, List.set_cons_succ]
    refine wpAnyH_take (i := 7) (v := .bool false) rfl (by kernel_rfl) (by kernel_rfl) (by kernel_rfl) (fun _ _ _ h => h) (Or.inl ⟨by kernel_rfl, by (intro w hSw; (try dsimp only at hSw); go_simp)⟩) hHeld ?_
    simp only [Act.put, List.getElem_toArray, List.getElem_cons_succ, List.getElem_cons_zero, List.setIfInBounds_toArray, List.set_cons_zero, List.set_cons_succ]
    refine wpAnyH_take (i := 8) (v := .int .i64 t0) rfl (by kernel_rfl) (by kernel_rfl) (by kernel_rfl) (fun _ _ _ h => h) (Or.inl ⟨by kernel_rfl, by (intro w hSw; (try dsimp only at hSw); go_simp)⟩) hHeld ?_
    simp only [Act.put, List.getElem_toArray, List.getElem_cons_succ, List.getElem_cons_zero, List.setIfInBounds_toArray, List.set_cons_zero, List.set_cons_succ]
    refine wpAnyH_take (i := 9) (v := .slice A6 N c6) rfl (by kernel_rfl) (by kernel_rfl) (by kernel_rfl) (fun _ _ _ h => h) (Or.inl ⟨by kernel_rfl, by (intro w hSw; (try dsimp only at hSw); go_simp)⟩) hHeld ?_
    simp only [Act.put, List.getElem_toArray, List.getElem_cons_succ, List.getElem_cons_zero, List.setIfInBounds_toArray, List.set_cons_zero, List.set_cons_succ]
    refine wpAnyH_take (i := 10) (v := .int .i64 (N : Int)) rfl (by kernel_rfl) (by kernel_rfl) (by kernel_rfl) (fun _ _ _ h => h) (Or.inl ⟨by kernel_rfl, by (intro w hSw; (try dsimp only at hSw); go_simp)⟩) hHeld ?_
    simp only [Act.put, List.getElem_toArray, List.getElem_cons_succ, List.getElem_cons_zero, List.setIfInBounds_toArray, List.set_cons_zero, List.set_cons_succ]
    refine wpAnyH_take (i := 11) (v := .bool true) rfl (by kernel_rfl) (by kernel_rfl) (by kernel_rfl) (fun _ _ _ h => h) (Or.inl ⟨by kernel_rfl, by (intro w hSw; (try dsimp only at hSw); go_simp)⟩) hHeld ?_
    simp only [Act.put, List.getElem_toArray, List.getElem_cons_succ, List.getElem_cons_zero, List.setIfInBounds_toArray, List.set_cons_zero, List.set_cons_succ]
    refine wpAnyH_take (i := 12) (v := .bool true) rfl (by kernel_rfl) (by kernel_rfl) (by kernel_rfl) (fun _ _ _ h => h) (Or.inl ⟨by kernel_rfl, by (intro w hSw; (try dsimp only at hSw); go_simp)⟩) hHeld ?_
    simp only [Act.put, List.getElem_toArray, List.getElem_cons_succ, List.getElem_cons_zero, List.setIfInBounds_toArray, List.set_cons_zero, List.set_cons_succ]
    refine wpAnyH_take (i := 13) (v := .bool true) rfl (by kernel_rfl) (by kernel_rfl) (by kernel_rfl) (fun _ _ _ h => h) (Or.inl ⟨by kernel_rfl, by (intro w hSw; (try dsimp only at hSw); go_simp)⟩) hHeld ?_
    simp only [Act.put, List.getElem_toArray, List.getElem_cons_succ, List.getElem_cons_zero, List.setIfInBounds_toArray, List.set_cons_zero, List.set_cons_succ]
    refine wpAnyH_take (i := 14) (v := undef) rfl (by kernel_rfl) (by kernel_rfl) (by kernel_rfl) (fun _ _ _ h => h) (Or.inr ⟨by kernel_rfl, rfl⟩) hHeld ?_
    simp only [Act.put, List.getElem_toArray, List.getElem_cons_succ, List.getElem_cons_zero, List.setIfInBounds_toArray, List.set_cons_zero, List.set_cons_succ]
    refine wpAnyH_take (i := 15) (v := undef) rfl (by kernel_rfl) (by kernel_rfl) (by kernel_rfl) (fun _ _ _ h => h) (Or.inr ⟨by kernel_rfl, rfl⟩) hHeld ?_
    simp only [Act.put, List.getElem_toArray, List.getElem_cons_succ, List.getElem_cons_zero, List.setIfInBounds_toArray, List.set_cons_zero, List.set_cons_succ]
    refine wpAnyH_take (i := 16) (v := undef) rfl (by kernel_rfl) (by kernel_rfl) (by kernel_rfl) (fun _ _ _ h => h) (Or.inr ⟨by kernel_rfl, rfl⟩) hHeld ?_
    simp only [Act.put, List.getElem_toArray, List.getElem_cons_succ, List.getElem_cons_zero, List.setIfInBounds_toArray, List.set_cons_zero, List.set_cons_succ]
    refine wpAnyH_take (i := 17) (v := undef) rfl (by kernel_rfl) (by kernel_rfl) (by kernel_rfl) (fun _ _ _ h => h) (Or.inr ⟨by kernel_rfl, rfl⟩) hHeld ?_
    simp only [Act.put, List.getElem_toArray, List.getElem_cons_succ, List.getElem_cons_zero, List.setIfInBounds_toArray, List.set_cons_zero, List.set_cons_succ]
    refine wpAnyH_take (i := 18) (v := undef) rfl (by kernel_rfl) (by kernel_rfl) (by kernel_rfl) (fun _ _ _ h => h) (Or.inr ⟨by kernel_rfl, rfl⟩) hHeld ?_
    simp only [Act.put, List.getElem_toArray, List.getElem_cons_succ, List.getElem_cons_zero, List.setIfInBounds_toArray, List.set_cons_zero, List.set_cons_succ]
    refine wpAnyH_take (i := 19) (v := undef) rfl (by kernel_rfl) (by kernel_rfl) (by kernel_rfl) (fun _ _ _ h => h) (Or.inr ⟨by kernel_rfl, rfl⟩) hHeld ?_
    simp only [Act.put, List.getElem_toArray, List.getElem_cons_succ, List.getElem_cons_zero, List.setIfInBounds_toArray, List.set_cons_zero, List.set_cons_succ]
    refine wpAnyH_take (i := 20) (v := undef) rfl (by kernel_rfl) (by kernel_rfl) (by kernel_rfl) (fun _ _ _ h => h) (Or.inr ⟨by kernel_rfl, rfl⟩) hHeld ?_
    simp only [Act.put, List.getElem_toArray, List.getElem_cons_succ, List.getElem_cons_zero, List.setIfInBounds_toArray, List.set_cons_zero, List.set_cons_succ]
    refine wpAnyH_take (i := 21) (v := undef) rfl (by kernel_rfl) (by kernel_rfl) (by kernel_rfl) (fun _ _ _ h => h) (Or.inr ⟨by kernel_rfl, rfl⟩) hHeld ?_
    simp only [Act.put, List.getElem_toArray, List.getElem_cons_succ, List.getElem_cons_zero, List.setIfInBounds_toArray, List.set_cons_zero, List.set_cons_succ]
    refine wpAnyH_take (i := 22) (v := undef) rfl (by kernel_rfl) (by kernel_rfl) (by kernel_rfl) (fun _ _ _ h => h) (Or.inr ⟨by kernel_rfl, rfl⟩) hHeld ?_
    simp only [Act.put, List.getElem_toArray, List.getElem_cons_succ, List.getElem_cons_zero, List.setIfInBounds_toArray, List.set_cons_zero, List.set_cons_succ]
    refine wpAnyH_take (i := 23) (v := .bool true) rfl (by kernel_rfl) (by kernel_rfl) (by kernel_rfl) (fun _ _ _ h => h) (Or.inl ⟨by kernel_rfl, by (intro w hSw; (try dsimp only at hSw); go_simp)⟩) hHeld ?_
    simp only [Act.put, List.getElem_toArray, List.getElem_cons_succ, List.getElem_cons_zero, List.setIfInBounds_toArray, List.set_cons_zero, List.set_cons_succ]
    refine wpAnyH_done (by kernel_rfl) ?_ _
    have hb07 : Below w.heap.size w w6.drew := bel_drewN hb06 1
    go_wp2_with fail
    refine (kfin.out _).mono ?_
    rintro e w99 ⟨rfl, hb99⟩
    have hbz := hb07.trans (hb99.mono hb07.size)
    go_wp2
    go_ret
    exact ⟨rfl, hbz⟩
  have gn2 : decide ((N : Int) < t0) = false := decide_eq_false htN
  obtain ⟨ad6, B6, L6, C6, x6, rfl, hc6, hx6, hS6, _, _⟩ := hV6.at_ (i := 0) (by omega)
  obtain ⟨adb, Bb, Lb, Cb, xb, rfl, hcb, hxb, hSb, _, _⟩ := hU6.at_ (i := 0) (by omega)
  have hc6 : w6.cell? ad6 = some (.slice B6 L6 C6) := by rw [show ad6.add 0 = ad6 from by unfold Addr.add; simp] at hc6; exact hc6
  have hcb : w6.cell? adb = some (.slice Bb Lb Cb) := by rw [show adb.add 0 = adb from by unfold Addr.add; simp] at hcb; exact hcb
  have hN0 : 0 < N := by omega
  have hnb0 : 0 < nb := by omega
  have hHd : (fun wx : World => wx.cell? ad6 = some (.slice B6 L6 C6) ∧ wx.cell? adb = some (.slice Bb Lb Cb)) w6.drew := ⟨by rw [World.cell?_drew]; exact hc6, by rw [World.cell?_drew]; exact hcb⟩
  by_cases hLL : L6 = Lb
  case neg =>
    have hLz : ((L6 : Int) == (Lb : Int)) = false := by rw [beq_eq_false_iff_ne]; omega
    have hLn : ((L6 : Int) != (Lb : Int)) = true := by rw [bne, hLz]; rfl
    have hLi : ¬ (L6 : Int) = (Lb : Int) := by omega
    go_wp2_with fail
    refine wp_region_held_drew (S := (fun wx => wx.cell? ad6 = some (.slice B6 L6 C6) ∧ wx.cell? adb = some (.slice Bb Lb Cb))) (by kernel_rfl) hHd (fun hHeld => ?_)
    refine wpAnyH_take (i := 0) (v := .int .i64 f0) rfl (by kernel_rfl) (by kernel_rfl) (by kernel_rfl) (fun _ _ _ h => h) (Or.inl ⟨by kernel_rfl, by (intro w hSw; (try dsimp only at hSw); go_simp)⟩) hHeld ?_
    simp only [Act.put, List.getElem_toArray, List.getElem_cons_succ, List.getElem_cons_zero, List.setIfInBounds_toArray, List.set_cons_zero, List.set_cons_succ]
    refine wpAnyH_take (i := 1) (v := .bool false) rfl (by kernel_rfl) (by kernel_rfl) (by kernel_rfl) (fun _ _ _ h => h) (Or.inl ⟨by kernel_rfl, by (intro w hSw; (try dsimp only at hSw); go_simp)⟩) hHeld ?_
    simp only [Act.put, List.getElem_toArray, List.getElem_cons_succ, List.getElem_cons_zero, List.setIfInBounds_toArray, List.set_cons_zero, List.set_cons_succ]
    refine wpAnyH_take (i := 2) (v := .bool false) rfl (by kernel_rfl) (by kernel_rfl) (by kernel_rfl) (fun _ _ _ h => h) (Or.inl ⟨by kernel_rfl, by (intro w hSw; (try dsimp only at hSw); go_simp)⟩) hHeld ?_
    simp only [Act.put, List.getElem_toArray, List.getElem_cons_succ, List.getElem_cons_zero, List.setIfInBounds_toArray, List.set_cons_zero, List.set_cons_succ]
    refine wpAnyH_take (i := 3) (v := .int .i64 t0) rfl (by kernel_rfl) (by kernel_rfl) (by kernel_rfl) (fun _ _ _ h => h) (Or.inl ⟨by kernel_rfl, by (intro w hSw; (try dsimp only at hSw); go_simp)⟩) hHeld ?_
    simp only [Act.put, List.getElem_toArray, List.getElem_cons_succ, List.getElem_cons_zero, List.setIfInBounds_toArray, List.set_cons_zero, List.set_cons_succ]
    refine wpAnyH_take (i := 4) (v := .int .i64 f0) rfl (by kernel_rfl) (by kernel_rfl) (by kernel_rfl) (fun _ _ _ h => h) (Or.inl ⟨by kernel_rfl, by (intro w hSw; (try dsimp only at hSw); go_simp)⟩) hHeld ?_
    simp only [Act.put, List.getElem_toArray, List.getElem_cons_succ, List.getElem_cons_zero, List.setIfInBounds_toArray, List.set_cons_zero, List.set_cons_succ]
    refine wpAnyH_take (i := 5) (v := .bool false) rfl (by kernel_rfl) (by kernel_rfl) (by kernel_rfl) (fun _ _ _ h => h) (Or.inl ⟨by kernel_rfl, by (intro w hSw; (try dsimp only at hSw); go_simp)⟩) hHeld ?_
    simp only [Act.put, List.getElem_toArray, List.getElem_cons_succ, List.getElem_cons_zero, List.setIfInBounds_toArray, List.set_cons_zero, List.set_cons_succ]
    refine wpAnyH_take (i := 6) (v := .bool false) rfl (by kernel_rfl) (by kernel_rfl) (by kernel_rfl) (fun _ _ _ h => h) (Or.inl ⟨by kernel_rfl, by (intro w hSw; (try dsimp only at hSw); go_simp)⟩) hHeld ?_
    simp only [Act.put, List.getElem_toArray, List.getElem_cons_succ, List.getElem_cons_zero, List.setIfInBounds_toArray, List.set_cons_zero, List.set_cons_succ]
    refine wpAnyH_take (i := 7) (v := .bool false) rfl (by kernel_rfl) (by kernel_rfl) (by kernel_rfl) (fun _ _ _ h => h) (Or.inl ⟨by kernel_rfl, by (intro w hSw; (try dsimp only at hSw); go_simp)⟩) hHeld ?_
    simp only [Act.put, List.getElem_toArray, List.getElem_cons_succ, List.getElem_cons_zero, List.setIfInBounds_toArray, List.set_cons_zero, List.set_cons_succ]
    refine wpAnyH_take (i := 8) (v := .int .i64 t0) rfl (by kernel_rfl) (by kernel_rfl) (by kernel_rfl) (fun _ _ _ h => h) (Or.inl ⟨by kernel_rfl, by (intro w hSw; (try dsimp only at hSw); go_simp)⟩) hHeld ?_
    simp only [Act.put, List.getElem_toArray, List.getElem_cons_succ, List.getElem_cons_zero, List.setIfInBounds_toArray, List.set_cons_zero, List.set_cons_succ]
    refine wpAnyH_take (i := 9) (v := .slice (some ad6) N c6) rfl (by kernel_rfl) (by kernel_rfl) (by kernel_rfl) (fun _ _ _ h => h) (Or.inl ⟨by kernel_rfl, by (intro w hSw; (try dsimp only at hSw); go_simp)⟩) hHeld ?_
    simp only [Act.put, List.getElem_toArray, List.getElem_cons_succ, List.getElem_cons_zero, List.setIfInBounds_toArray, List.set_cons_zero, List.set_cons_succ]
    refine wpAnyH_take (i := 10) (v := .int .i64 (N : Int)) rfl (by kernel_rfl) (by kernel_rfl) (by kernel_rfl) (fun _ _ _ h => h) (Or.inl ⟨by kernel_rfl, by (intro w hSw; (try dsimp only at hSw); go_simp)⟩) hHeld ?_
    simp only [Act.put, List.getElem_toArray, List.getElem_cons_succ, List.getElem_cons_zero, List.setIfInBounds_toArray, List.set_cons_zero, List.set_cons_succ]
    refine wpAnyH_take (i := 11) (v := .bool false) rfl (by kernel_rfl) (by kernel_rfl) (by kernel_rfl) (fun _ _ _ h => h) (Or.inl ⟨by kernel_rfl, by (intro w hSw; (try dsimp only at hSw); go_simp)⟩) hHeld ?_
    simp only [Act.put, List.getElem_toArray, List.getElem_cons_succ, List.getElem_cons_zero, List.setIfInBounds_toArray, List.set_cons_zero, List.set_cons_succ]
    refine wpAnyH_take (i := 12) (v := .bool false) rfl (by kernel_rfl) (by kernel_rfl) (by kernel_rfl) (fun _ _ _ h => h) (Or.inl ⟨by kernel_rfl, by (intro w hSw; (try dsimp only at hSw); go_simp)⟩) hHeld ?_
    simp only [Act.put, List.getElem_toArray, List.getElem_cons_succ, List.getElem_cons_zero, List.setIfInBounds_toArray, List.set_cons_zero, List.set_cons_succ]
    refine wpAnyH_take (i := 13) (v := .bool false) rfl (by kernel_rfl) (by kernel_rfl) (by kernel_rfl) (fun _ _ _ h => h) (Or.inl ⟨by kernel_rfl, by (intro w hSw; (try dsimp only at hSw); go_simp)⟩) hHeld ?_
    simp only [Act.put, List.getElem_toArray, List.getElem_cons_succ, List.getElem_cons_zero, List.setIfInBounds_toArray, List.set_cons_zero, List.set_cons_succ]
    refine wpAnyH_take (i := 14) (v := .slice (some ad6) N c6) rfl (by kernel_rfl) (by kernel_rfl) (by kernel_rfl) (fun _ _ _ h => h) (Or.inl ⟨by kernel_rfl, by (intro w hSw; (try dsimp only at hSw); go_simp)⟩) hHeld ?_
    simp only [Act.put, List.getElem_toArray, List.getElem_cons_succ, List.getElem_cons_zero, List.setIfInBounds_toArray, List.set_cons_zero, List.set_cons_succ]
    refine wpAnyH_take (i := 15) (v := .pointer (some ad6)) rfl (by kernel_rfl) (by kernel_rfl) (by kernel_rfl) (fun _ _ _ h => h) (Or.inl ⟨by kernel_rfl, by (intro w hSw; (try dsimp only at hSw); go_simp)⟩) hHeld ?_
    simp only [Act.put, List.getElem_toArray, List.getElem_cons_succ, List.getElem_cons_zero, List.setIfInBounds_toArray, List.set_cons_zero, List.set_cons_succ]
    refine wpAnyH_take (i := 16) (v := .slice B6 L6 C6) rfl (by kernel_rfl) (by kernel_rfl) (by kernel_rfl) (fun _ _ _ h => h) (Or.inl ⟨by kernel_rfl, by (intro w hSw; (try dsimp only at hSw); go_simp)⟩) hHeld ?_
    simp only [Act.put, List.getElem_toArray, List.getElem_cons_succ, List.getElem_cons_zero, List.setIfInBounds_toArray, List.set_cons_zero, List.set_cons_succ]
    refine wpAnyH_take (i := 17) (v := .int .i64 (L6 : Int)) rfl (by kernel_rfl) (by kernel_rfl) (by kernel_rfl) (fun _ _ _ h => h) (Or.inl ⟨by kernel_rfl, by (intro w hSw; (try dsimp only at hSw); go_simp)⟩) hHeld ?_
    simp only [Act.put, List.getElem_toArray, List.getElem_cons_succ, List.getElem_cons_zero, List.setIfInBounds_toArray, List.set_cons_zero, List.set_cons_succ]
    refine wpAnyH_take (i := 18) (v := .slice (some adb) nb cb) rfl (by kernel_rfl) (by kernel_rfl) (by kernel_rfl) (fun _ _ _ h => h) (Or.inl ⟨by kernel_rfl, by (intro w hSw; (try dsimp only at hSw); go_simp)⟩) hHeld ?_
    simp only [Act.put, List.getElem_toArray, List.getElem_cons_succ, List.getElem_cons_zero, List.setIfInBounds_toArray, List.set_cons_zero, List.set_cons_succ]
    refine wpAnyH_take (i := 19) (v := .pointer (some adb)) rfl (by kernel_rfl) (by kernel_rfl) (by kernel_rfl) (fun _ _ _ h => h) (Or.inl ⟨by kernel_rfl, by (intro w hSw; (try dsimp only at hSw); go_simp)⟩) hHeld ?_
    simp only [Act.put, List.getElem_toArray, List.getElem_cons_succ, List.getElem_cons_zero, List.setIfInBounds_toArray, List.set_cons_zero, List.set_cons_succ]
    refine wpAnyH_take (i := 20) (v := .slice Bb Lb Cb) rfl (by kernel_rfl) (by kernel_rfl) (by kernel_rfl) (fun _ _ _ h => h) (Or.inl ⟨by kernel_rfl, by (intro w hSw; (try dsimp only at hSw); go_simp)⟩) hHeld ?_
    simp only [Act.put, List.getElem_toArray, List.getElem_cons_succ, List.getElem_cons_zero, List.setIfInBounds_toArray, List.set_cons_zero, List.set_cons_succ]
    refine wpAnyH_take (i := 21) (v := .int .i64 (Lb : Int)) rfl (by kernel_rfl) (by kernel_rfl) (by kernel_rfl) (fun _ _ _ h => h) (Or.inl ⟨by kernel_rfl, by (intro w hSw; (try dsimp only at hSw); go_simp)⟩) hHeld ?_
    simp only [Act.put, List.getElem_toArray, List.getElem_cons_succ, List.getElem_cons_zero, List.setIfInBounds_toArray, List.set_cons_zero, List.set_cons_succ]
    refine wpAnyH_take (i := 22) (v := .bool true) rfl (by kernel_rfl) (by kernel_rfl) (by kernel_rfl) (fun _ _ _ h => h) (Or.inl ⟨by kernel_rfl, by (intro w hSw; (try dsimp only at hSw); go_simp)⟩) hHeld ?_
    simp only [Act.put, List.getElem_toArray, List.getElem_cons_succ, List.getElem_cons_zero, List.setIfInBounds_toArray, List.set_cons_zero, List.set_cons_succ]
    refine wpAnyH_take (i := 23) (v := .bool true) rfl (by kernel_rfl) (by kernel_rfl) (by kernel_rfl) (fun _ _ _ h => h) (Or.inl ⟨by kernel_rfl, by (intro w hSw; (try dsimp only at hSw); go_simp)⟩) hHeld ?_
    simp only [Act.put, List.getElem_toArray, List.getElem_cons_succ, List.getElem_cons_zero, List.setIfInBounds_toArray, List.set_cons_zero, List.set_cons_succ]
    refine wpAnyH_done (by kernel_rfl) ?_ _
    have hb07 : Below w.heap.size w w6.drew := bel_drewN hb06 1
    go_wp2_with fail
    refine (kfin.out _).mono ?_
    rintro e w99 ⟨rfl, hb99⟩
    have hbz := hb07.trans (hb99.mono hb07.size)
    go_wp2
    go_ret
    exact ⟨rfl, hbz⟩
  subst hLL
  obtain ⟨f, hf0⟩ : ∃ f : Nat, f0 = (f : Int) := ⟨f0.toNat, by omega⟩
  subst hf0
  obtain ⟨t, ht0⟩ : ∃ t : Nat, t0 = (t : Int) := ⟨t0.toNat, by omega⟩
  subst ht0
  have hft : f < t := by omega
  have gz1 : decide (f < 0) = false := decide_eq_false (by omega)
  have gz2 : decide (t ≤ f) = false := decide_eq_false (by omega)
  have gz3 : decide (N < t) = false := decide_eq_false (by omega)
  have htN' : t ≤ N := by omega
  obtain ⟨i, hi⟩ : ∃ i, f * st = i := ⟨_, rfl⟩
  obtain ⟨u, hu⟩ : ∃ u, (t - 1) * st = u := ⟨_, rfl⟩
  have hcut := cut_in (n := n) (s := sz) (p := st) (by omega) (by omega) hft (by rw [hN.out]; exact htN')
  rw [hi, hu] at hcut
  have hci := hcut.1
  have hcn := hcut.2.1
  have hcl := hcut.2.2
  have hu2 : (t - 1 - f) * st + sz ≤ 1000 := by omega
  obtain ⟨adA, hadA, _⟩ := hS.cell (by omega)
  subst hadA
  obtain ⟨d, hd⟩ : ∃ d, t - f = d := ⟨_, rfl⟩
  have wi : IntKind.i64.wrap ((f : Int) * (st : Int)) = (i : Int) := by rw [show (f : Int) * (st : Int) = (i : Int) by rw [← hi]; simp, IntWalk.i64_in _ (by omega)]
  have wt : IntKind.i64.wrap ((t : Int) - 1) = ((t - 1 : Nat) : Int) := by rw [IntWalk.i64_in _ (by omega)]; omega
  obtain ⟨t1, ht1'⟩ : ∃ t1, t - 1 = t1 := ⟨_, rfl⟩
  rw [ht1'] at wt hu hcl hu2
  have wu : IntKind.i64.wrap ((t1 : Int) * (st : Int)) = (u : Int) := by rw [show (t1 : Int) * (st : Int) = (u : Int) by rw [← hu]; simp, IntWalk.i64_in _ (by omega)]
  obtain ⟨j, hj⟩ : ∃ j, u + sz = j := ⟨_, rfl⟩
  have wj : IntKind.i64.wrap ((u : Int) + (sz : Int)) = (j : Int) := by rw [IntWalk.i64_in _ (by omega)]; omega
  have wd : IntKind.i64.wrap ((t : Int) - (f : Int)) = (d : Int) := by rw [IntWalk.i64_in _ (by omega)]; omega
  have hij : i ≤ j := by omega
  have hjn : j ≤ n := by omega
  have hcin : ¬ c = i := by omega
  obtain ⟨ys, hys⟩ : ∃ ys, (xs.take j).drop i = ys := ⟨_, rfl⟩
  have hyl : ys.length = j - i := by rw [← hys, List.length_drop, List.length_take, hl.out]; omega
  have hCl := Lib.hid (fun (w9 : World) (h9 : Sl .i64 w9 (some adA) n c xs) => Clip_some rate adA n c xs i j w9 h9 hij hjn hcin (by omega) hk.out)
  rw [hys] at hCl
  have hyb : allB (-32768) 32767 ys = true := allB_of fun x hx9 => by rw [← hys] at hx9; exact allB_mem hx.out x (List.mem_of_mem_take (List.mem_of_mem_drop hx9))
  have hXb := Lib.hid (fun (A9 : Option Addr) (c9 : Nat) w9 (a1 : Sl .i64 w9 A9 (j - i) c9 ys) a0 a2 a3 => hXok.out A9 (j - i) c9 ys hyb (by omega) w9 a1 a0 a2 a3)
  have hfc := feat_cut (den := den) (size := (sz : Int)) (step := (st : Int)) (kind := kind) (p := p) (cep := cep) (es := es) xs (f := f) (t := t) hd1 hs1 ht1 hft (by rw [hl.out, Int.toNat_natCast, Int.toNat_natCast, hN.out]; exact htN')
  rw [Int.toNat_natCast, Int.toNat_natCast, ht1', hu, hi, hj, hys, hvs.out] at hfc
  obtain ⟨us2, hus2⟩ : ∃ us2, (vs.take t).drop f = us2 := ⟨_, rfl⟩
  rw [hus2] at hfc
  rw [hfc] at hXb
  have h2l : us2.length = d := by rw [← hus2, List.length_drop, List.length_take, hvN.out]; omega
  rw [h2l] at hXb
  have hVM2 : VecM (ftN es cep) 128000 us2 := fun x hx9 => by rw [← hus2] at hx9; exact hVM.out x (List.mem_of_mem_take (List.mem_of_mem_drop hx9))
  have hvh : (vs.headD []).length = L6 := by
    rw [← hS6.len]
    cases vs with
    | nil => exact absurd hvN.out (by simp; omega)
    | cons a l => injection hx6.out with hx6; rw [← hx6]; rfl
  have huh : (us.headD []).length = L6 := by
    rw [← hSb.len]
    cases us with
    | nil => exact absurd hlb.out (by simp; omega)
    | cons a l => injection hxb.out with hxb; rw [← hxb]; rfl
  have hmf : (us.headD []).length = ftN es cep := by rw [huh, ← hvh]; exact hVM.out.head (by rw [hvN.out]; omega)
  have hk1 := cod_zero hVM.out (by decide) hfn.out.1 (by have := hfn.out.2; omega) (by rw [hvN.out]; omega) (by rw [hvN.out]; omega) hbk2.out hbk1.out hmf
  have hk2 := cod_zero hVM2 (by decide) hfn.out.1 (by have := hfn.out.2; omega) (by rw [h2l]; omega) (by rw [h2l]; omega) hbk2.out hbk1.out hmf
  have hQa := Lib.hid (fun (w9 : World) (A9 : Option Addr) (c9 : Nat) (h9 : Rr w9 A9 N c9 vs) (g9 : Rr w9 (some adb) nb cb us) => Quant_ok A9 (some adb) N c9 nb cb vs us w9 h9 g9 hk1)
  have hQb := Lib.hid (fun (w9 : World) (A9 : Option Addr) (c9 : Nat) (h9 : Rr w9 A9 d c9 us2) (g9 : Rr w9 (some adb) nb cb us) => Quant_ok A9 (some adb) d c9 nb cb us2 us w9 h9 g9 hk2)
  have hsc := sym_cut us vs (f := f) (t := t) (by omega) (by rw [hvN.out]; exact htN')
  rw [hus2] at hsc
  obtain ⟨sa, hsa⟩ : ∃ sa, symL us vs = sa := ⟨_, rfl⟩
  obtain ⟨sb, hsb⟩ : ∃ sb, symL us us2 = sb := ⟨_, rfl⟩
  rw [hsa, hsb] at hsc
  rw [hsa] at hQa
  rw [hsb] at hQb
  have hsal : sa.length = N := by rw [← hsa, sym_len, hvN.out]
  have hsbl : sb.length = d := by rw [← hsb, sym_len, h2l]
  have hsal := Lib.hid hsal
  have hsbl := Lib.hid hsbl
  have hsc := Lib.hid hsc
  have hyl := Lib.hid hyl
  obtain ⟨q, hq⟩ : ∃ q, j - i = q := ⟨_, rfl⟩
  have hq0 : 0 < q := by omega
  rw [hq] at hXb hyl
  have hLz : ((L6 : Int) == (L6 : Int)) = true := by simp
  have hLn : ((L6 : Int) != (L6 : Int)) = false := by simp
  unfold rcV at hXb
  have gd1 : 1 ≤ d := by omega
  have gd2 : d ≤ 1000 := by omega
  have hdf : f + d = t := by omega
  have hNf : ¬ N = f := by omega
  clear hXok hk1 hk2 hmf huh hvh hVM2 hfc hsa hsb hus2 h2l hyb hys hcut hVM hvs hfn hbk1 hbk2 hR hx hk hrt hvb hbb hVb hXa
  clear hcl hu2 hu hi
  go_wp2_with fail
  refine wp_region_held_drew (S := (fun wx => wx.cell? ad6 = some (.slice B6 L6 C6) ∧ wx.cell? adb = some (.slice Bb L6 Cb))) (by kernel_rfl) hHd (fun hHeld => ?_)
  refine wpAnyH_take (i := 0) (v := .int .i64 (f : Int)) rfl (by kernel_rfl) (by kernel_rfl) (by kernel_rfl) (fun _ _ _ h => h) (Or.inl ⟨by kernel_rfl, by (intro w hSw; (try dsimp only at hSw); go_simp)⟩) hHeld ?_
  simp only [Act.put, List.getElem_toArray, List.getElem_cons_succ, List.getElem_cons_zero, List.setIfInBounds_toArray, List.set_cons_zero, List.set_cons_succ]
  refine wpAnyH_take (i := 1) (v := .bool false) rfl (by kernel_rfl) (by kernel_rfl) (by kernel_rfl) (fun _ _ _ h => h) (Or.inl ⟨by kernel_rfl, by (intro w hSw; (try dsimp only at hSw); go_simp)⟩) hHeld ?_
  simp only [Act.put, List.getElem_toArray, List.getElem_cons_succ, List.getElem_cons_zero, List.setIfInBounds_toArray, List.set_cons_zero, List.set_cons_succ]
  refine wpAnyH_take (i := 2) (v := .bool false) rfl (by kernel_rfl) (by kernel_rfl) (by kernel_rfl) (fun _ _ _ h => h) (Or.inl ⟨by kernel_rfl, by (intro w hSw; (try dsimp only at hSw); go_simp)⟩) hHeld ?_
  simp only [Act.put, List.getElem_toArray, List.getElem_cons_succ, List.getElem_cons_zero, List.setIfInBounds_toArray, List.set_cons_zero, List.set_cons_succ]
  refine wpAnyH_take (i := 3) (v := .int .i64 (t : Int)) rfl (by kernel_rfl) (by kernel_rfl) (by kernel_rfl) (fun _ _ _ h => h) (Or.inl ⟨by kernel_rfl, by (intro w hSw; (try dsimp only at hSw); go_simp)⟩) hHeld ?_
  simp only [Act.put, List.getElem_toArray, List.getElem_cons_succ, List.getElem_cons_zero, List.setIfInBounds_toArray, List.set_cons_zero, List.set_cons_succ]
  refine wpAnyH_take (i := 4) (v := .int .i64 (f : Int)) rfl (by kernel_rfl) (by kernel_rfl) (by kernel_rfl) (fun _ _ _ h => h) (Or.inl ⟨by kernel_rfl, by (intro w hSw; (try dsimp only at hSw); go_simp)⟩) hHeld ?_
  simp only [Act.put, List.getElem_toArray, List.getElem_cons_succ, List.getElem_cons_zero, List.setIfInBounds_toArray, List.set_cons_zero, List.set_cons_succ]
  refine wpAnyH_take (i := 5) (v := .bool false) rfl (by kernel_rfl) (by kernel_rfl) (by kernel_rfl) (fun _ _ _ h => h) (Or.inl ⟨by kernel_rfl, by (intro w hSw; (try dsimp only at hSw); go_simp)⟩) hHeld ?_
  simp only [Act.put, List.getElem_toArray, List.getElem_cons_succ, List.getElem_cons_zero, List.setIfInBounds_toArray, List.set_cons_zero, List.set_cons_succ]
  refine wpAnyH_take (i := 6) (v := .bool false) rfl (by kernel_rfl) (by kernel_rfl) (by kernel_rfl) (fun _ _ _ h => h) (Or.inl ⟨by kernel_rfl, by (intro w hSw; (try dsimp only at hSw); go_simp)⟩) hHeld ?_
  simp only [Act.put, List.getElem_toArray, List.getElem_cons_succ, List.getElem_cons_zero, List.setIfInBounds_toArray, List.set_cons_zero, List.set_cons_succ]
  refine wpAnyH_take (i := 7) (v := .bool false) rfl (by kernel_rfl) (by kernel_rfl) (by kernel_rfl) (fun _ _ _ h => h) (Or.inl ⟨by kernel_rfl, by (intro w hSw; (try dsimp only at hSw); go_simp)⟩) hHeld ?_
  simp only [Act.put, List.getElem_toArray, List.getElem_cons_succ, List.getElem_cons_zero, List.setIfInBounds_toArray, List.set_cons_zero, List.set_cons_succ]
  refine wpAnyH_take (i := 8) (v := .int .i64 (t : Int)) rfl (by kernel_rfl) (by kernel_rfl) (by kernel_rfl) (fun _ _ _ h => h) (Or.inl ⟨by kernel_rfl, by (intro w hSw; (try dsimp only at hSw); go_simp)⟩) hHeld ?_
  simp only [Act.put, List.getElem_toArray, List.getElem_cons_succ, List.getElem_cons_zero, List.setIfInBounds_toArray, List.set_cons_zero, List.set_cons_succ]
  refine wpAnyH_take (i := 9) (v := .slice (some ad6) N c6) rfl (by kernel_rfl) (by kernel_rfl) (by kernel_rfl) (fun _ _ _ h => h) (Or.inl ⟨by kernel_rfl, by (intro w hSw; (try dsimp only at hSw); go_simp)⟩) hHeld ?_
  simp only [Act.put, List.getElem_toArray, List.getElem_cons_succ, List.getElem_cons_zero, List.setIfInBounds_toArray, List.set_cons_zero, List.set_cons_succ]
  refine wpAnyH_take (i := 10) (v := .int .i64 (N : Int)) rfl (by kernel_rfl) (by kernel_rfl) (by kernel_rfl) (fun _ _ _ h => h) (Or.inl ⟨by kernel_rfl, by (intro w hSw; (try dsimp only at hSw); go_simp)⟩) hHeld ?_
  simp only [Act.put, List.getElem_toArray, List.getElem_cons_succ, List.getElem_cons_zero, List.setIfInBounds_toArray, List.set_cons_zero, List.set_cons_succ]
  refine wpAnyH_take (i := 11) (v := .bool false) rfl (by kernel_rfl) (by kernel_rfl) (by kernel_rfl) (fun _ _ _ h => h) (Or.inl ⟨by kernel_rfl, by (intro w hSw; (try dsimp only at hSw); go_simp)⟩) hHeld ?_
  simp only [Act.put, List.getElem_toArray, List.getElem_cons_succ, List.getElem_cons_zero, List.setIfInBounds_toArray, List.set_cons_zero, List.set_cons_succ]
  refine wpAnyH_take (i := 12) (v := .bool false) rfl (by kernel_rfl) (by kernel_rfl) (by kernel_rfl) (fun _ _ _ h => h) (Or.inl ⟨by kernel_rfl, by (intro w hSw; (try dsimp only at hSw); go_simp)⟩) hHeld ?_
  simp only [Act.put, List.getElem_toArray, List.getElem_cons_succ, List.getElem_cons_zero, List.setIfInBounds_toArray, List.set_cons_zero, List.set_cons_succ]
  refine wpAnyH_take (i := 13) (v := .bool false) rfl (by kernel_rfl) (by kernel_rfl) (by kernel_rfl) (fun _ _ _ h => h) (Or.inl ⟨by kernel_rfl, by (intro w hSw; (try dsimp only at hSw); go_simp)⟩) hHeld ?_
  simp only [Act.put, List.getElem_toArray, List.getElem_cons_succ, List.getElem_cons_zero, List.setIfInBounds_toArray, List.set_cons_zero, List.set_cons_succ]
  refine wpAnyH_take (i := 14) (v := .slice (some ad6) N c6) rfl (by kernel_rfl) (by kernel_rfl) (by kernel_rfl) (fun _ _ _ h => h) (Or.inl ⟨by kernel_rfl, by (intro w hSw; (try dsimp only at hSw); go_simp)⟩) hHeld ?_
  simp only [Act.put, List.getElem_toArray, List.getElem_cons_succ, List.getElem_cons_zero, List.setIfInBounds_toArray, List.set_cons_zero, List.set_cons_succ]
  refine wpAnyH_take (i := 15) (v := .pointer (some ad6)) rfl (by kernel_rfl) (by kernel_rfl) (by kernel_rfl) (fun _ _ _ h => h) (Or.inl ⟨by kernel_rfl, by (intro w hSw; (try dsimp only at hSw); go_simp)⟩) hHeld ?_
  simp only [Act.put, List.getElem_toArray, List.getElem_cons_succ, List.getElem_cons_zero, List.setIfInBounds_toArray, List.set_cons_zero, List.set_cons_succ]
  refine wpAnyH_take (i := 16) (v := .slice B6 L6 C6) rfl (by kernel_rfl) (by kernel_rfl) (by kernel_rfl) (fun _ _ _ h => h) (Or.inl ⟨by kernel_rfl, by (intro w hSw; (try dsimp only at hSw); go_simp)⟩) hHeld ?_
  simp only [Act.put, List.getElem_toArray, List.getElem_cons_succ, List.getElem_cons_zero, List.setIfInBounds_toArray, List.set_cons_zero, List.set_cons_succ]
  refine wpAnyH_take (i := 17) (v := .int .i64 (L6 : Int)) rfl (by kernel_rfl) (by kernel_rfl) (by kernel_rfl) (fun _ _ _ h => h) (Or.inl ⟨by kernel_rfl, by (intro w hSw; (try dsimp only at hSw); go_simp)⟩) hHeld ?_
  simp only [Act.put, List.getElem_toArray, List.getElem_cons_succ, List.getElem_cons_zero, List.setIfInBounds_toArray, List.set_cons_zero, List.set_cons_succ]
  refine wpAnyH_take (i := 18) (v := .slice (some adb) nb cb) rfl (by kernel_rfl) (by kernel_rfl) (by kernel_rfl) (fun _ _ _ h => h) (Or.inl ⟨by kernel_rfl, by (intro w hSw; (try dsimp only at hSw); go_simp)⟩) hHeld ?_
  simp only [Act.put, List.getElem_toArray, List.getElem_cons_succ, List.getElem_cons_zero, List.setIfInBounds_toArray, List.set_cons_zero, List.set_cons_succ]
  refine wpAnyH_take (i := 19) (v := .pointer (some adb)) rfl (by kernel_rfl) (by kernel_rfl) (by kernel_rfl) (fun _ _ _ h => h) (Or.inl ⟨by kernel_rfl, by (intro w hSw; (try dsimp only at hSw); go_simp)⟩) hHeld ?_
  simp only [Act.put, List.getElem_toArray, List.getElem_cons_succ, List.getElem_cons_zero, List.setIfInBounds_toArray, List.set_cons_zero, List.set_cons_succ]
  refine wpAnyH_take (i := 20) (v := .slice Bb L6 Cb) rfl (by kernel_rfl) (by kernel_rfl) (by kernel_rfl) (fun _ _ _ h => h) (Or.inl ⟨by kernel_rfl, by (intro w hSw; (try dsimp only at hSw); go_simp)⟩) hHeld ?_
  simp only [Act.put, List.getElem_toArray, List.getElem_cons_succ, List.getElem_cons_zero, List.setIfInBounds_toArray, List.set_cons_zero, List.set_cons_succ]
  refine wpAnyH_take (i := 21) (v := .int .i64 (L6 : Int)) rfl (by kernel_rfl) (by kernel_rfl) (by kernel_rfl) (fun _ _ _ h => h) (Or.inl ⟨by kernel_rfl, by (intro w hSw; (try dsimp only at hSw); go_simp)⟩) hHeld ?_
  simp only [Act.put, List.getElem_toArray, List.getElem_cons_succ, List.getElem_cons_zero, List.setIfInBounds_toArray, List.set_cons_zero, List.set_cons_succ]
  refine wpAnyH_take (i := 22) (v := .bool false) rfl (by kernel_rfl) (by kernel_rfl) (by kernel_rfl) (fun _ _ _ h => h) (Or.inl ⟨by kernel_rfl, by (intro w hSw; (try dsimp only at hSw); go_simp)⟩) hHeld ?_
  simp only [Act.put, List.getElem_toArray, List.getElem_cons_succ, List.getElem_cons_zero, List.setIfInBounds_toArray, List.set_cons_zero, List.set_cons_succ]
  refine wpAnyH_take (i := 23) (v := .bool false) rfl (by kernel_rfl) (by kernel_rfl) (by kernel_rfl) (fun _ _ _ h => h) (Or.inl ⟨by kernel_rfl, by (intro w hSw; (try dsimp only at hSw); go_simp)⟩) hHeld ?_
  simp only [Act.put, List.getElem_toArray, List.getElem_cons_succ, List.getElem_cons_zero, List.setIfInBounds_toArray, List.set_cons_zero, List.set_cons_succ]
  refine wpAnyH_done (by kernel_rfl) ?_ _
  have hb7 : Below w6.heap.size w6 w6.drew := bel_drewN (Below.refl _ _) 1
  clear hHd hc6 hcb hS6 hSb hx6 hxb
  generalize w6.drew = w7 at *
  have q0 := cell_bel q0 hb7
  have q1 := cell_bel q1 hb7
  obtain ⟨k0, k1, k2, k3, k4, k5, k6, k7, k8, k9⟩ := hC6.below hb7
  have hC7 := hC6.below hb7
  have he7 := he6.below hb7
  have h7 := h6.below hb7
  have hU7 := hU6.below hb7
  have hT7 : Tab w7 := Tab.below hT6 hb7
  have hb07 := hb06.trans (hb7.mono hb06.size)
  have hV7 := hV6.below hb7
  go_wp2_with fail
  refine (hCl.out _ h7).mono ?_
  rintro e w8 ⟨A8, m8, c8, rfl, hY8, hb8⟩
  have hm8 : m8 = q := by rw [← hY8.len, hyl.out]
  subst hm8
  have hnn8 : A8 = none → c8 = 0 := fun hh => by obtain ⟨a9, e9, _⟩ := hY8.cell hq0; rw [hh] at e9; cases e9
  have q0 := cell_bel q0 hb8
  have q1 := cell_bel q1 hb8
  obtain ⟨k0, k1, k2, k3, k4, k5, k6, k7, k8, k9⟩ := hC7.below hb8
  have hC8 := hC7.below hb8
  have he8 := he7.below hb8
  have h8 := h7.below hb8
  have hU8 := hU7.below hb8
  have hT8 : Tab w8 := Tab.below hT7 hb8
  have hb08 := hb07.trans (hb8.mono hb07.size)
  have hV8 := hV7.below hb8
  have hb9 := (Below.refl w8.heap.size w8).alloc (Nat.le_refl _) (.cells #[.int .i64 rate, .slice A8 m8 c8] 30)
  have z0 : (w8.alloc (.cells #[.int .i64 rate, .slice A8 m8 c8] 30)).cell? ⟨w8.heap.size, 0, none⟩ = some (.int .i64 rate) := by simp
  have z1 : (w8.alloc (.cells #[.int .i64 rate, .slice A8 m8 c8] 30)).cell? ⟨w8.heap.size, 1, none⟩ = some (.slice A8 m8 c8) := by simp
  have hY9 := hY8.below hb9
  have q0 := cell_bel q0 hb9
  have q1 := cell_bel q1 hb9
  obtain ⟨k0, k1, k2, k3, k4, k5, k6, k7, k8, k9⟩ := hC8.below hb9
  have hC9 := hC8.below hb9
  have he9 := he8.below hb9
  have h9 := h8.below hb9
  have hU9 := hU8.below hb9
  have hT9 : Tab (w8.alloc (.cells #[.int .i64 rate, .slice A8 m8 c8] 30)) := Tab.below hT8 hb9
  have hb09 := hb08.trans (hb9.mono hb08.size)
  have hV9 := hV8.below hb9
  go_wp2_with fail
  generalize w8.alloc (.cells #[.int .i64 rate, .slice A8 m8 c8] 30) = w9 at *
  refine (hXb.out _ _ _ hY9 hnn8 he9 hT9).mono ?_
  rintro e w10 ⟨A10, c10, rfl, hZ10, hb10⟩
  have q0 := cell_bel q0 hb10
  have q1 := cell_bel q1 hb10
  obtain ⟨k0, k1, k2, k3, k4, k5, k6, k7, k8, k9⟩ := hC9.below hb10
  have hC10 := hC9.below hb10
  have he10 := he9.below hb10
  have h10 := h9.below hb10
  have hU10 := hU9.below hb10
  have hT10 : Tab w10 := Tab.below hT9 hb10
  have hb010 := hb09.trans (hb10.mono hb09.size)
  have hV10 := hV9.below hb10
  clear z0 z1
  go_wp2_with fail
  refine (hQa.out _ _ _ hV10 hU10).mono ?_
  rintro e w11 ⟨ga, rfl, hMa, hb11, hga⟩
  have hSa := hMa.sl hsal.out (by omega)
  have q0 := cell_bel q0 hb11
  have q1 := cell_bel q1 hb11
  obtain ⟨k0, k1, k2, k3, k4, k5, k6, k7, k8, k9⟩ := hC10.below hb11
  have hC11 := hC10.below hb11
  have he11 := he10.below hb11
  have h11 := h10.below hb11
  have hU11 := hU10.below hb11
  have hT11 : Tab w11 := Tab.below hT10 hb11
  have hb011 := hb010.trans (hb11.mono hb010.size)
  have hV11 := hV10.below hb11
  have hZ11 := hZ10.below hb11
  go_wp2_with fail
  refine (hQb.out _ _ _ hZ11 hU11).mono ?_
  rintro e w12 ⟨gb, rfl, hMb, hb12, hgb⟩
  have hSb := hMb.sl hsbl.out (by omega)
  have hSa := hSa.below hb12
  have hb012 := hb011.trans (hb12.mono hb011.size)
  clear hV10 hV11 hV9 hV8 hV7 hZ10 hZ11 hMa hMb
  have hfle : f ≤ t := by omega
  have hSa9 := (hSa.take (m := t) htN').cut (m := f) hfle
  rw [if_neg hNf, hd, ← hsc.out, show (some (⟨ga, 0, none⟩ : Addr)).map (fun q9 : Addr => q9.add f) = some ⟨ga, f, none⟩ from by simp [Addr.add]; omega] at hSa9
  have gh1 : (f : Int) ≤ (t : Int) := by omega
  have gh2 : (t : Int) ≤ (N : Int) := by omega
  go_wp2_with fail
  refine wp_region_held_drew (S := (fun wx => True)) (by kernel_rfl) trivial (fun hHeld => ?_)
  refine wpAnyH_take (i := 0) (v := .int .i64 0) rfl (by kernel_rfl) (by kernel_rfl) (by kernel_rfl) (fun _ _ _ h => h) (Or.inl ⟨by kernel_rfl, by (intro w hSw; (try dsimp only at hSw); go_simp)⟩) hHeld ?_
  simp only [Act.put, List.getElem_toArray, List.getElem_cons_succ, List.getElem_cons_zero, List.setIfInBounds_toArray, List.set_cons_zero, List.set_cons_succ]
  refine wpAnyH_take (i := 1) (v := .bool true) rfl (by kernel_rfl) (by kernel_rfl) (by kernel_rfl) (fun _ _ _ h => h) (Or.inl ⟨by kernel_rfl, by (intro w hSw; (try dsimp only at hSw); go_simp)⟩) hHeld ?_
  simp only [Act.put, List.getElem_toArray, List.getElem_cons_succ, List.getElem_cons_zero, List.setIfInBounds_toArray, List.set_cons_zero, List.set_cons_succ]
  refine wpAnyH_take (i := 2) (v := .bool true) rfl (by kernel_rfl) (by kernel_rfl) (by kernel_rfl) (fun _ _ _ h => h) (Or.inl ⟨by kernel_rfl, by (intro w hSw; (try dsimp only at hSw); go_simp)⟩) hHeld ?_
  simp only [Act.put, List.getElem_toArray, List.getElem_cons_succ, List.getElem_cons_zero, List.setIfInBounds_toArray, List.set_cons_zero, List.set_cons_succ]
  refine wpAnyH_take (i := 3) (v := .int .i64 0) rfl (by kernel_rfl) (by kernel_rfl) (by kernel_rfl) (fun _ _ _ h => h) (Or.inl ⟨by kernel_rfl, by (intro w hSw; (try dsimp only at hSw); go_simp)⟩) hHeld ?_
  simp only [Act.put, List.getElem_toArray, List.getElem_cons_succ, List.getElem_cons_zero, List.setIfInBounds_toArray, List.set_cons_zero, List.set_cons_succ]
  refine wpAnyH_take (i := 4) (v := .bool true) rfl (by kernel_rfl) (by kernel_rfl) (by kernel_rfl) (fun _ _ _ h => h) (Or.inl ⟨by kernel_rfl, by (intro w hSw; (try dsimp only at hSw); go_simp)⟩) hHeld ?_
  simp only [Act.put, List.getElem_toArray, List.getElem_cons_succ, List.getElem_cons_zero, List.setIfInBounds_toArray, List.set_cons_zero, List.set_cons_succ]
  refine wpAnyH_take (i := 5) (v := .bool true) rfl (by kernel_rfl) (by kernel_rfl) (by kernel_rfl) (fun _ _ _ h => h) (Or.inl ⟨by kernel_rfl, by (intro w hSw; (try dsimp only at hSw); go_simp)⟩) hHeld ?_
  simp only [Act.put, List.getElem_toArray, List.getElem_cons_succ, List.getElem_cons_zero, List.setIfInBounds_toArray, List.set_cons_zero, List.set_cons_succ]
  refine wpAnyH_take (i := 6) (v := .bool true) rfl (by kernel_rfl) (by kernel_rfl) (by kernel_rfl) (fun _ _ _ h => h) (Or.inl ⟨by kernel_rfl, by (intro w hSw; (try dsimp only at hSw); go_simp)⟩) hHeld ?_
  simp only [Act.put, List.getElem_toArray, List.getElem_cons_succ, List.getElem_cons_zero, List.setIfInBounds_toArray, List.set_cons_zero, List.set_cons_succ]
  refine wpAnyH_take (i := 7) (v := .int .i64 0) rfl (by kernel_rfl) (by kernel_rfl) (by kernel_rfl) (fun _ _ _ h => h) (Or.inl ⟨by kernel_rfl, by (intro w hSw; (try dsimp only at hSw); go_simp)⟩) hHeld ?_
  simp only [Act.put, List.getElem_toArray, List.getElem_cons_succ, List.getElem_cons_zero, List.setIfInBounds_toArray, List.set_cons_zero, List.set_cons_succ]
  refine wpAnyH_take (i := 8) (v := .bool true) rfl (by kernel_rfl) (by kernel_rfl) (by kernel_rfl) (fun _ _ _ h => h) (Or.inl ⟨by kernel_rfl, by (intro w hSw; (try dsimp only at hSw); go_simp)⟩) hHeld ?_
  simp only [Act.put, List.getElem_toArray, List.getElem_cons_succ, List.getElem_cons_zero, List.setIfInBounds_toArray, List.set_cons_zero, List.set_cons_succ]
  refine wpAnyH_take (i := 9) (v := .bool true) rfl (by kernel_rfl) (by kernel_rfl) (by kernel_rfl) (fun _ _ _ h => h) (Or.inl ⟨by kernel_rfl, by (intro w hSw; (try dsimp only at hSw); go_simp)⟩) hHeld ?_
  simp only [Act.put, List.getElem_toArray, List.getElem_cons_succ, List.getElem_cons_zero, List.setIfInBounds_toArray, List.set_cons_zero, List.set_cons_succ]
  refine wpAnyH_take (i := 10) (v := .bool true) rfl (by kernel_rfl) (by kernel_rfl) (by kernel_rfl) (fun _ _ _ h => h) (Or.inl ⟨by kernel_rfl, by (intro w hSw; (try dsimp only at hSw); go_simp)⟩) hHeld ?_
  simp only [Act.put, List.getElem_toArray, List.getElem_cons_succ, List.getElem_cons_zero, List.setIfInBounds_toArray, List.set_cons_zero, List.set_cons_succ]
  refine wpAnyH_take (i := 11) (v := .int .i64 0) rfl (by kernel_rfl) (by kernel_rfl) (by kernel_rfl) (fun _ _ _ h => h) (Or.inl ⟨by kernel_rfl, by (intro w hSw; (try dsimp only at hSw); go_simp)⟩) hHeld ?_
  simp only [Act.put, List.getElem_toArray, List.getElem_cons_succ, List.getElem_cons_zero, List.setIfInBounds_toArray, List.set_cons_zero, List.set_cons_succ]
  refine wpAnyH_take (i := 12) (v := .bool true) rfl (by kernel_rfl) (by kernel_rfl) (by kernel_rfl) (fun _ _ _ h => h) (Or.inl ⟨by kernel_rfl, by (intro w hSw; (try dsimp only at hSw); go_simp)⟩) hHeld ?_
  simp only [Act.put, List.getElem_toArray, List.getElem_cons_succ, List.getElem_cons_zero, List.setIfInBounds_toArray, List.set_cons_zero, List.set_cons_succ]
  refine wpAnyH_take (i := 13) (v := .bool true) rfl (by kernel_rfl) (by kernel_rfl) (by kernel_rfl) (fun _ _ _ h => h) (Or.inl ⟨by kernel_rfl, by (intro w hSw; (try dsimp only at hSw); go_simp)⟩) hHeld ?_
  simp only [Act.put, List.getElem_toArray, List.getElem_cons_succ, List.getElem_cons_zero, List.setIfInBounds_toArray, List.set_cons_zero, List.set_cons_succ]
  refine wpAnyH_take (i := 14) (v := .bool true) rfl (by kernel_rfl) (by kernel_rfl) (by kernel_rfl) (fun _ _ _ h => h) (Or.inl ⟨by kernel_rfl, by (intro w hSw; (try dsimp only at hSw); go_simp)⟩) hHeld ?_
  simp only [Act.put, List.getElem_toArray, List.getElem_cons_succ, List.getElem_cons_zero, List.setIfInBounds_toArray, List.set_cons_zero, List.set_cons_succ]
  refine wpAnyH_take (i := 15) (v := .slice (some ⟨ga, 0, none⟩) N N) rfl (by kernel_rfl) (by kernel_rfl) (by kernel_rfl) (fun _ _ _ h => h) (Or.inl ⟨by kernel_rfl, by (intro w hSw; (try dsimp only at hSw); go_simp)⟩) hHeld ?_
  simp only [Act.put, List.getElem_toArray, List.getElem_cons_succ, List.getElem_cons_zero, List.setIfInBounds_toArray, List.set_cons_zero, List.set_cons_succ]
  refine wpAnyH_take (i := 16) (v := .int .i64 (N : Int)) rfl (by kernel_rfl) (by kernel_rfl) (by kernel_rfl) (fun _ _ _ h => h) (Or.inl ⟨by kernel_rfl, by (intro w hSw; (try dsimp only at hSw); go_simp)⟩) hHeld ?_
  simp only [Act.put, List.getElem_toArray, List.getElem_cons_succ, List.getElem_cons_zero, List.setIfInBounds_toArray, List.set_cons_zero, List.set_cons_succ]
  refine wpAnyH_take (i := 17) (v := .slice (some ad6) N c6) rfl (by kernel_rfl) (by kernel_rfl) (by kernel_rfl) (fun _ _ _ h => h) (Or.inl ⟨by kernel_rfl, by (intro w hSw; (try dsimp only at hSw); go_simp)⟩) hHeld ?_
  simp only [Act.put, List.getElem_toArray, List.getElem_cons_succ, List.getElem_cons_zero, List.setIfInBounds_toArray, List.set_cons_zero, List.set_cons_succ]
  refine wpAnyH_take (i := 18) (v := .int .i64 (N : Int)) rfl (by kernel_rfl) (by kernel_rfl) (by kernel_rfl) (fun _ _ _ h => h) (Or.inl ⟨by kernel_rfl, by (intro w hSw; (try dsimp only at hSw); go_simp)⟩) hHeld ?_
  simp only [Act.put, List.getElem_toArray, List.getElem_cons_succ, List.getElem_cons_zero, List.setIfInBounds_toArray, List.set_cons_zero, List.set_cons_succ]
  refine wpAnyH_take (i := 19) (v := .bool true) rfl (by kernel_rfl) (by kernel_rfl) (by kernel_rfl) (fun _ _ _ h => h) (Or.inl ⟨by kernel_rfl, by (intro w hSw; (try dsimp only at hSw); go_simp)⟩) hHeld ?_
  simp only [Act.put, List.getElem_toArray, List.getElem_cons_succ, List.getElem_cons_zero, List.setIfInBounds_toArray, List.set_cons_zero, List.set_cons_succ]
  refine wpAnyH_take (i := 20) (v := .bool true) rfl (by kernel_rfl) (by kernel_rfl) (by kernel_rfl) (fun _ _ _ h => h) (Or.inl ⟨by kernel_rfl, by (intro w hSw; (try dsimp only at hSw); go_simp)⟩) hHeld ?_
  simp only [Act.put, List.getElem_toArray, List.getElem_cons_succ, List.getElem_cons_zero, List.setIfInBounds_toArray, List.set_cons_zero, List.set_cons_succ]
  refine wpAnyH_take (i := 21) (v := .bool true) rfl (by kernel_rfl) (by kernel_rfl) (by kernel_rfl) (fun _ _ _ h => h) (Or.inl ⟨by kernel_rfl, by (intro w hSw; (try dsimp only at hSw); go_simp)⟩) hHeld ?_
  simp only [Act.put, List.getElem_toArray, List.getElem_cons_succ, List.getElem_cons_zero, List.setIfInBounds_toArray, List.set_cons_zero, List.set_cons_succ]
  refine wpAnyH_take (i := 22) (v := .slice (some ⟨ga, 0, none⟩) N N) rfl (by kernel_rfl) (by kernel_rfl) (by kernel_rfl) (fun _ _ _ h => h) (Or.inl ⟨by kernel_rfl, by (intro w hSw; (try dsimp only at hSw); go_simp)⟩) hHeld ?_
  simp only [Act.put, List.getElem_toArray, List.getElem_cons_succ, List.getElem_cons_zero, List.setIfInBounds_toArray, List.set_cons_zero, List.set_cons_succ]
  refine wpAnyH_take (i := 23) (v := .int .i64 (f : Int)) rfl (by kernel_rfl) (by kernel_rfl) (by kernel_rfl) (fun _ _ _ h => h) (Or.inl ⟨by kernel_rfl, by (intro w hSw; (try dsimp only at hSw); go_simp)⟩) hHeld ?_
  simp only [Act.put, List.getElem_toArray, List.getElem_cons_succ, List.getElem_cons_zero, List.setIfInBounds_toArray, List.set_cons_zero, List.set_cons_succ]
  refine wpAnyH_take (i := 24) (v := .int .i64 (t : Int)) rfl (by kernel_rfl) (by kernel_rfl) (by kernel_rfl) (fun _ _ _ h => h) (Or.inl ⟨by kernel_rfl, by (intro w hSw; (try dsimp only at hSw); go_simp)⟩) hHeld ?_
  simp only [Act.put, List.getElem_toArray, List.getElem_cons_succ, List.getElem_cons_zero, List.setIfInBounds_toArray, List.set_cons_zero, List.set_cons_succ]
  refine wpAnyH_take (i := 25) (v := .slice (some ⟨ga, f, none⟩) d (N - f)) rfl (by kernel_rfl) (by kernel_rfl) (by kernel_rfl) (fun _ _ _ h => h) (Or.inl ⟨by kernel_rfl, by (intro w hSw; (try dsimp only at hSw); go_simp)⟩) hHeld ?_
  simp only [Act.put, List.getElem_toArray, List.getElem_cons_succ, List.getElem_cons_zero, List.setIfInBounds_toArray, List.set_cons_zero, List.set_cons_succ]
  refine wpAnyH_take (i := 26) (v := .slice (some ⟨gb, 0, none⟩) d d) rfl (by kernel_rfl) (by kernel_rfl) (by kernel_rfl) (fun _ _ _ h => h) (Or.inl ⟨by kernel_rfl, by (intro w hSw; (try dsimp only at hSw); go_simp)⟩) hHeld ?_
  simp only [Act.put, List.getElem_toArray, List.getElem_cons_succ, List.getElem_cons_zero, List.setIfInBounds_toArray, List.set_cons_zero, List.set_cons_succ]
  refine wpAnyH_take (i := 27) (v := .int .i64 (t : Int)) rfl (by kernel_rfl) (by kernel_rfl) (by kernel_rfl) (fun _ _ _ h => h) (Or.inl ⟨by kernel_rfl, by (intro w hSw; (try dsimp only at hSw); go_simp)⟩) hHeld ?_
  simp only [Act.put, List.getElem_toArray, List.getElem_cons_succ, List.getElem_cons_zero, List.setIfInBounds_toArray, List.set_cons_zero, List.set_cons_succ]
  refine wpAnyH_take (i := 28) (v := .int .i64 (f : Int)) rfl (by kernel_rfl) (by kernel_rfl) (by kernel_rfl) (fun _ _ _ h => h) (Or.inl ⟨by kernel_rfl, by (intro w hSw; (try dsimp only at hSw); go_simp)⟩) hHeld ?_
  simp only [Act.put, List.getElem_toArray, List.getElem_cons_succ, List.getElem_cons_zero, List.setIfInBounds_toArray, List.set_cons_zero, List.set_cons_succ]
  refine wpAnyH_take (i := 29) (v := .int .i64 (d : Int)) rfl (by kernel_rfl) (by kernel_rfl) (by kernel_rfl) (fun _ _ _ h => h) (Or.inl ⟨by kernel_rfl, by (intro w hSw; (try dsimp only at hSw); go_simp)⟩) hHeld ?_
  simp only [Act.put, List.getElem_toArray, List.getElem_cons_succ, List.getElem_cons_zero, List.setIfInBounds_toArray, List.set_cons_zero, List.set_cons_succ]
  refine wpAnyH_take (i := 30) (v := .slice (some ⟨gb, 0, none⟩) d d) rfl (by kernel_rfl) (by kernel_rfl) (by kernel_rfl) (fun _ _ _ h => h) (Or.inl ⟨by kernel_rfl, by (intro w hSw; (try dsimp only at hSw); go_simp)⟩) hHeld ?_
  simp only [Act.put, List.getElem_toArray, List.getElem_cons_succ, List.getElem_cons_zero, List.setIfInBounds_toArray, List.set_cons_zero, List.set_cons_succ]
  refine wpAnyH_take (i := 31) (v := .int .i64 (d : Int)) rfl (by kernel_rfl) (by kernel_rfl) (by kernel_rfl) (fun _ _ _ h => h) (Or.inl ⟨by kernel_rfl, by (intro w hSw; (try dsimp only at hSw); go_simp)⟩) hHeld ?_
  simp only [Act.put, List.getElem_toArray, List.getElem_cons_succ, List.getElem_cons_zero, List.setIfInBounds_toArray, List.set_cons_zero, List.set_cons_succ]
  refine wpAnyH_take (i := 32) (v := .int .i64 (d : Int)) rfl (by kernel_rfl) (by kernel_rfl) (by kernel_rfl) (fun _ _ _ h => h) (Or.inl ⟨by kernel_rfl, by (intro w hSw; (try dsimp only at hSw); go_simp)⟩) hHeld ?_
  simp only [Act.put, List.getElem_toArray, List.getElem_cons_succ, List.getElem_cons_zero, List.setIfInBounds_toArray, List.set_cons_zero, List.set_cons_succ]
  refine wpAnyH_take (i := 33) (v := .slice (some ⟨gb, 0, none⟩) d d) rfl (by kernel_rfl) (by kernel_rfl) (by kernel_rfl) (fun _ _ _ h => h) (Or.inl ⟨by kernel_rfl, by (intro w hSw; (try dsimp only at hSw); go_simp)⟩) hHeld ?_
  simp only [Act.put, List.getElem_toArray, List.getElem_cons_succ, List.getElem_cons_zero, List.setIfInBounds_toArray, List.set_cons_zero, List.set_cons_succ]
  refine wpAnyH_ready (rs := [34]) (by kernel_rfl) (by simp) ?_
  refine AllReadyH.cons rfl (fun K hK => ?_) AllReadyH.nil
  go_simp
  refine (Same_any _ _ _ _ _ _ _ _ _ (hSa9.drewN 1) (hSb.drewN 1)).mono ?_
  rintro e w13 ⟨k13, rfl, hw13⟩
  rw [sameB_yes rfl]
  have hb13 : Below w12.heap.size w12 w13 := by rw [hw13]; exact bel_drewN (bel_drewN (Below.refl _ _) 1) k13
  clear hw13
  have hb013 := hb012.trans (hb13.mono hb012.size)
  go_wp2_with fail
  refine hK.out _ _ trivial (fun hHeld => ?_)
  clear hK K
  try simp only [Act.put, List.getElem_toArray, List.getElem_cons_succ, List.getElem_cons_zero, List.setIfInBounds_toArray, List.set_cons_zero, List.set_cons_succ]
  refine wpAnyH_take (i := 35) (v := .bool true) rfl (by kernel_rfl) (by kernel_rfl) (by kernel_rfl) (fun _ _ _ h => h) (Or.inl ⟨by kernel_rfl, by (intro w hSw; (try dsimp only at hSw); go_simp)⟩) hHeld ?_
  simp only [Act.put, List.getElem_toArray, List.getElem_cons_succ, List.getElem_cons_zero, List.setIfInBounds_toArray, List.set_cons_zero, List.set_cons_succ]
  refine wpAnyH_take (i := 36) (v := .bool true) rfl (by kernel_rfl) (by kernel_rfl) (by kernel_rfl) (fun _ _ _ h => h) (Or.inl ⟨by kernel_rfl, by (intro w hSw; (try dsimp only at hSw); go_simp)⟩) hHeld ?_
  simp only [Act.put, List.getElem_toArray, List.getElem_cons_succ, List.getElem_cons_zero, List.setIfInBounds_toArray, List.set_cons_zero, List.set_cons_succ]
  refine wpAnyH_take (i := 37) (v := .slice (some ⟨gb, 0, none⟩) d d) rfl (by kernel_rfl) (by kernel_rfl) (by kernel_rfl) (fun _ _ _ h => h) (Or.inl ⟨by kernel_rfl, by (intro w hSw; (try dsimp only at hSw); go_simp)⟩) hHeld ?_
  simp only [Act.put, List.getElem_toArray, List.getElem_cons_succ, List.getElem_cons_zero, List.setIfInBounds_toArray, List.set_cons_zero, List.set_cons_succ]
  refine wpAnyH_take (i := 38) (v := .int .i64 (d : Int)) rfl (by kernel_rfl) (by kernel_rfl) (by kernel_rfl) (fun _ _ _ h => h) (Or.inl ⟨by kernel_rfl, by (intro w hSw; (try dsimp only at hSw); go_simp)⟩) hHeld ?_
  simp only [Act.put, List.getElem_toArray, List.getElem_cons_succ, List.getElem_cons_zero, List.setIfInBounds_toArray, List.set_cons_zero, List.set_cons_succ]
  refine wpAnyH_take (i := 39) (v := .int .i64 (t : Int)) rfl (by kernel_rfl) (by kernel_rfl) (by kernel_rfl) (fun _ _ _ h => h) (Or.inl ⟨by kernel_rfl, by (intro w hSw; (try dsimp only at hSw); go_simp)⟩) hHeld ?_
  simp only [Act.put, List.getElem_toArray, List.getElem_cons_succ, List.getElem_cons_zero, List.setIfInBounds_toArray, List.set_cons_zero, List.set_cons_succ]
  refine wpAnyH_take (i := 40) (v := .int .i64 (f : Int)) rfl (by kernel_rfl) (by kernel_rfl) (by kernel_rfl) (fun _ _ _ h => h) (Or.inl ⟨by kernel_rfl, by (intro w hSw; (try dsimp only at hSw); go_simp)⟩) hHeld ?_
  simp only [Act.put, List.getElem_toArray, List.getElem_cons_succ, List.getElem_cons_zero, List.setIfInBounds_toArray, List.set_cons_zero, List.set_cons_succ]
  refine wpAnyH_take (i := 41) (v := .int .i64 (d : Int)) rfl (by kernel_rfl) (by kernel_rfl) (by kernel_rfl) (fun _ _ _ h => h) (Or.inl ⟨by kernel_rfl, by (intro w hSw; (try dsimp only at hSw); go_simp)⟩) hHeld ?_
  simp only [Act.put, List.getElem_toArray, List.getElem_cons_succ, List.getElem_cons_zero, List.setIfInBounds_toArray, List.set_cons_zero, List.set_cons_succ]
  refine wpAnyH_take (i := 42) (v := .bool true) rfl (by kernel_rfl) (by kernel_rfl) (by kernel_rfl) (fun _ _ _ h => h) (Or.inl ⟨by kernel_rfl, by (intro w hSw; (try dsimp only at hSw); go_simp)⟩) hHeld ?_
  simp only [Act.put, List.getElem_toArray, List.getElem_cons_succ, List.getElem_cons_zero, List.setIfInBounds_toArray, List.set_cons_zero, List.set_cons_succ]
  refine wpAnyH_take (i := 43) (v := .bool true) rfl (by kernel_rfl) (by kernel_rfl) (by kernel_rfl) (fun _ _ _ h => h) (Or.inl ⟨by kernel_rfl, by (intro w hSw; (try dsimp only at hSw); go_simp)⟩) hHeld ?_
  simp only [Act.put, List.getElem_toArray, List.getElem_cons_succ, List.getElem_cons_zero, List.setIfInBounds_toArray, List.set_cons_zero, List.set_cons_succ]
  refine wpAnyH_take (i := 44) (v := .bool true) rfl (by kernel_rfl) (by kernel_rfl) (by kernel_rfl) (fun _ _ _ h => h) (Or.inl ⟨by kernel_rfl, by (intro w hSw; (try dsimp only at hSw); go_simp)⟩) hHeld ?_
  simp only [Act.put, List.getElem_toArray, List.getElem_cons_succ, List.getElem_cons_zero, List.setIfInBounds_toArray, List.set_cons_zero, List.set_cons_succ]
  refine wpAnyH_ready (rs := [45]) (by kernel_rfl) (by simp) ?_
  refine AllReadyH.cons rfl (fun K hK => ?_) AllReadyH.nil
  go_simp
  refine (kfin.out _).mono ?_
  rintro e w99 ⟨rfl, hb99⟩
  have hbz := hb013.trans (hb99.mono hb013.size)
  go_wp2_with fail
  refine hK.out _ _ trivial (fun hHeld => ?_)
  clear hK K
  try simp only [Act.put, List.getElem_toArray, List.getElem_cons_succ, List.getElem_cons_zero, List.setIfInBounds_toArray, List.set_cons_zero, List.set_cons_succ]
  refine wpAnyH_take (i := 46) (v := .bool true) rfl (by kernel_rfl) (by kernel_rfl) (by kernel_rfl) (fun _ _ _ h => h) (Or.inl ⟨by kernel_rfl, by (intro w hSw; (try dsimp only at hSw); go_simp)⟩) hHeld ?_
  simp only [Act.put, List.getElem_toArray, List.getElem_cons_succ, List.getElem_cons_zero, List.setIfInBounds_toArray, List.set_cons_zero, List.set_cons_succ]
  refine wpAnyH_take (i := 47) (v := .bool true) rfl (by kernel_rfl) (by kernel_rfl) (by kernel_rfl) (fun _ _ _ h => h) (Or.inl ⟨by kernel_rfl, by (intro w hSw; (try dsimp only at hSw); go_simp)⟩) hHeld ?_
  simp only [Act.put, List.getElem_toArray, List.getElem_cons_succ, List.getElem_cons_zero, List.setIfInBounds_toArray, List.set_cons_zero, List.set_cons_succ]
  refine wpAnyH_done (by kernel_rfl) ?_ _
  go_wp2
  go_ret
  exact ⟨rfl, hbz⟩
end Go.Proofs.YtoljffghaklpdaaGreatDoor
