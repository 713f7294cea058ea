/- Lists of numbers, folded. -/
import Derived.Test.YtbgihlfblmilmaaGreatDoorGJ
namespace Go.Proofs.YtbgihlfblmilmaaGreatDoor.Fr
open Go.RowKit Num

/-- the values read as these numbers, each of at most L digits -/
def NVs (w : World) (L : Nat) (vals : List Value) (xs : List Nat) : Prop := vals.length = xs.length ∧ ∀ (j : Nat) (v : Value) (x : Nat), vals[j]? = some v → xs[j]? = some x → NV .u64 w v x L
theorem NVs.nil (w : World) (L : Nat) : NVs w L [] [] := ⟨rfl, fun j v x h => by simp at h⟩
theorem NVs.below {w w' : World} {L : Nat} {vals : List Value} {xs : List Nat} (h : NVs w L vals xs) (hb : Below w.heap.size w w') : NVs w' L vals xs := ⟨h.1, fun j v x h1 h2 => (h.2 j v x h1 h2).below hb⟩
theorem NVs.snoc {w : World} {L : Nat} {vals : List Value} {xs : List Nat} {v : Value} {x : Nat} (h : NVs w L vals xs) (hv : NV .u64 w v x L) : NVs w L (vals ++ [v]) (xs ++ [x]) :=
  ⟨by simp [h.1], fun j u y h1 h2 => by
    rcases Nat.lt_or_ge j vals.length with hj | hj
    · rw [List.getElem?_append_left hj] at h1
      rw [List.getElem?_append_left (by rw [← h.1]; exact hj)] at h2
      exact h.2 j u y h1 h2
    · rw [List.getElem?_append_right hj] at h1
      rw [List.getElem?_append_right (by rw [← h.1]; exact hj)] at h2
      have hj0 : j - vals.length = 0 := by
        rcases Nat.eq_zero_or_pos (j - vals.length) with h0 | h0
        · exact h0
        · rw [List.getElem?_eq_none (by simp; omega)] at h1; cases h1
      rw [hj0] at h1
      rw [show j - xs.length = 0 by rw [← h.1]; exact hj0] at h2
      simp at h1 h2
      subst h1 h2
      exact hv⟩
/-- a slice of numbers -/
structure Ns (w : World) (A : Option Addr) (n c L : Nat) (xs : List Nat) : Prop where
  len : xs.length = n
  cap : n ≤ c
  top : c ≤ 9223372036854775807
  cell : 0 < n → ∃ ad, A = some ad ∧ ∀ (j x : Nat), xs[j]? = some x → ∃ v, w.cell? (ad.add j) = some v ∧ NV .u64 w v x L
theorem Ns.at_ {w : World} {A : Option Addr} {n c L : Nat} {xs : List Nat} (h : Ns w A n c L xs) {j : Nat} (hj : j < n) : ∃ ad B m d us, A = some ad ∧ w.cell? (ad.add j) = some (.slice B m d) ∧ Dg .u64 w B m d us ∧ Nrm us ∧ m ≤ L ∧ Hid (vl (bs .u64) us = xs.getD j 0) := by
  obtain ⟨ad, e, hc⟩ := h.cell (by omega)
  have hl : j < xs.length := by rw [h.len]; exact hj
  obtain ⟨v, h1, ⟨B, m, d, us, rfl, h2, h3, h4, h5⟩⟩ := hc j _ (List.getElem?_eq_getElem hl)
  exact ⟨ad, B, m, d, us, e, h1, h2, h3, h5, by show _ = _; rw [h4.out, Num.getD_in hl]⟩
theorem Ns.below {w w' : World} {A : Option Addr} {n c L : Nat} {xs : List Nat} (h : Ns w A n c L xs) (hb : Below w.heap.size w w') : Ns w' A n c L xs :=
  ⟨h.len, h.cap, h.top, fun hn => by
    obtain ⟨ad, e, hc⟩ := h.cell hn
    refine ⟨ad, e, fun j x hx => ?_⟩
    obtain ⟨v, h1, h2⟩ := hc j x hx
    exact ⟨v, (hb.cell (World.block_lt_of_cell? _ _ h1)).trans h1, h2.below hb⟩⟩
theorem Ns.of_own {w : World} {base n L : Nat} {v : Value} {vals : List Value} {xs : List Nat} {t : TypeId} (h : w.ownsRow base t 1 v n vals) (hN : NVs w L vals xs) : ∃ A c, v = .slice A n c ∧ Ns w A n c L xs := by
  obtain ⟨hl, h2⟩ := h
  rw [Nat.mul_one] at hl
  have hx : xs.length = n := by rw [← hN.1, hl]
  rcases h2 with ⟨rfl, rfl⟩ | ⟨g, cap, cur, rfl, hb, hg, hc1, hc2, hs, ht⟩
  · exact ⟨_, _, rfl, ⟨hx, Nat.le_refl _, by decide, fun h => by omega⟩⟩
  · refine ⟨_, _, rfl, ⟨hx, hc1, hc2, fun _ => ⟨_, rfl, fun j x hj => ?_⟩⟩⟩
    have hjl : j < vals.length := by
      rw [hN.1]
      rcases Nat.lt_or_ge j xs.length with h | h
      · exact h
      · rw [List.getElem?_eq_none h] at hj; cases hj
    refine ⟨vals[j], ?_, hN.2 j _ x (List.getElem?_eq_getElem hjl) hj⟩
    have hadd : (⟨g, 0, none⟩ : Addr).add j = ⟨g, j, none⟩ := by unfold Addr.add; split <;> simp_all
    rw [hadd, cell_of_row w g j cur _ (0, 0) hg, ← Array.getElem?_toList]
    have h3 : (cur.toList.take (n * 1))[j]? = vals[j]? := by rw [ht]
    rw [List.getElem?_take, if_pos (by omega)] at h3
    rw [h3, List.getElem?_eq_getElem hjl]
theorem Ns.of_blk {w : World} {g L : Nat} {t : TypeId} {vals : List Value} {xs : List Nat} (h : Blk w g t vals.toArray) (hN : NVs w L vals xs) (hn : vals.length ≤ 9223372036854775807) : Ns w (some ⟨g, 0, none⟩) vals.length vals.length L xs :=
  ⟨hN.1.symm, Nat.le_refl _, hn, fun _ => ⟨_, rfl, fun j x hj => by
    have hjl : j < vals.length := by
      rw [hN.1]
      rcases Nat.lt_or_ge j xs.length with h | h
      · exact h
      · rw [List.getElem?_eq_none h] at hj; cases hj
    refine ⟨vals[j], ?_, hN.2 j _ x (List.getElem?_eq_getElem hjl) hj⟩
    have hadd : (⟨g, 0, none⟩ : Addr).add j = ⟨g, j, none⟩ := by unfold Addr.add; split <;> simp_all
    rw [hadd, h.cell j]
    simp [hjl]⟩⟩

set_option maxHeartbeats 1600000 in
/-- the least common multiple of two numbers that are not 0 -/
theorem lcm_any (A A' : Option Addr) (n c n' c' : Nat) (xs ys : List Nat) (w : World) (h : Dg .u64 w A n c xs) (h' : Dg .u64 w A' n' c' ys) (hN : Nrm xs) (hN' : Nrm ys) (X Y : Nat) (hX : Hid (vl (bs .u64) xs = X)) (hY : Hid (vl (bs .u64) ys = Y))
    (hn : n ≤ 200000) (hn' : n' ≤ 200000) (hX0 : 0 < X) (hY0 : 0 < Y) :
    Calls Tryz.prog 128 #[.slice A n c, .slice A' n' c'] w (RetN .u64 w (X.lcm Y) (n + n' + 1)) := by
  have HX0 := Lib.hid hX0
  have HY0 := Lib.hid hY0
  clear hX0 hY0
  by_cases h1 : X = 1
  · have hG := Lib.hid (show vl (bs .u64) ys = X.lcm Y by rw [hY.out, h1, Nat.lcm_one_left])
    go_enter Tryz.func128, Tryz.ntmps128
    go_wp2_with fail
    refine (isOne_any _ _ _ _ _ h hN _ hX true (decide_eq_true h1)).mono ?_
    rintro e w' ⟨rfl, rfl⟩
    clear h1
    go_wp2
    go_ret
    exact ⟨_, _, _, _, rfl, h', hN', hG, by omega, Below.refl _ _⟩
  · by_cases h2 : X = Y
    · have hG := Lib.hid (show vl (bs .u64) ys = X.lcm Y by rw [hY.out, ← h2, Nat.lcm_self])
      have ho := ord_eq h2
      go_enter Tryz.func128, Tryz.ntmps128
      go_wp2_with fail
      refine (isOne_any _ _ _ _ _ h hN _ hX false (decide_eq_false h1)).mono ?_
      rintro e w' ⟨rfl, rfl⟩
      clear h1
      go_wp2_with fail
      refine (cmp64_any _ _ _ _ _ _ _ _ _ h h' hN hN' X Y hX hY).mono ?_
      rintro e w2 ⟨m, rfl, rfl⟩
      rw [ho]
      clear h2 ho
      go_wp2
      go_ret
      exact ⟨_, _, _, _, rfl, h'.drewN m, hN', hG, by omega, bel_drewN (Below.refl _ _) m⟩
    · have hne : ((ord X Y : Int) == 0) = false := by
        rw [beq_eq_false_iff_ne]
        unfold ord
        split
        · omega
        · first | omega | (rw [if_neg h2]; omega)
      have hG := Lib.hid (show X / X.gcd Y * Y = X.lcm Y by
        unfold Nat.lcm
        rw [Nat.mul_comm (X / X.gcd Y), ← Nat.mul_div_assoc _ (Nat.gcd_dvd_left X Y), Nat.mul_comm])
      have hg0 := Lib.hid (show 0 < X.gcd Y from Nat.gcd_pos_of_pos_left _ HX0.out)
      go_enter Tryz.func128, Tryz.ntmps128
      go_wp2_with fail
      refine (isOne_any _ _ _ _ _ h hN _ hX false (decide_eq_false h1)).mono ?_
      rintro e w' ⟨rfl, rfl⟩
      clear h1 h2
      go_wp2_with fail
      refine (cmp64_any _ _ _ _ _ _ _ _ _ h h' hN hN' X Y hX hY).mono ?_
      rintro e w2 ⟨m, rfl, rfl⟩
      have hb0 := bel_drewN (Below.refl w.heap.size w) m
      generalize ord X Y = od at *
      go_wp2_with fail
      refine (gcd64_any _ _ _ _ _ _ _ _ _ (h.drewN m) (h'.drewN m) hN hN' X Y hX hY (by omega) (by omega)).mono ?_
      rintro e w3 ⟨A3, m3, c3, us3, rfl, hD3, hN3, hv3, hm3, hb3⟩
      have hb3' := hb0.trans (hb3.mono hb0.size)
      go_wp2_with fail
      refine (divide64_any _ _ _ _ _ _ _ _ _ ((h.drewN m).below hb3) hD3 hN hN3 X _ hX hv3 (by omega) hg0.out).mono ?_
      rintro e w4 ⟨_, _, rfl, ⟨A4, m4, c4, us4, rfl, hD4, hN4, hv4, hm4⟩, ⟨A5, m5, c5, us5, rfl, _, _, _, _⟩, hb4, hf4⟩
      have hb4' := hb3'.trans (hb4.mono hb3'.size)
      go_wp2_with fail
      refine (mul64_any _ _ _ _ _ _ _ _ w4 hD4 (((h'.drewN m).below hb3).below hb4) (by omega) (by omega)).mono ?_
      rintro e w5 ⟨A6, m6, c6, us6, rfl, hD6, hN6, hv6, hm6, hb6, _⟩
      go_wp2
      go_ret
      exact ⟨_, _, _, _, rfl, hD6, hN6, (by show _ = _; rw [hv6.out, hv4.out, hY.out, hG.out]), by omega, hb4'.trans (hb6.mono hb4'.size)⟩

set_option maxHeartbeats 1600000 in
theorem fold_lcm (A0 : Option Addr) (n0 c0 : Nat) (us0 : List Nat) (A : Option Addr) (n c L : Nat) (xs : List Nat) (w : World) (h0 : Dg .u64 w A0 n0 c0 us0) (hN0 : Nrm us0) (S : Nat) (hS : Hid (vl (bs .u64) us0 = S)) (h : Ns w A n c L xs) (hp0 : 0 < S) (hpos : ∀ x ∈ xs, 0 < x) (hL : L ≤ 200000) (hbb : n0 + n * (L + 1) ≤ 200000) :
    Calls Tryz.prog 127 #[.func (.func 128) #[] #[], .slice A0 n0 c0, .slice A n c] w (RetN .u64 w (xs.foldl (fun a b => a.lcm b) S) (n0 + n * (L + 1))) := by
  have hc1 := h.cap
  have hc2 := h.top
  have hlen := Lib.hid h.len
  have hpos := Lib.hid hpos
  have hbd := Lib.hid (fun (k : Nat) (hk : k < n) => show n0 + k * (L + 1) ≤ 200000 from by have := Nat.mul_le_mul_right (L + 1) (Nat.le_of_lt hk); omega)
  go_enter Tryz.func127, Tryz.ntmps127
  go_wp2
  go_loopw [1, 11] (fun sv iv wr => ∃ (k : Nat) (B : Option Addr) (m d : Nat) (us : List Nat), iv = .int .i64 k ∧ k ≤ n ∧ sv = .slice B m d ∧ Dg .u64 wr B m d us ∧ Nrm us ∧ Hid (vl (bs .u64) us = (xs.take k).foldl (fun a b => a.lcm b) S) ∧ Hid (0 < (xs.take k).foldl (fun a b => a.lcm b) S ∧ m ≤ n0 + k * (L + 1)) ∧ Below w.heap.size w wr) (fun _ iv _ => n - (intOf iv).toNat)
  case atStart => exact ⟨0, _, _, _, _, rfl, Nat.zero_le _, rfl, h0, hN0, hS, ⟨hp0, by omega⟩, Below.refl _ _⟩
  case round =>
    obtain ⟨k, B, m, d, us, rfl, hkn, rfl, hD, hNu, hv, hi, hb⟩ := hrel
    by_cases hlt : k < n
    · obtain ⟨ad, B2, m2, d2, us2, rfl, hcx, hD2, hN2, hm2, hv2⟩ := (h.below hb).at_ hlt
      have hT := Lib.hid (show (xs.take (k + 1)).foldl (fun a b => a.lcm b) S = (fun a b => a.lcm b) ((xs.take k).foldl (fun a b => a.lcm b) S) (xs.getD k 0) by
        rw [List.take_succ_eq_append_getElem (by rw [hlen.out]; exact hlt), List.foldl_append, Num.getD_in (by rw [hlen.out]; exact hlt)]; rfl)
      have hp2 := Lib.hid (show 0 < xs.getD k 0 by rw [Num.getD_in (by rw [hlen.out]; exact hlt)]; exact hpos.out _ (List.getElem_mem _))
      go_wp2_with fail
      refine (lcm_any _ _ _ _ _ _ _ _ _ hD hD2 hNu hN2 _ _ hv hv2 (by have := hi.out; have := hbd.out k hlt; omega) (by omega) hi.out.1 hp2.out).mono ?_
      rintro e w2 ⟨B3, m3, d3, us3, rfl, hD3, hN3, hv3, hm3, hb3⟩
      have hb3' := hb.trans (hb3.mono hb.size)
      go_wp2
      go_roundw
      case rel => exact ⟨k + 1, B3, m3, d3, us3, by go_num, hlt, rfl, hD3, hN3, (by show _ = _; rw [hv3.out, hT.out]), ⟨by rw [hT.out]; exact Nat.lcm_pos hi.out.1 hp2.out, by have := hi.out.2; rw [Nat.succ_mul]; omega⟩, hb3'⟩
      case measure => simp [intOf]; omega
    · obtain rfl : k = n := by omega
      have hv' := hv.out
      rw [List.take_of_length_le (by rw [hlen.out]; exact Nat.le_refl _)] at hv'
      have Hv := Lib.hid hv'
      clear hv'
      go_wp2
      go_ret
      exact ⟨_, _, _, _, rfl, hD, hNu, Hv.out, (by have := hi.out; omega), hb⟩

set_option maxHeartbeats 1600000 in
theorem fold_add (A0 : Option Addr) (n0 c0 : Nat) (us0 : List Nat) (A : Option Addr) (n c L : Nat) (xs : List Nat) (w : World) (h0 : Dg .u64 w A0 n0 c0 us0) (hN0 : Nrm us0) (S : Nat) (hS : Hid (vl (bs .u64) us0 = S)) (h : Ns w A n c L xs) (h00 : n0 ≤ L) (hbb : L + n ≤ 200000) :
    Calls Tryz.prog 127 #[.func (.func 114) #[] #[], .slice A0 n0 c0, .slice A n c] w (RetN .u64 w (xs.foldl (fun a b => a + b) S) (L + n)) := by
  have hc1 := h.cap
  have hc2 := h.top
  have hlen := Lib.hid h.len
  go_enter Tryz.func127, Tryz.ntmps127
  go_wp2
  go_loopw [1, 11] (fun sv iv wr => ∃ (k : Nat) (B : Option Addr) (m d : Nat) (us : List Nat), iv = .int .i64 k ∧ k ≤ n ∧ sv = .slice B m d ∧ Dg .u64 wr B m d us ∧ Nrm us ∧ Hid (vl (bs .u64) us = (xs.take k).foldl (fun a b => a + b) S) ∧ Hid (m ≤ L + k) ∧ Below w.heap.size w wr) (fun _ iv _ => n - (intOf iv).toNat)
  case atStart => exact ⟨0, _, _, _, _, rfl, Nat.zero_le _, rfl, h0, hN0, hS, by show _ ≤ _; omega, Below.refl _ _⟩
  case round =>
    obtain ⟨k, B, m, d, us, rfl, hkn, rfl, hD, hNu, hv, hi, hb⟩ := hrel
    by_cases hlt : k < n
    · obtain ⟨ad, B2, m2, d2, us2, rfl, hcx, hD2, hN2, hm2, hv2⟩ := (h.below hb).at_ hlt
      have hT := Lib.hid (show (xs.take (k + 1)).foldl (fun a b => a + b) S = (fun a b => a + b) ((xs.take k).foldl (fun a b => a + b) S) (xs.getD k 0) by
        rw [List.take_succ_eq_append_getElem (by rw [hlen.out]; exact hlt), List.foldl_append, Num.getD_in (by rw [hlen.out]; exact hlt)]; rfl)
      go_wp2_with fail
      refine (add_any _ _ _ _ _ _ _ _ _ hD hD2 (by have := hi.out; omega) (by omega)).mono ?_
      rintro e w2 ⟨B3, m3, d3, us3, rfl, hD3, hN3, hv3, hm3, hb3, _⟩
      have hb3' := hb.trans (hb3.mono hb.size)
      go_wp2
      go_roundw
      case rel => exact ⟨k + 1, B3, m3, d3, us3, by go_num, hlt, rfl, hD3, hN3, (by show _ = _; rw [hv3.out, hv.out, hv2.out, hT.out]), (by show _ ≤ _; have := hi.out; omega), hb3'⟩
      case measure => simp [intOf]; omega
    · obtain rfl : k = n := by omega
      have hv' := hv.out
      rw [List.take_of_length_le (by rw [hlen.out]; exact Nat.le_refl _)] at hv'
      have Hv := Lib.hid hv'
      clear hv'
      go_wp2
      go_ret
      exact ⟨_, _, _, _, rfl, hD, hNu, Hv.out, (by have := hi.out; omega), hb⟩

set_option maxHeartbeats 1600000 in
theorem fold_mul (A0 : Option Addr) (n0 c0 : Nat) (us0 : List Nat) (A : Option Addr) (n c L : Nat) (xs : List Nat) (w : World) (h0 : Dg .u64 w A0 n0 c0 us0) (hN0 : Nrm us0) (S : Nat) (hS : Hid (vl (bs .u64) us0 = S)) (h : Ns w A n c L xs) (hL : L ≤ 200000) (hbb : n0 + n * L ≤ 200000) :
    Calls Tryz.prog 127 #[.func (.func 112) #[] #[], .slice A0 n0 c0, .slice A n c] w (RetN .u64 w (xs.foldl (fun a b => a * b) S) (n0 + n * L)) := by
  have hc1 := h.cap
  have hc2 := h.top
  have hlen := Lib.hid h.len
  have hbd := Lib.hid (fun (k : Nat) (hk : k < n) => show n0 + k * L ≤ 200000 from by have := Nat.mul_le_mul_right L (Nat.le_of_lt hk); omega)
  go_enter Tryz.func127, Tryz.ntmps127
  go_wp2
  go_loopw [1, 11] (fun sv iv wr => ∃ (k : Nat) (B : Option Addr) (m d : Nat) (us : List Nat), iv = .int .i64 k ∧ k ≤ n ∧ sv = .slice B m d ∧ Dg .u64 wr B m d us ∧ Nrm us ∧ Hid (vl (bs .u64) us = (xs.take k).foldl (fun a b => a * b) S) ∧ Hid (m ≤ n0 + k * L) ∧ Below w.heap.size w wr) (fun _ iv _ => n - (intOf iv).toNat)
  case atStart => exact ⟨0, _, _, _, _, rfl, Nat.zero_le _, rfl, h0, hN0, hS, by show _ ≤ _; omega, Below.refl _ _⟩
  case round =>
    obtain ⟨k, B, m, d, us, rfl, hkn, rfl, hD, hNu, hv, hi, hb⟩ := hrel
    by_cases hlt : k < n
    · obtain ⟨ad, B2, m2, d2, us2, rfl, hcx, hD2, hN2, hm2, hv2⟩ := (h.below hb).at_ hlt
      have hT := Lib.hid (show (xs.take (k + 1)).foldl (fun a b => a * b) S = (fun a b => a * b) ((xs.take k).foldl (fun a b => a * b) S) (xs.getD k 0) by
        rw [List.take_succ_eq_append_getElem (by rw [hlen.out]; exact hlt), List.foldl_append, Num.getD_in (by rw [hlen.out]; exact hlt)]; rfl)
      go_wp2_with fail
      refine (mul64_any _ _ _ _ _ _ _ _ _ hD hD2 (by have := hi.out; have := hbd.out k hlt; omega) (by omega)).mono ?_
      rintro e w2 ⟨B3, m3, d3, us3, rfl, hD3, hN3, hv3, hm3, hb3, _⟩
      have hb3' := hb.trans (hb3.mono hb.size)
      go_wp2
      go_roundw
      case rel => exact ⟨k + 1, B3, m3, d3, us3, by go_num, hlt, rfl, hD3, hN3, (by show _ = _; rw [hv3.out, hv.out, hv2.out, hT.out]), (by show _ ≤ _; have := hi.out; rw [Nat.succ_mul]; omega), hb3'⟩
      case measure => simp [intOf]; omega
    · obtain rfl : k = n := by omega
      have hv' := hv.out
      rw [List.take_of_length_le (by rw [hlen.out]; exact Nat.le_refl _)] at hv'
      have Hv := Lib.hid hv'
      clear hv'
      go_wp2
      go_ret
      exact ⟨_, _, _, _, rfl, hD, hNu, Hv.out, (by have := hi.out; omega), hb⟩
end Go.Proofs.YtbgihlfblmilmaaGreatDoor.Fr

/- Appending one value to a row of the call's own: where the result lies. -/
namespace Go.Proofs.YtbgihlfblmilmaaGreatDoor.Fr
open Go.RowKit Num

theorem append_block {P : Program} (w : World) (base : Nat) (t ty e : TypeId) (i : TypeInfo) (z : Value) (bytes : Nat) (ht : P.underlying t = some (.slice e)) (hi : P.info? e = some i) (hz : i.zero = some z)
    (hsize : i.size = 1) (hby : i.bytes = bytes) (v : Value) (n : Nat) (xs : List Value) (hown : w.ownsRow base e 1 v n xs)
    (a : Addr) (c : Nat) (news : List Value) (hl : news.length = 1) (hnews : ∀ j u, news[j]? = some u → w.cell? (a.add j) = some u) (h1 : ∀ u ∈ news, u.oneCell' = true)
    (h63 : n + 1 ≤ maxLen) (hbytes : (n + 1) * bytes ≤ 140737488355328) (v' : Value) (w' : World) (hr : (Builtin.append_ #[t, t] ty #[v, .slice (some a) 1 c]).run P w = .ok v' w') :
    v'.ownBlock = v.ownBlock ∨ v'.ownBlock = some w.heap.size := by
  have hsmall : n + 1 ≤ 9223372036854775807 := by simp only [maxLen] at h63; omega
  have hl' : news.length = 1 * i.size := by rw [hl, hsize]
  rcases hown.2 with ⟨rfl, rfl⟩ | ⟨g, cap, cur, rfl, hbg, hg, hnc, hcm, hcs, htake⟩
  · have h2 := run_append_nil (P := P) w t ty e i z ht hi hz a 1 c news hl' hnews (by omega) (by omega) (by rw [hby]; have hb := hbytes; simp only [Nat.zero_add] at hb; omega)
    rw [h2] at hr
    injection hr with hr _
    subst hr
    exact .inr rfl
  · by_cases hroom : n + 1 ≤ cap
    · have h2 := run_append_room (P := P) w t ty e i ht hi g n cap cur hg a 1 c news hl' hnews h1 hroom (by rw [hsize, hl, hcs]; omega)
      rw [h2] at hr
      injection hr with hr _
      subst hr
      exact .inl rfl
    · have holds : ∀ j u, xs[j]? = some u → w.cell? ((⟨g, 0, none⟩ : Addr).add j) = some u := hown.cells (g := g) rfl
      have h2 := run_append_grow (P := P) w t ty e i z ht hi hz ⟨g, 0, none⟩ n cap xs (by rw [hsize]; exact hown.1) holds a 1 c news hl' hnews (by omega) (by omega) (by rw [hby]; exact growslice_fits (by omega) hbytes)
      rw [h2] at hr
      injection hr with hr _
      subst hr
      exact .inr rfl

theorem wpList_append_two {P : Program} {w : World} {ops : Array Oper} {rest : List Oper} {o : Oper} {a : Act} {Q : Exit → Act → World → Prop} (hgd : o.guard = none) (s x : Operand) (t : TypeId)
    (ho : o.op = .call { callee := .builtin .append, args := #[s, x], argTypes := #[t, t] })
    (base : Nat) (e : TypeId) (i : TypeInfo) (z : Value) (bytes : Nat) (ht : P.underlying t = some (.slice e)) (hi : P.info? e = some i) (hz : i.zero = some z)
    (hsize : i.size = 1) (hby : i.bytes = bytes) (hzs : z.cells.size = 1)
    (v : Value) (n : Nat) (xs : List Value) (hs : a.eval s = v) (hown : w.ownsRow base e 1 v n xs)
    (ad : Addr) (c : Nat) (news : List Value) (hx : a.eval x = .slice (some ad) 1 c) (hl : news.length = 1) (hnews : ∀ j u, news[j]? = some u → w.cell? (ad.add j) = some u) (h1 : ∀ u ∈ news, u.oneCell' = true)
    (h63 : n + 1 ≤ maxLen) (hbytes : (n + 1) * bytes ≤ 140737488355328) (hbase : base ≤ w.heap.size)
    (h : ∀ v' w', w'.ownsRow base e 1 v' (n + 1) (xs ++ news) → w.grownBy w' v.ownBlock → (v'.ownBlock = v.ownBlock ∨ v'.ownBlock = some w.heap.size) → wpList P ops Q rest (a.put o.dst v') w') : wpList P ops Q (o :: rest) a w := by
  refine wpList_plain hgd fun K hK => ?_
  obtain ⟨v', w', hr, h2, h3, h4⟩ := run_append_own (P := P) w base t o.type e i z 1 bytes ht hi hz hsize hby hzs (by decide) v n xs hown ad 1 c news (by rw [hl]) hnews h1 h63 hbytes hbase
  have hb := append_block w base t o.type e i z bytes ht hi hz hsize hby v n xs hown ad c news hl hnews h1 h63 hbytes v' w' hr
  unfold Oper.wp
  simp [execOp, ho, resolve, invoke, builtin, hs, hx, hr, Result.andThen]
  exact hK _ _ (h _ _ h2 h3 hb)

/-- two rows lie apart -/
def Apart (a b : Value) : Prop := a.ownBlock = none ∨ b.ownBlock = none ∨ a.ownBlock ≠ b.ownBlock
theorem Apart.kept {w w' : World} {base n : Nat} {e : TypeId} {v u : Value} {xs : List Value} (h : Apart v u) (hu : w.ownsRow base e 1 u n xs) (hg : w.grownBy w' v.ownBlock) : w'.ownsRow base e 1 u n xs := by
  refine hu.kept hg ?_
  rcases h with h | h | h
  · rw [h]
    cases hb : u.ownBlock with
    | none => exact .inl rfl
    | some g => exact .inr (by simp)
  · exact .inl h
  · exact .inr (fun e => h e.symm)
theorem Apart.next {w : World} {base n : Nat} {e : TypeId} {v v' u : Value} {xs : List Value} (h : Apart v u) (hu : w.ownsRow base e 1 u n xs) (hb : v'.ownBlock = v.ownBlock ∨ v'.ownBlock = some w.heap.size) : Apart v' u := by
  rcases hb with hb | hb
  · unfold Apart; rw [hb]; exact h
  · cases hub : u.ownBlock with
    | none => exact .inr (.inl hub)
    | some g => exact .inr (.inr (by rw [hb, hub]; have := (hu.lt g hub).2; intro e; injection e with e; omega))
theorem Apart.symm {a b : Value} (h : Apart a b) : Apart b a := by
  rcases h with h | h | h
  · exact .inr (.inl h)
  · exact .inl h
  · exact .inr (.inr (fun e => h e.symm))
end Go.Proofs.YtbgihlfblmilmaaGreatDoor.Fr
