/- The decimal digits of a number, by the document. -/
import Derived.Test.YtbgihlfblmilmaaGreatDoorA5
import Derived.Lib.ItoaMem
import Derived.Laws.BytesArg
import Derived.Test.YtbgihlfblmilmaaGreatDoorHK
import Derived.Test.YtbgihlfblmilmaaGreatDoorJE
namespace Go.Proofs.YtbgihlfblmilmaaGreatDoor.Fr
open Go.RowKit Num

/-- the digits of Y, none for 0 -/
def dd (Y : Nat) : List UInt8 := if Y = 0 then [] else Lib.decDigits Y
theorem dd_zero : dd 0 = [] := rfl
theorem dd_pos {Y : Nat} (h : 0 < Y) : dd Y = Lib.decDigits Y := if_neg (by omega)
theorem dd_step {Y : Nat} (h : 0 < Y) : dd Y = dd (Y / 10) ++ [UInt8.ofNat (48 + Y % 10)] := by
  rw [dd_pos h, Lib.decDigits]
  by_cases h1 : Y < 10
  · rw [dif_pos h1, show Y / 10 = 0 by omega, dd_zero, show Y % 10 = Y by omega]; rfl
  · rw [dif_neg h1, dd_pos (by omega)]
theorem app_bytes (a : Nat) (ss : List UInt8) : (⟨#[UInt8.ofNat a]⟩ : ByteArray) ++ ⟨ss.toArray⟩ = ⟨(UInt8.ofNat a :: ss).toArray⟩ := by
  apply ByteArray.ext
  rw [ByteArray.data_append]
  apply Array.ext'
  simp
theorem conv_one (w : World) (a : Nat) (x : Value) (hx : x = .int .u8 (a : Int)) : (convert 129 9 (.slice (some ⟨w.heap.size, 0, none⟩) 1 1)).run Tryz.prog (w.alloc (.cells #[x] 5)) = .ok (.string ⟨#[UInt8.ofNat a]⟩) (w.alloc (.cells #[x] 5)) := by
  subst hx
  have h := run_convert_bytes_arg (P := Tryz.prog) (w.alloc (.cells #[.int .u8 (a : Int)] 5)) 129 5 Tryz.underlying129 Tryz.underlying5 w.heap.size 0 1 1 [(a : Int)] rfl (fun i hi => by
    obtain rfl : i = 0 := by omega
    exact cell_one_new w (.int .u8 (a : Int)) _ 0 _ rfl) 9 Tryz.underlying9
  exact h

theorem nDigits_le32 : ∀ (k u : Nat), u < 10 ^ (k + 1) → Lib.nDigits u ≤ k + 1
  | 0, u, h => by rw [Lib.nDigits_small (by simpa using h)]; omega
  | k + 1, u, h => by
    by_cases h10 : u < 10
    · rw [Lib.nDigits_small h10]; omega
    · rw [Lib.nDigits_big h10]
      have := nDigits_le32 k (u / 10) (by rw [Nat.pow_succ] at h; omega)
      omega
theorem dec_len32 {V n : Nat} (hV : V < bs .u32 ^ (n + 1)) : (Lib.decDigits V).length ≤ 10 * n + 10 := by
  rw [Lib.decDigits_length]
  have h1 : bs .u32 ^ (n + 1) ≤ (10 ^ 10) ^ (n + 1) := Nat.pow_le_pow_left (by decide) _
  rw [← Nat.pow_mul] at h1
  exact nDigits_le32 (10 * n + 9) V (Nat.lt_of_lt_of_le hV (by rw [show 10 * n + 9 + 1 = 10 * (n + 1) by omega]; exact h1))

set_option maxHeartbeats 3200000 in
set_option maxRecDepth 100000 in
theorem refDigits_any (A : Option Addr) (n c : Nat) (xs : List Nat) (w : World) (h : Dg .u32 w A n c xs) (hn : n ≤ 900000) (X : Nat) (hX : Hid (vl (bs .u32) xs = X)) :
    Calls Tryz.prog 111 #[.slice A n c] w fun e w' => e = .returned (.string ⟨(Lib.decDigits X).toArray⟩) ∧ Below w.heap.size w w' := by
  have k1 := h.tr
  have hNx := nrm_tr xs
  have HVx := Lib.hid (vl_tr (bs .u32) xs)
  have hle := len_tl h.len
  go_enter Tryz.func111, Tryz.ntmps111
  go_wp2_with fail
  refine (trim_any A n c xs w h).mono ?_
  rintro e w' ⟨rfl, rfl⟩
  clear h
  have HV : Hid (vl (bs .u32) (tr xs) = X) := by show _ = _; rw [HVx.out]; exact hX.out
  clear HVx hX
  generalize tr xs = us at *
  generalize tl xs = p at *
  by_cases hp : p = 0
  · subst hp
    have hX0 : Hid (X = 0) := by show _ = _; rw [← HV.out, List.eq_nil_of_length_eq_zero k1.len]; rfl
    clear HV
    go_wp2
    go_ret
    rw [hX0.out, Lib.decDigits_one (by decide)]
    exact ⟨rfl, Below.refl _ _⟩
  · have hXp : Hid (0 < X) := by show _ < _; rw [← HV.out]; exact hNx.pos (by decide) (by rw [k1.len]; omega)
    have hp0 : 0 < p := by omega
    have hpn : p ≤ n := hle
    have hlen := Lib.hid (show (Lib.decDigits X).length ≤ 10 * n + 10 from dec_len32 (by
      have h9 := vl_lt k1.ok
      rw [HV.out, k1.len] at h9
      exact Nat.lt_of_lt_of_le h9 (Nat.pow_le_pow_right (by decide) (by omega))))
    have hne : ((p : Int) == 0) = false := by rw [beq_eq_false_iff_ne]; omega
    go_wp2
    go_loopg [0, 3] X (fun g av sv wr => ∃ (ss : List UInt8), NV .u32 wr av g n ∧ sv = .string ⟨ss.toArray⟩ ∧ Hid (Lib.decDigits X = dd g ++ ss) ∧ Below w.heap.size w wr)
    case atStart =>
      exact ⟨[], NV.mk k1 hNx HV hpn, rfl, (by show _ = _; rw [dd_pos hXp.out, List.append_nil]), Below.refl _ _⟩
    case round =>
      obtain ⟨ss, ⟨A3, m3, c3, us3, rfl, hD3, hN3, hv3, hm3⟩, rfl, hdd, hbel⟩ := hrel
      have hsz := hbel.size
      by_cases hm : 0 < m3
      · have hgp : Hid (0 < gk) := by show _ < _; rw [← hv3.out]; exact hN3.pos (by decide) (by rw [hD3.len]; omega)
        have hL := Dg.lit1 .u32 wr 63 10 (by decide : 10 < bs .u32)
        have hD4 := hD3.alloc (.cells #[.int .u32 ((10 : Nat) : Int)] 63)
        have hb4 := hbel.alloc hsz (.cells #[.int .u32 ((10 : Nat) : Int)] 63)
        have hv10 : Hid (vl (bs .u32) [10] = 10) := by show _ = _; simp [vl]
        go_wp2_with fail
        refine (divide_any A3 _ m3 c3 1 1 us3 [10] _ hD4 hL (by omega) (by decide) (by rw [hv10.out]; decide)).mono ?_
        rw [hv3.out, hv10.out]
        rintro e w5 ⟨_, _, rfl, ⟨A5, m5, c5, us5, rfl, hD5, hN5, hv5, hm5⟩, ⟨A6, m6, c6, us6, rfl, hD6, hN6, hv6, hm6⟩, hb5⟩
        have hw5 := hb4.trans (hb5.mono hb4.size)
        clear hD3 hD4 hL hb4 hb5
        have hst := Lib.hid (dd_step hgp.out)
        generalize hq : gk / 10 = q at *
        generalize hr : gk % 10 = r at *
        have hr10 : r < 10 := by omega
        have hqg : q < gk := by have := hgp.out; omega
        have hrH := Lib.hid hr
        have hqH := Lib.hid hq
        clear hq hr
        have hdd2 := Lib.hid (show Lib.decDigits X = dd q ++ (UInt8.ofNat (48 + r) :: ss) by rw [hdd.out, hst.out, List.append_assoc]; rfl)
        have hsl : ss.length ≤ 10 * n + 10 := by
          have h9 := congrArg List.length hdd2.out
          have h10 := hlen.out
          rw [List.length_append, List.length_cons] at h9
          omega
        clear hst hdd
        by_cases h6 : m6 = 0
        · subst h6
          have hr0 : r = 0 := by rw [← hv6.out, List.eq_nil_of_length_eq_zero hD6.len]; rfl
          subst hr0
          have hcv := conv_one w5 48 (.int .u8 48) rfl
          have hwA := hw5.alloc hw5.size (.cells #[.int .u8 48] 5)
          have hD7 := hD5.alloc (.cells #[.int .u8 48] 5)
          have happ := app_bytes 48 ss
          go_wp2
          go_roundg q
          case measure => exact hqg
          case rel => exact ⟨_, NV.mk hD7 hN5 hv5 (by omega), congrArg Value.string happ, hdd2, hwA⟩
        · obtain rfl : m6 = 1 := by omega
          obtain ⟨ad, x, rfl, hcx, hx⟩ := hD6.at_ (j := 0) (by omega)
          have hxr : x = r := by
            rw [← hv6.out]
            exact (nrm_one hN6 hD6.ok hD6.len hx.out.1).symm
          subst hxr
          have hcx : w5.cell? ad = some (.int .u32 x) := hcx
          have hw1 : IntKind.u8.wrap (x : Int) = (x : Int) := IntWalk.u8_in _ (by omega)
          have hw2 : IntKind.u8.wrap (48 + (x : Int)) = ((48 + x : Nat) : Int) := (IntWalk.u8_in _ (by omega)).trans (by omega)
          have hcv := conv_one w5 (48 + x) (.int .u8 ((48 + x : Nat) : Int)) rfl
          obtain ⟨y, hy⟩ : ∃ y, 48 + x = y := ⟨_, rfl⟩
          have hyH := Lib.hid hy
          rw [hy] at hw2 hcv hdd2
          clear hy
          have hwA := hw5.alloc hw5.size (.cells #[.int .u8 (y : Int)] 5)
          have hD7 := hD5.alloc (.cells #[.int .u8 (y : Int)] 5)
          have happ := app_bytes y ss
          go_wp2
          go_roundg q
          case measure => exact hqg
          case rel => exact ⟨_, NV.mk hD7 hN5 hv5 (by omega), congrArg Value.string happ, hdd2, hwA⟩
      · obtain rfl : m3 = 0 := by omega
        have hg0 : gk = 0 := by rw [← hv3.out, List.eq_nil_of_length_eq_zero hD3.len]; rfl
        subst hg0
        have hss := Lib.hid (show Lib.decDigits X = ss from hdd.out)
        go_wp2
        go_ret
        rw [hss.out]
        exact ⟨rfl, hbel⟩
end Go.Proofs.YtbgihlfblmilmaaGreatDoor.Fr

/- A number as a string, by the document. -/
namespace Go.Proofs.YtbgihlfblmilmaaGreatDoor.Fr
open Go.RowKit Num

theorem dec32 {w : World} {A : Option Addr} {n c L x : Nat} {us : List Nat} (hD : Dg .u32 w A n c us) (hv : Hid (vl (bs .u32) us = x)) (hL : n ≤ L) : (Lib.decDigits x).length ≤ 10 * L + 10 := by
  have h := vl_lt hD.ok
  rw [hv.out, hD.len] at h
  have := dec_len32 (Nat.lt_of_lt_of_le h (Nat.pow_le_pow_right (by decide) (by omega) : bs .u32 ^ n ≤ bs .u32 ^ (n + 1)))
  omega

set_option maxHeartbeats 3200000 in
set_option maxRecDepth 100000 in
theorem refTextQ (v1 : Value) (q1 : Rat) (L : Nat) (w : World) (h1 : AF w v1 q1 L) (hL : L ≤ 50000) :
    Calls Tryz.prog 65 #[v1] w fun e w' => e = .returned (.string ⟨(txt q1).toArray⟩) ∧ Below w.heap.size w w' := by
  obtain ⟨s1, A1, n1, c1, A2, n2, c2, rfl⟩ := h1.form
  have B1 := Blk.new w 24 #[.bool s1, .slice A1 n1 c1, .slice A2 n2 c2]
  have hw0 := (Below.refl w.heap.size w).alloc (Nat.le_refl _) (.cells #[.bool s1, .slice A1 n1 c1, .slice A2 n2 c2] 24)
  have h1 := h1.below hw0
  go_enter Tryz.func65, Tryz.ntmps65
  go_upto_region 1 with fail
  generalize w.alloc (.cells #[.bool s1, .slice A1 n1 c1, .slice A2 n2 c2] 24) = w1 at *
  have y0 := B1.cell 0
  have y1 := B1.cell 1
  have y2 := B1.cell 2
  go_wp2_with fail
  refine (refCanonQ _ q1 L _ h1 (by omega)).mono ?_
  rintro e w2 ⟨_, rfl, hq, hb2⟩
  obtain ⟨s2, A3', n3', c3', A4', n4', c4', rfl⟩ := hq.form
  have C2 := B1.below hb2
  have hw2 := hw0.trans (hb2.mono hw0.size)
  obtain ⟨s, A3, n3, c3, A4, n4, c4, X1, X2⟩ := Bx.mk C2 hq
  have hw3 := bel_set3 hw2 (Nat.le_refl _) (.bool s2) (.slice A3' n3' c3') (.slice A4' n4' c4')
  have r0 := C2.cell 0
  have r1 := C2.cell 1
  have r2 := C2.cell 2
  have f0 := C2.frozen 0
  have f1 := C2.frozen 1
  have f2 := C2.frozen 2
  clear B1 C2
  go_upto_region 2 with fail
  clear r0 r1 r2 f0 f1 f2 y0 y1 y2
  generalize ((w2.setCell ⟨w.heap.size, 0, none⟩ (.bool s2)).setCell ⟨w.heap.size, 1, none⟩ (.slice A3' n3' c3')).setCell ⟨w.heap.size, 2, none⟩ (.slice A4' n4' c4') = w4 at *
  obtain ⟨_, _, he, ⟨_, _, _, y3, rfl, D3, N3, V3, M3⟩, ⟨_, _, _, y4, rfl, D4, N4, V4, M4⟩⟩ := X2
  injection he with he
  simp only [Array.mk.injEq, List.cons.injEq, and_true, Value.slice.injEq, Value.bool.injEq] at he
  obtain ⟨rfl, ⟨rfl, rfl, rfl⟩, ⟨rfl, rfl, rfl⟩⟩ := he
  obtain ⟨s, hs⟩ : ∃ s, decide (q1.num < 0) = s := ⟨_, rfl⟩
  rw [hs] at X1
  have hs := Lib.hid hs
  have r1 := X1.cell 1
  have e3 := dec32 D3 V3 M3
  obtain ⟨zn, hzn⟩ : ∃ z, Lib.decDigits q1.num.natAbs = z := ⟨_, rfl⟩
  rw [hzn] at e3
  go_wp2_with fail
  refine (refDigits_any _ _ _ _ _ D3 (by omega) _ V3).mono ?_
  rintro e w5 ⟨rfl, hb5⟩
  rw [hzn]
  have hzn := Lib.hid hzn
  have X5 := X1.below hb5
  have hw5 := hw3.trans (hb5.mono hw3.size)
  have D6 := D4.below hb5
  have r0 := X5.cell 0
  have r2 := X5.cell 2
  clear X1 X5 D3 D4 r1 hb5
  have hfin := Lib.hid (show txt q1 = (if s then [45] else []) ++ zn ++ (if q1.den = 1 then [] else 47 :: Lib.decDigits q1.den) by unfold txt; rw [hzn.out, ← hs.out]; by_cases h9 : q1.num < 0 <;> simp [h9])
  by_cases hd1 : q1.den = 1
  · have hf := hfin.out
    rw [if_pos hd1, List.append_nil] at hf
    have hf := Lib.hid hf
    have hn4 : n4 = 0 := by
      have h9 := V4.out
      rw [hd1, show dw 1 = 0 from rfl] at h9
      rcases Nat.eq_zero_or_pos n4 with h | h
      · exact h
      · exact absurd h9 (by have := N4.pos (by decide : 0 < bs .u32) (by rw [D6.len]; exact h); omega)
    subst hn4
    clear hd1 hfin V4 D6 N4
    cases s with
    | false =>
      go_wp2
      go_ret
      exact ⟨ret_str (by rw [hf.out]; rfl), hw5⟩
    | true =>
      go_wp2
      go_ret
      exact ⟨ret_str (by rw [hf.out]; simp), hw5⟩
  · have hf := hfin.out
    rw [if_neg hd1] at hf
    have hdw : dw q1.den = q1.den := by unfold dw; rw [if_neg hd1]
    rw [hdw] at V4
    have hn4 : 0 < n4 := by
      rcases Nat.eq_zero_or_pos n4 with h | h
      · subst h
        have h9 := V4.out
        rw [List.eq_nil_of_length_eq_zero D6.len] at h9
        have := q1.den_pos
        have : vl (bs .u32) [] = 0 := rfl
        omega
      · exact h
    have e4 := dec32 D6 V4 M4
    obtain ⟨zd, hzd⟩ : ∃ z, Lib.decDigits q1.den = z := ⟨_, rfl⟩
    rw [hzd] at e4 hf
    have hzd := Lib.hid hzd
    have hf := Lib.hid hf
    clear hd1 hdw hfin
    cases s with
    | false =>
      go_wp2_with fail
      refine (refDigits_any _ _ _ _ _ D6 (by omega) _ V4).mono ?_
      rintro e w7 ⟨rfl, hb7⟩
      rw [hzd.out]
      go_wp2
      go_ret
      exact ⟨ret_str (by rw [hf.out]; simp), hw5.trans (hb7.mono hw5.size)⟩
    | true =>
      go_wp2_with fail
      refine (refDigits_any _ _ _ _ _ D6 (by omega) _ V4).mono ?_
      rintro e w7 ⟨rfl, hb7⟩
      rw [hzd.out]
      go_wp2
      go_ret
      exact ⟨ret_str (by rw [hf.out]; simp), hw5.trans (hb7.mono hw5.size)⟩
end Go.Proofs.YtbgihlfblmilmaaGreatDoor.Fr
