/- The decimal digits of a number, by the document. -/
import Derived.Test.YtbgihlfblmilmaaGreatDoorA5
import Derived.Lib.ItoaMem
import Derived.Laws.BytesArg
import Derived.Test.YtbgihlfblmilmaaGreatDoorHK
import Derived.Test.YtbgihlfblmilmaaGreatDoorJE
import Derived.Test.YtbgihlfblmilmaaGreatDoorHL
import Derived.Test.YtbgihlfblmilmaaGreatDoorHB
import Derived.Deep.RegionHeld3
import Derived.Test.YtbgihlfblmilmaaGreatDoorJG
import Derived.Test.YtbgihlfblmilmaaGreatDoorHE
import Derived.Test.YtbgihlfblmilmaaGreatDoorJI
namespace Go.Proofs.YtbgihlfblmilmaaGreatDoor.Fr
open Go.RowKit Num

/-- the digits of Y, none for 0 -/
def dd (Y : Nat) : List UInt8 := if Y = 0 then [] else Lib.decDigits Y
theorem dd_zero : dd 0 = [] := rfl
theorem dd_pos {Y : Nat} (h : 0 < Y) : dd Y = Lib.decDigits Y := if_neg (by omega)
theorem dd_step {Y : Nat} (h : 0 < Y) : dd Y = dd (Y / 10) ++ [UInt8.ofNat (48 + Y % 10)] := by
  rw [dd_pos h, Lib.decDigits]
  by_cases h1 : Y < 10
  · rw [dif_pos h1, show Y / 10 = 0 by omega, dd_zero, show Y % 10 = Y by omega]; rfl
  · rw [dif_neg h1, dd_pos (by omega)]
theorem app_bytes (a : Nat) (ss : List UInt8) : (⟨#[UInt8.ofNat a]⟩ : ByteArray) ++ ⟨ss.toArray⟩ = ⟨(UInt8.ofNat a :: ss).toArray⟩ := by
  apply ByteArray.ext
  rw [ByteArray.data_append]
  apply Array.ext'
  simp
theorem conv_one (w : World) (a : Nat) (x : Value) (hx : x = .int .u8 (a : Int)) : (convert 129 9 (.slice (some ⟨w.heap.size, 0, none⟩) 1 1)).run Tryz.prog (w.alloc (.cells #[x] 5)) = .ok (.string ⟨#[UInt8.ofNat a]⟩) (w.alloc (.cells #[x] 5)) := by
  subst hx
  have h := run_convert_bytes_arg (P := Tryz.prog) (w.alloc (.cells #[.int .u8 (a : Int)] 5)) 129 5 Tryz.underlying129 Tryz.underlying5 w.heap.size 0 1 1 [(a : Int)] rfl (fun i hi => by
    obtain rfl : i = 0 := by omega
    exact cell_one_new w (.int .u8 (a : Int)) _ 0 _ rfl) 9 Tryz.underlying9
  exact h

theorem nDigits_le32 : ∀ (k u : Nat), u < 10 ^ (k + 1) → Lib.nDigits u ≤ k + 1
  | 0, u, h => by rw [Lib.nDigits_small (by simpa using h)]; omega
  | k + 1, u, h => by
    by_cases h10 : u < 10
    · rw [Lib.nDigits_small h10]; omega
    · rw [Lib.nDigits_big h10]
      have := nDigits_le32 k (u / 10) (by rw [Nat.pow_succ] at h; omega)
      omega
theorem dec_len32 {V n : Nat} (hV : V < bs .u32 ^ (n + 1)) : (Lib.decDigits V).length ≤ 10 * n + 10 := by
  rw [Lib.decDigits_length]
  have h1 : bs .u32 ^ (n + 1) ≤ (10 ^ 10) ^ (n + 1) := Nat.pow_le_pow_left (by decide) _
  rw [← Nat.pow_mul] at h1
  exact nDigits_le32 (10 * n + 9) V (Nat.lt_of_lt_of_le hV (by rw [show 10 * n + 9 + 1 = 10 * (n + 1) by omega]; exact h1))

set_option maxHeartbeats 3200000 in
set_option maxRecDepth 100000 in
theorem refDigits_any (A : Option Addr) (n c : Nat) (xs : List Nat) (w : World) (h : Dg .u32 w A n c xs) (hn : n ≤ 900000) (X : Nat) (hX : Hid (vl (bs .u32) xs = X)) :
    Calls Tryz.prog 111 #[.slice A n c] w fun e w' => e = .returned (.string ⟨(Lib.decDigits X).toArray⟩) ∧ Below w.heap.size w w' := by
  have k1 := h.tr
  have hNx := nrm_tr xs
  have HVx := Lib.hid (vl_tr (bs .u32) xs)
  have hle := len_tl h.len
  go_enter Tryz.func111, Tryz.ntmps111
  go_wp2_with fail
  refine (trim_any A n c xs w h).mono ?_
  rintro e w' ⟨rfl, rfl⟩
  clear h
  have HV : Hid (vl (bs .u32) (tr xs) = X) := by show _ = _; rw [HVx.out]; exact hX.out
  clear HVx hX
  generalize tr xs = us at *
  generalize tl xs = p at *
  by_cases hp : p = 0
  · subst hp
    have hX0 : Hid (X = 0) := by show _ = _; rw [← HV.out, List.eq_nil_of_length_eq_zero k1.len]; rfl
    clear HV
    go_wp2
    go_ret
    rw [hX0.out, Lib.decDigits_one (by decide)]
    exact ⟨rfl, Below.refl _ _⟩
  · have hXp : Hid (0 < X) := by show _ < _; rw [← HV.out]; exact hNx.pos (by decide) (by rw [k1.len]; omega)
    have hp0 : 0 < p := by omega
    have hpn : p ≤ n := hle
    have hlen := Lib.hid (show (Lib.decDigits X).length ≤ 10 * n + 10 from dec_len32 (by
      have h9 := vl_lt k1.ok
      rw [HV.out, k1.len] at h9
      exact Nat.lt_of_lt_of_le h9 (Nat.pow_le_pow_right (by decide) (by omega))))
    have hne : ((p : Int) == 0) = false := by rw [beq_eq_false_iff_ne]; omega
    go_wp2
    go_loopg [0, 3] X (fun g av sv wr => ∃ (ss : List UInt8), NV .u32 wr av g n ∧ sv = .string ⟨ss.toArray⟩ ∧ Hid (Lib.decDigits X = dd g ++ ss) ∧ Below w.heap.size w wr)
    case atStart =>
      exact ⟨[], NV.mk k1 hNx HV hpn, rfl, (by show _ = _; rw [dd_pos hXp.out, List.append_nil]), Below.refl _ _⟩
    case round =>
      obtain ⟨ss, ⟨A3, m3, c3, us3, rfl, hD3, hN3, hv3, hm3⟩, rfl, hdd, hbel⟩ := hrel
      have hsz := hbel.size
      by_cases hm : 0 < m3
      · have hgp : Hid (0 < gk) := by show _ < _; rw [← hv3.out]; exact hN3.pos (by decide) (by rw [hD3.len]; omega)
        have hL := Dg.lit1 .u32 wr 63 10 (by decide : 10 < bs .u32)
        have hD4 := hD3.alloc (.cells #[.int .u32 ((10 : Nat) : Int)] 63)
        have hb4 := hbel.alloc hsz (.cells #[.int .u32 ((10 : Nat) : Int)] 63)
        have hv10 : Hid (vl (bs .u32) [10] = 10) := by show _ = _; simp [vl]
        go_wp2_with fail
        refine (divide_any A3 _ m3 c3 1 1 us3 [10] _ hD4 hL (by omega) (by decide) (by rw [hv10.out]; decide)).mono ?_
        rw [hv3.out, hv10.out]
        rintro e w5 ⟨_, _, rfl, ⟨A5, m5, c5, us5, rfl, hD5, hN5, hv5, hm5⟩, ⟨A6, m6, c6, us6, rfl, hD6, hN6, hv6, hm6⟩, hb5⟩
        have hw5 := hb4.trans (hb5.mono hb4.size)
        clear hD3 hD4 hL hb4 hb5
        have hst := Lib.hid (dd_step hgp.out)
        generalize hq : gk / 10 = q at *
        generalize hr : gk % 10 = r at *
        have hr10 : r < 10 := by omega
        have hqg : q < gk := by have := hgp.out; omega
        have hrH := Lib.hid hr
        have hqH := Lib.hid hq
        clear hq hr
        have hdd2 := Lib.hid (show Lib.decDigits X = dd q ++ (UInt8.ofNat (48 + r) :: ss) by rw [hdd.out, hst.out, List.append_assoc]; rfl)
        have hsl : ss.length ≤ 10 * n + 10 := by
          have h9 := congrArg List.length hdd2.out
          have h10 := hlen.out
          rw [List.length_append, List.length_cons] at h9
          omega
        clear hst hdd
        by_cases h6 : m6 = 0
        · subst h6
          have hr0 : r = 0 := by rw [← hv6.out, List.eq_nil_of_length_eq_zero hD6.len]; rfl
          subst hr0
          have hcv := conv_one w5 48 (.int .u8 48) rfl
          have hwA := hw5.alloc hw5.size (.cells #[.int .u8 48] 5)
          have hD7 := hD5.alloc (.cells #[.int .u8 48] 5)
          have happ := app_bytes 48 ss
          go_wp2
          go_roundg q
          case measure => exact hqg
          case rel => exact ⟨_, NV.mk hD7 hN5 hv5 (by omega), congrArg Value.string happ, hdd2, hwA⟩
        · obtain rfl : m6 = 1 := by omega
          obtain ⟨ad, x, rfl, hcx, hx⟩ := hD6.at_ (j := 0) (by omega)
          have hxr : x = r := by
            rw [← hv6.out]
            exact (nrm_one hN6 hD6.ok hD6.len hx.out.1).symm
          subst hxr
          have hcx : w5.cell? ad = some (.int .u32 x) := hcx
          have hw1 : IntKind.u8.wrap (x : Int) = (x : Int) := IntWalk.u8_in _ (by omega)
          have hw2 : IntKind.u8.wrap (48 + (x : Int)) = ((48 + x : Nat) : Int) := (IntWalk.u8_in _ (by omega)).trans (by omega)
          have hcv := conv_one w5 (48 + x) (.int .u8 ((48 + x : Nat) : Int)) rfl
          obtain ⟨y, hy⟩ : ∃ y, 48 + x = y := ⟨_, rfl⟩
          have hyH := Lib.hid hy
          rw [hy] at hw2 hcv hdd2
          clear hy
          have hwA := hw5.alloc hw5.size (.cells #[.int .u8 (y : Int)] 5)
          have hD7 := hD5.alloc (.cells #[.int .u8 (y : Int)] 5)
          have happ := app_bytes y ss
          go_wp2
          go_roundg q
          case measure => exact hqg
          case rel => exact ⟨_, NV.mk hD7 hN5 hv5 (by omega), congrArg Value.string happ, hdd2, hwA⟩
      · obtain rfl : m3 = 0 := by omega
        have hg0 : gk = 0 := by rw [← hv3.out, List.eq_nil_of_length_eq_zero hD3.len]; rfl
        subst hg0
        have hss := Lib.hid (show Lib.decDigits X = ss from hdd.out)
        go_wp2
        go_ret
        rw [hss.out]
        exact ⟨rfl, hbel⟩
end Go.Proofs.YtbgihlfblmilmaaGreatDoor.Fr

/- A number as a string, by the document. -/
namespace Go.Proofs.YtbgihlfblmilmaaGreatDoor.Fr
open Go.RowKit Num

theorem dec32 {w : World} {A : Option Addr} {n c L x : Nat} {us : List Nat} (hD : Dg .u32 w A n c us) (hv : Hid (vl (bs .u32) us = x)) (hL : n ≤ L) : (Lib.decDigits x).length ≤ 10 * L + 10 := by
  have h := vl_lt hD.ok
  rw [hv.out, hD.len] at h
  have := dec_len32 (Nat.lt_of_lt_of_le h (Nat.pow_le_pow_right (by decide) (by omega) : bs .u32 ^ n ≤ bs .u32 ^ (n + 1)))
  omega

set_option maxHeartbeats 3200000 in
set_option maxRecDepth 100000 in
theorem refTextQ (v1 : Value) (q1 : Rat) (L : Nat) (w : World) (h1 : AF w v1 q1 L) (hL : L ≤ 50000) :
    Calls Tryz.prog 65 #[v1] w fun e w' => e = .returned (.string ⟨(txt q1).toArray⟩) ∧ Below w.heap.size w w' := by
  obtain ⟨s1, A1, n1, c1, A2, n2, c2, rfl⟩ := h1.form
  have B1 := Blk.new w 24 #[.bool s1, .slice A1 n1 c1, .slice A2 n2 c2]
  have hw0 := (Below.refl w.heap.size w).alloc (Nat.le_refl _) (.cells #[.bool s1, .slice A1 n1 c1, .slice A2 n2 c2] 24)
  have h1 := h1.below hw0
  go_enter Tryz.func65, Tryz.ntmps65
  go_upto_region 1 with fail
  generalize w.alloc (.cells #[.bool s1, .slice A1 n1 c1, .slice A2 n2 c2] 24) = w1 at *
  have y0 := B1.cell 0
  have y1 := B1.cell 1
  have y2 := B1.cell 2
  go_wp2_with fail
  refine (refCanonQ _ q1 L _ h1 (by omega)).mono ?_
  rintro e w2 ⟨_, rfl, hq, hb2⟩
  obtain ⟨s2, A3', n3', c3', A4', n4', c4', rfl⟩ := hq.form
  have C2 := B1.below hb2
  have hw2 := hw0.trans (hb2.mono hw0.size)
  obtain ⟨s, A3, n3, c3, A4, n4, c4, X1, X2⟩ := Bx.mk C2 hq
  have hw3 := bel_set3 hw2 (Nat.le_refl _) (.bool s2) (.slice A3' n3' c3') (.slice A4' n4' c4')
  have r0 := C2.cell 0
  have r1 := C2.cell 1
  have r2 := C2.cell 2
  have f0 := C2.frozen 0
  have f1 := C2.frozen 1
  have f2 := C2.frozen 2
  clear B1 C2
  go_upto_region 2 with fail
  clear r0 r1 r2 f0 f1 f2 y0 y1 y2
  generalize ((w2.setCell ⟨w.heap.size, 0, none⟩ (.bool s2)).setCell ⟨w.heap.size, 1, none⟩ (.slice A3' n3' c3')).setCell ⟨w.heap.size, 2, none⟩ (.slice A4' n4' c4') = w4 at *
  obtain ⟨_, _, he, ⟨_, _, _, y3, rfl, D3, N3, V3, M3⟩, ⟨_, _, _, y4, rfl, D4, N4, V4, M4⟩⟩ := X2
  injection he with he
  simp only [Array.mk.injEq, List.cons.injEq, and_true, Value.slice.injEq, Value.bool.injEq] at he
  obtain ⟨rfl, ⟨rfl, rfl, rfl⟩, ⟨rfl, rfl, rfl⟩⟩ := he
  obtain ⟨s, hs⟩ : ∃ s, decide (q1.num < 0) = s := ⟨_, rfl⟩
  rw [hs] at X1
  have hs := Lib.hid hs
  have r1 := X1.cell 1
  have e3 := dec32 D3 V3 M3
  obtain ⟨zn, hzn⟩ : ∃ z, Lib.decDigits q1.num.natAbs = z := ⟨_, rfl⟩
  rw [hzn] at e3
  go_wp2_with fail
  refine (refDigits_any _ _ _ _ _ D3 (by omega) _ V3).mono ?_
  rintro e w5 ⟨rfl, hb5⟩
  rw [hzn]
  have hzn := Lib.hid hzn
  have X5 := X1.below hb5
  have hw5 := hw3.trans (hb5.mono hw3.size)
  have D6 := D4.below hb5
  have r0 := X5.cell 0
  have r2 := X5.cell 2
  clear X1 X5 D3 D4 r1 hb5
  have hfin := Lib.hid (show txt q1 = (if s then [45] else []) ++ zn ++ (if q1.den = 1 then [] else 47 :: Lib.decDigits q1.den) by unfold txt; rw [hzn.out, ← hs.out]; by_cases h9 : q1.num < 0 <;> simp [h9])
  by_cases hd1 : q1.den = 1
  · have hf := hfin.out
    rw [if_pos hd1, List.append_nil] at hf
    have hf := Lib.hid hf
    have hn4 : n4 = 0 := by
      have h9 := V4.out
      rw [hd1, show dw 1 = 0 from rfl] at h9
      rcases Nat.eq_zero_or_pos n4 with h | h
      · exact h
      · exact absurd h9 (by have := N4.pos (by decide : 0 < bs .u32) (by rw [D6.len]; exact h); omega)
    subst hn4
    clear hd1 hfin V4 D6 N4
    cases s with
    | false =>
      go_wp2
      go_ret
      exact ⟨ret_str (by rw [hf.out]; rfl), hw5⟩
    | true =>
      go_wp2
      go_ret
      exact ⟨ret_str (by rw [hf.out]; simp), hw5⟩
  · have hf := hfin.out
    rw [if_neg hd1] at hf
    have hdw : dw q1.den = q1.den := by unfold dw; rw [if_neg hd1]
    rw [hdw] at V4
    have hn4 : 0 < n4 := by
      rcases Nat.eq_zero_or_pos n4 with h | h
      · subst h
        have h9 := V4.out
        rw [List.eq_nil_of_length_eq_zero D6.len] at h9
        have := q1.den_pos
        have : vl (bs .u32) [] = 0 := rfl
        omega
      · exact h
    have e4 := dec32 D6 V4 M4
    obtain ⟨zd, hzd⟩ : ∃ z, Lib.decDigits q1.den = z := ⟨_, rfl⟩
    rw [hzd] at e4 hf
    have hzd := Lib.hid hzd
    have hf := Lib.hid hf
    clear hd1 hdw hfin
    cases s with
    | false =>
      go_wp2_with fail
      refine (refDigits_any _ _ _ _ _ D6 (by omega) _ V4).mono ?_
      rintro e w7 ⟨rfl, hb7⟩
      rw [hzd.out]
      go_wp2
      go_ret
      exact ⟨ret_str (by rw [hf.out]; simp), hw5.trans (hb7.mono hw5.size)⟩
    | true =>
      go_wp2_with fail
      refine (refDigits_any _ _ _ _ _ D6 (by omega) _ V4).mono ?_
      rintro e w7 ⟨rfl, hb7⟩
      rw [hzd.out]
      go_wp2
      go_ret
      exact ⟨ret_str (by rw [hf.out]; simp), hw5.trans (hb7.mono hw5.size)⟩
end Go.Proofs.YtbgihlfblmilmaaGreatDoor.Fr

/- A string of digits as a number, by the document. -/
namespace Go.Proofs.YtbgihlfblmilmaaGreatDoor.Fr
open Go.RowKit Num

/-- what 'number' returns -/
def RetNb (w : World) (l : List UInt8) (e : Ending) (w' : World) : Prop :=
  ∃ v b, e = .returned (.tuple #[v, .bool b]) ∧ Hid (b = (l.all dgt && decide (0 < l.length))) ∧ NV .u32 w' v (if l.all dgt then dval l else 0) l.length ∧ Below w.heap.size w w'
theorem dval_take {l : List UInt8} {k : Nat} (hk : k < l.length) (h : (l.take k).all dgt = true) (hd : dgt (l[k]'hk) = true) : dval (l.take (k + 1)) = dval (l.take k) * 10 + ((l[k]'hk).toNat - 48) ∧ dval (l.take (k + 1)) < bs .u32 ^ (k + 1) := by
  have h1 : l.take (k + 1) = l.take k ++ [l[k]'hk] := by rw [List.take_add_one, List.getElem?_eq_getElem hk, Option.toList_some]
  have h2 := dval_lt _ (rd_all hk h hd)
  refine ⟨by rw [h1, dval_snoc, Nat.mul_comm], Nat.lt_of_lt_of_le h2 ?_⟩
  rw [List.length_take, Nat.min_eq_left (by omega)]
  exact Nat.pow_le_pow_left (by decide) _

set_option linter.unusedSimpArgs false in
set_option maxHeartbeats 6400000 in
set_option maxRecDepth 100000 in
theorem numberB (l : List UInt8) (w : World) (hl : l.length ≤ 100000) :
    Calls Tryz.prog 117 #[.string ⟨l.toArray⟩] w (RetNb w l) := by
  go_enter Tryz.func117, Tryz.ntmps117
  go_wp2
  go_loopg [4, 5] l.length (fun g av iv wr => ∃ k : Nat, iv = .int .i64 (k : Int) ∧ NV .u32 wr av (dval (l.take k)) k ∧ k ≤ l.length ∧ Hid (g = l.length - k) ∧ Hid ((l.take k).all dgt = true) ∧ Below w.heap.size w wr)
  case atStart =>
    exact ⟨0, rfl, NV.mk (Dg.nil _ _) Nrm.nil rfl (Nat.le_refl _), Nat.zero_le _, rfl, rfl, Below.refl _ _⟩
  case round =>
    obtain ⟨k, rfl, ⟨A3, m3, c3, us3, rfl, hD3, hN3, hv3, hm3⟩, hkl, hg, hal, hbel⟩ := hrel
    have hsz := hbel.size
    by_cases hk : k < l.length
    · have hkS : k < (⟨l.toArray⟩ : ByteArray).size := hk
      obtain ⟨b, hbe⟩ : ∃ b, (l[k]'hk).toNat = b := ⟨_, rfl⟩
      have hbS : ((⟨l.toArray⟩ : ByteArray)[k]'hkS).toNat = b := hbe
      by_cases hdg : dgt (l[k]'hk) = true
      · have hd2 := hdg
        simp only [dgt, Bool.and_eq_true, decide_eq_true_eq] at hd2
        rw [hbe] at hd2
        obtain ⟨hst, hlt⟩ := dval_take hk hal.out hdg
        rw [hbe] at hst
        have hall := Lib.hid (rd_all hk hal.out hdg)
        obtain ⟨d, hd⟩ : ∃ d, d = b - 48 := ⟨_, rfl⟩
        rw [← hd] at hst
        have hst := Lib.hid hst
        have hlt := Lib.hid hlt
        have e1 : IntKind.u8.wrap ((b : Int) - 48) = (d : Int) := by rw [show (b : Int) - 48 = (d : Int) by omega]; exact IntWalk.u8_in _ (by omega)
        have e2 : IntKind.u32.wrap (d : Int) = (d : Int) := by rw [IntKind.wrap_u32]; omega
        have e3 : decide ((b : Int) < 48) = false := decide_eq_false (by omega)
        have e4 : decide ((57 : Int) < (b : Int)) = false := decide_eq_false (by omega)
        have e5 : IntKind.i64.wrap ((k : Int) + 1) = ((k + 1 : Nat) : Int) := (IntWalk.i64_in _ (by omega)).trans (by omega)
        have hd9 : d ≤ 9 := by omega
        have hok10 : (10 : Nat) < bs .u32 := by decide
        have hokd : d < bs .u32 := Nat.lt_of_le_of_lt hd9 (by decide)
        have hv10 : Hid (vl (bs .u32) [10] = 10) := by show _ = _; simp [vl]
        have hvd : Hid (vl (bs .u32) [d] = d) := by show _ = _; simp [vl]
        clear hd hd2 hdg hbe
        obtain ⟨X, hX⟩ : ∃ X, dval (l.take k) = X := ⟨_, rfl⟩
        rw [hX] at hst hv3
        clear hX
        have hm3' : m3 ≤ 100000 := by omega
        go_upto_region 7 with fail
        have hB := bel_drewN (Below.refl wr.heap.size wr) 1
        have hD3 := hD3.below hB
        refine wp_region_held_drew (S := (fun _ => True)) (by kernel_rfl) trivial (fun hHeld => ?_)
        refine wpAnyH_take (i := 0) (v := .slice A3 m3 c3) rfl (by kernel_rfl) (by kernel_rfl) (by kernel_rfl) (fun _ _ _ h => h) (Or.inl ⟨by kernel_rfl, by (intro w hSw; (try dsimp only at hSw); go_simp)⟩) hHeld ?_
        try simp only [Act.put, List.getElem_toArray, List.getElem_cons_succ, List.getElem_cons_zero, List.setIfInBounds_toArray, List.set_cons_zero, List.set_cons_succ]
        refine wpAnyH_take (i := 3) (v := .string ⟨l.toArray⟩) rfl (by kernel_rfl) (by kernel_rfl) (by kernel_rfl) (fun _ _ _ h => h) (Or.inl ⟨by kernel_rfl, by (intro w hSw; (try dsimp only at hSw); go_simp)⟩) hHeld ?_
        try simp only [Act.put, List.getElem_toArray, List.getElem_cons_succ, List.getElem_cons_zero, List.setIfInBounds_toArray, List.set_cons_zero, List.set_cons_succ]
        refine wpAnyH_take (i := 4) (v := .int .i64 (k : Int)) rfl (by kernel_rfl) (by kernel_rfl) (by kernel_rfl) (fun _ _ _ h => h) (Or.inl ⟨by kernel_rfl, by (intro w hSw; (try dsimp only at hSw); go_simp)⟩) hHeld ?_
        try simp only [Act.put, List.getElem_toArray, List.getElem_cons_succ, List.getElem_cons_zero, List.setIfInBounds_toArray, List.set_cons_zero, List.set_cons_succ]
        refine wpAnyH_take (i := 5) (v := .int .u8 (b : Int)) rfl (by kernel_rfl) (by kernel_rfl) (by kernel_rfl) (fun _ _ _ h => h) (Or.inl ⟨by kernel_rfl, by (intro w hSw; (try dsimp only at hSw); go_simp)⟩) hHeld ?_
        try simp only [Act.put, List.getElem_toArray, List.getElem_cons_succ, List.getElem_cons_zero, List.setIfInBounds_toArray, List.set_cons_zero, List.set_cons_succ]
        refine wpAnyH_take (i := 6) (v := .int .u8 (d : Int)) rfl (by kernel_rfl) (by kernel_rfl) (by kernel_rfl) (fun _ _ _ h => h) (Or.inl ⟨by kernel_rfl, by (intro w hSw; (try dsimp only at hSw); go_simp)⟩) hHeld ?_
        try simp only [Act.put, List.getElem_toArray, List.getElem_cons_succ, List.getElem_cons_zero, List.setIfInBounds_toArray, List.set_cons_zero, List.set_cons_succ]
        refine wpAnyH_take (i := 7) (v := .int .u32 (d : Int)) rfl (by kernel_rfl) (by kernel_rfl) (by kernel_rfl) (fun _ _ _ h => h) (Or.inl ⟨by kernel_rfl, by (intro w hSw; (try dsimp only at hSw); go_simp)⟩) hHeld ?_
        try simp only [Act.put, List.getElem_toArray, List.getElem_cons_succ, List.getElem_cons_zero, List.setIfInBounds_toArray, List.set_cons_zero, List.set_cons_succ]
        refine wpAnyH_ready (rs := [1, 8]) (by kernel_rfl) (by simp) ?_
        refine AllReadyH.cons rfl (fun K hK => ?_) ?_
        · skip
          go_simp
          refine hK.out _ _ ?_ (fun hHeld => ?_)
          · trivial
          clear hK K
          try simp only [Act.put, List.getElem_toArray, List.getElem_cons_succ, List.getElem_cons_zero, List.setIfInBounds_toArray, List.set_cons_zero, List.set_cons_succ]
          have h10 := Dg.lit1 .u32 wr.drew 63 10 hok10
          have hal := (Below.refl (wr.drew : World).heap.size wr.drew).alloc (Nat.le_refl _) (.cells #[.int .u32 (10)] 63)
          have hD3 := hD3.below hal
          have hB := hB.trans (hal.mono hB.size)
          refine wpAnyH_ready (rs := [2, 8]) (by kernel_rfl) (by simp) ?_
          refine AllReadyH.cons rfl (fun K hK => ?_) ?_
          · skip
            go_simp
            refine (times_any _ _ _ _ _ _ us3 [10] _ hD3 h10 (by omega) (by decide)).mono ?_
            rintro e v2 ⟨At, mt, ct, ut, rfl, hDt, hNt, hvt, hmt, hbt⟩
            rw [hv3.out, hv10.out] at hvt
            have hD3 := hD3.below hbt
            have h10 := h10.below hbt
            have hB := hB.trans (hbt.mono hB.size)
            go_wp2_with fail
            refine hK.out _ _ ?_ (fun hHeld => ?_)
            · trivial
            clear hK K
            try simp only [Act.put, List.getElem_toArray, List.getElem_cons_succ, List.getElem_cons_zero, List.setIfInBounds_toArray, List.set_cons_zero, List.set_cons_succ]
            refine wpAnyH_ready (rs := [8]) (by kernel_rfl) (by simp) ?_
            refine AllReadyH.cons rfl (fun K hK => ?_) AllReadyH.nil
            go_simp
            refine hK.out _ _ ?_ (fun hHeld => ?_)
            · trivial
            clear hK K
            try simp only [Act.put, List.getElem_toArray, List.getElem_cons_succ, List.getElem_cons_zero, List.setIfInBounds_toArray, List.set_cons_zero, List.set_cons_succ]
            have hE := Dg.lit1 .u32 v2 63 d hokd
            have hal := (Below.refl (v2 : World).heap.size v2).alloc (Nat.le_refl _) (.cells #[.int .u32 ((d : Int))] 63)
            have hD3 := hD3.below hal
            have h10 := h10.below hal
            have hDt := hDt.below hal
            have hB := hB.trans (hal.mono hB.size)
            refine wpAnyH_ready (rs := [9]) (by kernel_rfl) (by simp) ?_
            refine AllReadyH.cons rfl (fun K hK => ?_) AllReadyH.nil
            go_simp
            refine (trim_any _ _ _ _ _ hE).mono ?_
            rintro e v4 ⟨rfl, hwt⟩
            obtain rfl := hwt
            have hF := hE.tr
            go_wp2_with fail
            refine hK.out _ _ ?_ (fun hHeld => ?_)
            · trivial
            clear hK K
            try simp only [Act.put, List.getElem_toArray, List.getElem_cons_succ, List.getElem_cons_zero, List.setIfInBounds_toArray, List.set_cons_zero, List.set_cons_succ]
            refine wpAnyH_ready (rs := [10]) (by kernel_rfl) (by simp) ?_
            refine AllReadyH.cons rfl (fun K hK => ?_) AllReadyH.nil
            go_simp
            refine (plus_any _ _ _ _ _ _ ut (tr [d]) _ hDt hF (by omega) (by have := tl_le [d]; simp at this; omega)).mono ?_
            rintro e v5 ⟨Ap, mp, cp, up, rfl, hDp, hNp, hvp, hmp, hbp⟩
            rw [hvt.out, vl_tr, hvd.out, ← hst.out] at hvp
            have hB := hB.trans (hbp.mono hB.size)
            go_wp2_with fail
            refine hK.out _ _ ?_ (fun hHeld => ?_)
            · trivial
            clear hK K
            try simp only [Act.put, List.getElem_toArray, List.getElem_cons_succ, List.getElem_cons_zero, List.setIfInBounds_toArray, List.set_cons_zero, List.set_cons_succ]
            refine wpAnyH_take (i := 11) (v := .slice Ap mp cp) rfl (by kernel_rfl) (by kernel_rfl) (by kernel_rfl) (fun _ _ _ h => h) (Or.inl ⟨by kernel_rfl, by (intro w hSw; (try dsimp only at hSw); go_simp)⟩) hHeld ?_
            try simp only [Act.put, List.getElem_toArray, List.getElem_cons_succ, List.getElem_cons_zero, List.setIfInBounds_toArray, List.set_cons_zero, List.set_cons_succ]
            refine wpAnyH_done (by kernel_rfl) ?_ _
            go_wp2
            go_roundg (l.length - (k + 1))
            case measure => have := hg.out; omega
            case rel => exact ⟨k + 1, rfl, NV.tight (NV.mk hDp hNp hvp (Nat.le_refl _)) hlt.out, hk, rfl, hall, hbel.trans (hB.mono hbel.size)⟩
          refine AllReadyH.cons rfl (fun K hK => ?_) AllReadyH.nil
          go_simp
          refine hK.out _ _ ?_ (fun hHeld => ?_)
          · trivial
          clear hK K
          try simp only [Act.put, List.getElem_toArray, List.getElem_cons_succ, List.getElem_cons_zero, List.setIfInBounds_toArray, List.set_cons_zero, List.set_cons_succ]
          have hE : Dg .u32 ((wr.drew.alloc (.cells #[.int .u32 (10)] 63)).alloc (.cells #[.int .u32 ((d : Nat) : Int)] 63)) (some ⟨wr.heap.size + 1, 0, none⟩) 1 1 [d] := by have h9 := Dg.lit1 .u32 (wr.drew.alloc (.cells #[.int .u32 (10)] 63)) 63 d hokd; rw [World.size_alloc] at h9; exact h9
          have hal := (Below.refl ((wr.drew.alloc (.cells #[.int .u32 (10)] 63)) : World).heap.size (wr.drew.alloc (.cells #[.int .u32 (10)] 63))).alloc (Nat.le_refl _) (.cells #[.int .u32 ((d : Int))] 63)
          have hD3 := hD3.below hal
          have h10 := h10.below hal
          have hB := hB.trans (hal.mono hB.size)
          refine wpAnyH_ready (rs := [2]) (by kernel_rfl) (by simp) ?_
          refine AllReadyH.cons rfl (fun K hK => ?_) AllReadyH.nil
          go_simp
          refine (times_any _ _ _ _ _ _ us3 [10] _ hD3 h10 (by omega) (by decide)).mono ?_
          rintro e v3 ⟨At, mt, ct, ut, rfl, hDt, hNt, hvt, hmt, hbt⟩
          rw [hv3.out, hv10.out] at hvt
          have hD3 := hD3.below hbt
          have h10 := h10.below hbt
          have hE := hE.below hbt
          have hB := hB.trans (hbt.mono hB.size)
          go_wp2_with fail
          refine hK.out _ _ ?_ (fun hHeld => ?_)
          · trivial
          clear hK K
          try simp only [Act.put, List.getElem_toArray, List.getElem_cons_succ, List.getElem_cons_zero, List.setIfInBounds_toArray, List.set_cons_zero, List.set_cons_succ]
          refine wpAnyH_ready (rs := [9]) (by kernel_rfl) (by simp) ?_
          refine AllReadyH.cons rfl (fun K hK => ?_) AllReadyH.nil
          go_simp
          refine (trim_any _ _ _ _ _ hE).mono ?_
          rintro e v4 ⟨rfl, hwt⟩
          obtain rfl := hwt
          have hF := hE.tr
          go_wp2_with fail
          refine hK.out _ _ ?_ (fun hHeld => ?_)
          · trivial
          clear hK K
          try simp only [Act.put, List.getElem_toArray, List.getElem_cons_succ, List.getElem_cons_zero, List.setIfInBounds_toArray, List.set_cons_zero, List.set_cons_succ]
          refine wpAnyH_ready (rs := [10]) (by kernel_rfl) (by simp) ?_
          refine AllReadyH.cons rfl (fun K hK => ?_) AllReadyH.nil
          go_simp
          refine (plus_any _ _ _ _ _ _ ut (tr [d]) _ hDt hF (by omega) (by have := tl_le [d]; simp at this; omega)).mono ?_
          rintro e v5 ⟨Ap, mp, cp, up, rfl, hDp, hNp, hvp, hmp, hbp⟩
          rw [hvt.out, vl_tr, hvd.out, ← hst.out] at hvp
          have hB := hB.trans (hbp.mono hB.size)
          go_wp2_with fail
          refine hK.out _ _ ?_ (fun hHeld => ?_)
          · trivial
          clear hK K
          try simp only [Act.put, List.getElem_toArray, List.getElem_cons_succ, List.getElem_cons_zero, List.setIfInBounds_toArray, List.set_cons_zero, List.set_cons_succ]
          refine wpAnyH_take (i := 11) (v := .slice Ap mp cp) rfl (by kernel_rfl) (by kernel_rfl) (by kernel_rfl) (fun _ _ _ h => h) (Or.inl ⟨by kernel_rfl, by (intro w hSw; (try dsimp only at hSw); go_simp)⟩) hHeld ?_
          try simp only [Act.put, List.getElem_toArray, List.getElem_cons_succ, List.getElem_cons_zero, List.setIfInBounds_toArray, List.set_cons_zero, List.set_cons_succ]
          refine wpAnyH_done (by kernel_rfl) ?_ _
          go_wp2
          go_roundg (l.length - (k + 1))
          case measure => have := hg.out; omega
          case rel => exact ⟨k + 1, rfl, NV.tight (NV.mk hDp hNp hvp (Nat.le_refl _)) hlt.out, hk, rfl, hall, hbel.trans (hB.mono hbel.size)⟩
        refine AllReadyH.cons rfl (fun K hK => ?_) AllReadyH.nil
        go_simp
        refine hK.out _ _ ?_ (fun hHeld => ?_)
        · trivial
        clear hK K
        try simp only [Act.put, List.getElem_toArray, List.getElem_cons_succ, List.getElem_cons_zero, List.setIfInBounds_toArray, List.set_cons_zero, List.set_cons_succ]
        have hE := Dg.lit1 .u32 wr.drew 63 d hokd
        have hal := (Below.refl (wr.drew : World).heap.size wr.drew).alloc (Nat.le_refl _) (.cells #[.int .u32 ((d : Int))] 63)
        have hD3 := hD3.below hal
        have hB := hB.trans (hal.mono hB.size)
        refine wpAnyH_ready (rs := [1]) (by kernel_rfl) (by simp) ?_
        refine AllReadyH.cons rfl (fun K hK => ?_) AllReadyH.nil
        go_simp
        refine hK.out _ _ ?_ (fun hHeld => ?_)
        · trivial
        clear hK K
        try simp only [Act.put, List.getElem_toArray, List.getElem_cons_succ, List.getElem_cons_zero, List.setIfInBounds_toArray, List.set_cons_zero, List.set_cons_succ]
        have h10 : Dg .u32 ((wr.drew.alloc (.cells #[.int .u32 ((d : Int))] 63)).alloc (.cells #[.int .u32 ((10 : Nat) : Int)] 63)) (some ⟨wr.heap.size + 1, 0, none⟩) 1 1 [10] := by have h9 := Dg.lit1 .u32 (wr.drew.alloc (.cells #[.int .u32 ((d : Int))] 63)) 63 10 hok10; rw [World.size_alloc] at h9; exact h9
        have hal := (Below.refl ((wr.drew.alloc (.cells #[.int .u32 ((d : Int))] 63)) : World).heap.size (wr.drew.alloc (.cells #[.int .u32 ((d : Int))] 63))).alloc (Nat.le_refl _) (.cells #[.int .u32 (10)] 63)
        have hD3 := hD3.below hal
        have hE := hE.below hal
        have hB := hB.trans (hal.mono hB.size)
        refine wpAnyH_ready (rs := [2]) (by kernel_rfl) (by simp) ?_
        refine AllReadyH.cons rfl (fun K hK => ?_) AllReadyH.nil
        go_simp
        refine (times_any _ _ _ _ _ _ us3 [10] _ hD3 h10 (by omega) (by decide)).mono ?_
        rintro e v3 ⟨At, mt, ct, ut, rfl, hDt, hNt, hvt, hmt, hbt⟩
        rw [hv3.out, hv10.out] at hvt
        have hD3 := hD3.below hbt
        have hE := hE.below hbt
        have h10 := h10.below hbt
        have hB := hB.trans (hbt.mono hB.size)
        go_wp2_with fail
        refine hK.out _ _ ?_ (fun hHeld => ?_)
        · trivial
        clear hK K
        try simp only [Act.put, List.getElem_toArray, List.getElem_cons_succ, List.getElem_cons_zero, List.setIfInBounds_toArray, List.set_cons_zero, List.set_cons_succ]
        refine wpAnyH_ready (rs := [9]) (by kernel_rfl) (by simp) ?_
        refine AllReadyH.cons rfl (fun K hK => ?_) AllReadyH.nil
        go_simp
        refine (trim_any _ _ _ _ _ hE).mono ?_
        rintro e v4 ⟨rfl, hwt⟩
        obtain rfl := hwt
        have hF := hE.tr
        go_wp2_with fail
        refine hK.out _ _ ?_ (fun hHeld => ?_)
        · trivial
        clear hK K
        try simp only [Act.put, List.getElem_toArray, List.getElem_cons_succ, List.getElem_cons_zero, List.setIfInBounds_toArray, List.set_cons_zero, List.set_cons_succ]
        refine wpAnyH_ready (rs := [10]) (by kernel_rfl) (by simp) ?_
        refine AllReadyH.cons rfl (fun K hK => ?_) AllReadyH.nil
        go_simp
        refine (plus_any _ _ _ _ _ _ ut (tr [d]) _ hDt hF (by omega) (by have := tl_le [d]; simp at this; omega)).mono ?_
        rintro e v5 ⟨Ap, mp, cp, up, rfl, hDp, hNp, hvp, hmp, hbp⟩
        rw [hvt.out, vl_tr, hvd.out, ← hst.out] at hvp
        have hB := hB.trans (hbp.mono hB.size)
        go_wp2_with fail
        refine hK.out _ _ ?_ (fun hHeld => ?_)
        · trivial
        clear hK K
        try simp only [Act.put, List.getElem_toArray, List.getElem_cons_succ, List.getElem_cons_zero, List.setIfInBounds_toArray, List.set_cons_zero, List.set_cons_succ]
        refine wpAnyH_take (i := 11) (v := .slice Ap mp cp) rfl (by kernel_rfl) (by kernel_rfl) (by kernel_rfl) (fun _ _ _ h => h) (Or.inl ⟨by kernel_rfl, by (intro w hSw; (try dsimp only at hSw); go_simp)⟩) hHeld ?_
        try simp only [Act.put, List.getElem_toArray, List.getElem_cons_succ, List.getElem_cons_zero, List.setIfInBounds_toArray, List.set_cons_zero, List.set_cons_succ]
        refine wpAnyH_done (by kernel_rfl) ?_ _
        go_wp2
        go_roundg (l.length - (k + 1))
        case measure => have := hg.out; omega
        case rel => exact ⟨k + 1, rfl, NV.tight (NV.mk hDp hNp hvp (Nat.le_refl _)) hlt.out, hk, rfl, hall, hbel.trans (hB.mono hbel.size)⟩
      · have hbad := Lib.hid (all_false hk hdg)
        have hd2 := hdg
        simp only [dgt, Bool.and_eq_true, decide_eq_true_eq] at hd2
        rw [hbe] at hd2
        have hf2 : Hid (false = (l.all dgt && decide (0 < l.length))) := by show _ = _; rw [hbad.out]; rfl
        have hf3 : NV .u32 wr (.slice none 0 0) (if l.all dgt then dval l else 0) l.length := by rw [hbad.out]; exact NV.mk (Dg.nil _ _) Nrm.nil rfl (Nat.zero_le _)
        clear hdg hbe
        by_cases h48 : b < 48
        · have e3 : decide ((b : Int) < 48) = true := decide_eq_true (by omega)
          go_wp2
          go_ret2
          exact ⟨_, _, rfl, hf2, hf3, hbel⟩
        · have e3 : decide ((b : Int) < 48) = false := decide_eq_false (by omega)
          have e4 : decide ((57 : Int) < (b : Int)) = true := decide_eq_true (by omega)
          go_wp2
          go_ret2
          exact ⟨_, _, rfl, hf2, hf3, hbel⟩
    · obtain rfl : k = l.length := by omega
      have ha := hal.out
      rw [List.take_length] at ha hv3
      have hfin : Hid (decide (0 < l.length) = (l.all dgt && decide (0 < l.length))) := by show _ = _; rw [ha, Bool.true_and]
      have hnv : NV .u32 wr (.slice A3 m3 c3) (if l.all dgt then dval l else 0) l.length := by rw [ha, if_pos rfl]; exact NV.mk hD3 hN3 hv3 hm3
      clear hal ha hv3
      go_wp2
      go_ret2
      exact ⟨_, _, rfl, by first | exact hfin | (show _ = _; rw [← hfin.out]; simp), hnv, hbel⟩
end Go.Proofs.YtbgihlfblmilmaaGreatDoor.Fr

/- A string cut at its first period or slash: the document's way to read a number, and the program's. -/
namespace Go.Proofs.YtbgihlfblmilmaaGreatDoor.Fr
open Go.RowKit Num

def sep (b : UInt8) : Bool := b == 46 || b == 47
/-- where the first period or slash stands, from i on; the length if there is none -/
def fsp (l : List UInt8) (i : Nat) : Nat := i + (l.drop i).findIdx sep
theorem fsp_end (l : List UInt8) : fsp l l.length = l.length := by unfold fsp; rw [List.drop_length]; rfl
theorem fsp_step {l : List UInt8} {i : Nat} (h : i < l.length) : fsp l i = if sep (l[i]'h) then i else fsp l (i + 1) := by
  unfold fsp
  rw [List.drop_eq_getElem_cons h, List.findIdx_cons]
  cases sep (l[i]'h) <;> simp <;> omega
theorem fsp_le (l : List UInt8) : fsp l 0 ≤ l.length := by
  unfold fsp; rw [List.drop_zero, Nat.zero_add]; exact List.findIdx_le_length
theorem fsp_le_at {l : List UInt8} {i : Nat} (h : i ≤ l.length) : fsp l i ≤ l.length := by
  unfold fsp
  have := List.findIdx_le_length (xs := l.drop i) (p := sep)
  rw [List.length_drop] at this
  omega
theorem fsp_not {l : List UInt8} {j : Nat} (h : j < fsp l 0) (hj : j < l.length) : sep (l[j]'hj) = false := by
  unfold fsp at h
  rw [List.drop_zero, Nat.zero_add] at h
  have := List.not_of_lt_findIdx h
  simpa using this
theorem fsp_is {l : List UInt8} (h : fsp l 0 < l.length) : sep (l[fsp l 0]'h) = true := by
  unfold fsp at h ⊢
  simp only [List.drop_zero, Nat.zero_add] at h ⊢
  exact List.findIdx_getElem
/-- what a string without a sign says: numerator, denominator, and whether it is a number -/
def psr (l : List UInt8) : Nat × Nat × Bool :=
  if fsp l 0 = l.length then (dv l, 1, okd l)
  else if l.getD (fsp l 0) 0 = 47 then (dv (l.take (fsp l 0)), dv (l.drop (fsp l 0 + 1)), okd (l.take (fsp l 0)) && okd (l.drop (fsp l 0 + 1)))
  else (dv (l.take (fsp l 0)) * 10 ^ (l.length - fsp l 0 - 1) + dv (l.drop (fsp l 0 + 1)), 10 ^ (l.length - fsp l 0 - 1), okd (l.take (fsp l 0)) && okd (l.drop (fsp l 0 + 1)))

theorem pre_one (c : UInt8) (m : List UInt8) : [c].isPrefixOf m = true ↔ m[0]? = some c := by
  cases m with
  | nil => simp [List.isPrefixOf]
  | cons a m =>
    show (c == a && true) = true ↔ some a = some c
    rw [Bool.and_true, beq_iff_eq]
    exact ⟨fun h => by rw [h], fun h => by injection h with h; exact h.symm⟩
theorem occ_one {l : List UInt8} {c : UInt8} {j : Nat} : Lib.occAt l [c] j = true ↔ l[j]? = some c := by
  have h : Lib.occAt l [c] j = [c].isPrefixOf (l.drop j) := rfl
  rw [h, pre_one, List.getElem?_drop, Nat.add_zero]
theorem cut_at {l : List UInt8} {c : UInt8} {j : Nat} (h : l[j]? = some c) (hn : ∀ i : Nat, i < j → l[i]? ≠ some c) : Lib.cut l [c] = (l.take j, l.drop (j + 1), true) := by
  have hj : j < l.length := by
    rcases Nat.lt_or_ge j l.length with h1 | h1
    · exact h1
    · rw [List.getElem?_eq_none h1] at h; cases h
  unfold Lib.cut
  rcases Lib.index_spec l [c] with ⟨_, h2⟩ | ⟨i, h1, h2, h3, h4⟩
  · have := h2 j (by omega)
    rw [(occ_one).2 h] at this
    cases this
  · have h5 := occ_one.1 h3
    have hij : i = j := by
      rcases Nat.lt_trichotomy i j with h6 | h6 | h6
      · exact absurd h5 (hn i h6)
      · exact h6
      · have h7 := h4 j h6
        rw [(occ_one).2 h] at h7
        cases h7
    subst hij
    rw [h1, if_pos (by omega), Int.toNat_natCast]
    rfl
theorem cut_none {l : List UInt8} {c : UInt8} (h : ∀ i : Nat, l[i]? ≠ some c) : Lib.cut l [c] = (l, [], false) := by
  unfold Lib.cut
  rcases Lib.index_spec l [c] with ⟨h1, _⟩ | ⟨i, h1, h2, h3, h4⟩
  · rw [h1, if_neg (by decide)]
  · exact absurd (occ_one.1 h3) (h i)
theorem okd_iff {l : List UInt8} : okd l = true ↔ l.all dgt = true ∧ 0 < l.length := by
  unfold okd; rw [Bool.and_eq_true, decide_eq_true_eq]
theorem not_okd {l : List UInt8} {j : Nat} {b : UInt8} (h : l[j]? = some b) (hb : dgt b = false) : okd l = false := by
  cases h2 : okd l with
  | false => rfl
  | true =>
    have h3 := List.all_eq_true.1 (okd_iff.1 h2).1 b (List.mem_of_getElem? h)
    rw [hb] at h3
    cases h3
theorem dv_app {l m : List UInt8} (h1 : l.all dgt = true) (h2 : m.all dgt = true) : dv (l ++ m) = dv l * 10 ^ m.length + dv m := by
  unfold dv
  rw [List.all_append, h1, h2, Bool.and_self, if_pos rfl, if_pos rfl, if_pos rfl, dval_app]

theorem psz_psr (l : List UInt8) : (psz l).2.2 = (psr l).2.2 ∧ ((psr l).2.2 = true → psz l = psr l) := by
  have hle := fsp_le l
  by_cases h0 : fsp l 0 = l.length
  · have hno : ∀ (c : UInt8), sep c = true → ∀ i : Nat, l[i]? ≠ some c := by
      intro c hc i hi
      have hil : i < l.length := by
        rcases Nat.lt_or_ge i l.length with h | h
        · exact h
        · rw [List.getElem?_eq_none h] at hi; cases hi
      have h1 := fsp_not (by omega : i < fsp l 0) hil
      rw [List.getElem?_eq_getElem hil] at hi
      injection hi with hi
      rw [hi, hc] at h1
      cases h1
    have e1 := cut_none (hno 47 rfl)
    have e2 := cut_none (hno 46 rfl)
    have e : psz l = psr l := by
      unfold psz psr
      rw [e1, e2, if_pos h0]
      simp
    exact ⟨by rw [e], fun _ => e⟩
  · have hlt : fsp l 0 < l.length := by omega
    have his := fsp_is hlt
    have hget : l[fsp l 0]? = some (l[fsp l 0]'hlt) := List.getElem?_eq_getElem hlt
    have hgd : l.getD (fsp l 0) 0 = l[fsp l 0]'hlt := by rw [List.getD_eq_getElem?_getD, hget]; rfl
    have hbef : ∀ (c : UInt8), sep c = true → ∀ i : Nat, i < fsp l 0 → l[i]? ≠ some c := by
      intro c hc i hi he
      have h1 := fsp_not hi (by omega : i < l.length)
      rw [List.getElem?_eq_getElem (by omega)] at he
      injection he with he
      rw [he, hc] at h1
      cases h1
    by_cases h47 : l[fsp l 0]'hlt = 47
    · have e1 := cut_at (c := 47) (by rw [hget, h47]) (hbef 47 rfl)
      have e : psz l = psr l := by
        unfold psz psr
        rw [e1, if_neg h0, hgd, if_pos h47]
        simp
      exact ⟨by rw [e], fun _ => e⟩
    · have h46 : l[fsp l 0]'hlt = 46 := by
        unfold sep at his
        simp only [Bool.or_eq_true, beq_iff_eq] at his
        rcases his with h | h
        · exact h
        · exact absurd h h47
      have e2 := cut_at (c := 46) (by rw [hget, h46]) (hbef 46 rfl)
      have hr : psr l = (dv (l.take (fsp l 0)) * 10 ^ (l.length - fsp l 0 - 1) + dv (l.drop (fsp l 0 + 1)), 10 ^ (l.length - fsp l 0 - 1), okd (l.take (fsp l 0)) && okd (l.drop (fsp l 0 + 1))) := by
        unfold psr; rw [if_neg h0, hgd, if_neg h47]
      by_cases hs : ∃ i : Nat, l[i]? = some 47
      · -- a slash behind the period: no number for either
        have hmin : ∃ j : Nat, l[j]? = some 47 ∧ ∀ i : Nat, i < j → l[i]? ≠ some 47 := by
          obtain ⟨i, hi⟩ := hs
          induction i using Nat.strongRecOn with
          | ind i ih =>
            by_cases h : ∃ k : Nat, k < i ∧ l[k]? = some 47
            · obtain ⟨k, hk, hk2⟩ := h
              exact ih k hk hk2
            · exact ⟨i, hi, fun k hk he => h ⟨k, hk, he⟩⟩
        obtain ⟨j, hj, hjm⟩ := hmin
        have hjl : fsp l 0 < j := by
          rcases Nat.lt_trichotomy j (fsp l 0) with h | h | h
          · exact absurd hj (hbef 47 rfl j h)
          · rw [h, hget, h46] at hj; exact absurd hj (by decide)
          · exact h
        have e1 := cut_at hj hjm
        have b1 : okd (l.take j) = false := by
          refine not_okd (j := fsp l 0) (b := 46) ?_ rfl
          rw [List.getElem?_take, if_pos hjl, hget, h46]
        have b2 : okd (l.drop (fsp l 0 + 1)) = false := by
          refine not_okd (j := j - (fsp l 0 + 1)) (b := 47) ?_ rfl
          rw [List.getElem?_drop, show fsp l 0 + 1 + (j - (fsp l 0 + 1)) = j by omega, hj]
        have z1 : (psz l).2.2 = false := by
          unfold psz; rw [e1]; simp [b1]
        have z2 : (psr l).2.2 = false := by rw [hr]; simp [b2]
        exact ⟨by rw [z1, z2], fun h => by rw [z2] at h; cases h⟩
      · have e1 := cut_none (l := l) (c := 47) (fun i hi => hs ⟨i, hi⟩)
        have hz : psz l = (dv (l.take (fsp l 0) ++ l.drop (fsp l 0 + 1)), 10 ^ (l.drop (fsp l 0 + 1)).length, okd (l.take (fsp l 0) ++ l.drop (fsp l 0 + 1)) && decide (0 < (l.take (fsp l 0)).length) && decide (0 < (l.drop (fsp l 0 + 1)).length)) := by
          unfold psz; rw [e1, e2]; simp
        have hlen : (l.drop (fsp l 0 + 1)).length = l.length - fsp l 0 - 1 := by rw [List.length_drop]; omega
        rw [hz, hr]
        generalize l.take (fsp l 0) = a at *
        generalize l.drop (fsp l 0 + 1) = b at *
        have hb : (okd (a ++ b) && decide (0 < a.length) && decide (0 < b.length)) = (okd a && okd b) := by
          unfold okd
          rw [List.all_append, List.length_append]
          cases a.all dgt <;> cases b.all dgt <;> cases a <;> cases b <;> simp <;> omega
        refine ⟨hb, fun h => ?_⟩
        have h1 : okd a = true ∧ okd b = true := by
          have : (okd a && okd b) = true := h
          rwa [Bool.and_eq_true] at this
        rw [hb, hlen, dv_app (okd_iff.1 h1.1).1 (okd_iff.1 h1.2).1, hlen]
end Go.Proofs.YtbgihlfblmilmaaGreatDoor.Fr

/- A number's string is read back as the number. -/
namespace Go.Proofs.YtbgihlfblmilmaaGreatDoor.Fr
open Go.RowKit Num

theorem dgt_of {k : Nat} (h : k < 10) : dgt (UInt8.ofNat (48 + k)) = true := by
  unfold dgt
  rw [UInt8.toNat_ofNat', Nat.mod_eq_of_lt (by omega)]
  simp; omega
theorem dgt_nat {k : Nat} (h : k < 10) : (UInt8.ofNat (48 + k)).toNat - 48 = k := by
  rw [UInt8.toNat_ofNat', Nat.mod_eq_of_lt (by omega)]; omega
theorem dec_read : ∀ (k u : Nat), u < 10 ^ k → (Lib.decDigits u).all dgt = true ∧ dval (Lib.decDigits u) = u ∧ 0 < (Lib.decDigits u).length
  | 0, u, h => by
    obtain rfl : u = 0 := by simpa using h
    rw [Lib.decDigits_one (by decide)]
    decide
  | k + 1, u, h => by
    rw [Lib.decDigits]
    by_cases h10 : u < 10
    · rw [dif_pos h10]
      refine ⟨by rw [List.all_cons, dgt_of h10]; rfl, ?_, by simp⟩
      show 10 * 0 + ((UInt8.ofNat (48 + u)).toNat - 48) = u
      rw [dgt_nat h10]; omega
    · rw [dif_neg h10]
      obtain ⟨h1, h2, h3⟩ := dec_read k (u / 10) (by rw [Nat.pow_succ] at h; omega)
      refine ⟨by rw [List.all_append, h1, List.all_cons, dgt_of (by omega)]; rfl, ?_, by rw [List.length_append]; omega⟩
      rw [dval_snoc, h2, dgt_nat (by omega)]; omega
theorem lt_ten_pow (u : Nat) : u < 10 ^ u := Nat.lt_pow_self (by decide)
theorem dec_all (u : Nat) : (Lib.decDigits u).all dgt = true := (dec_read u u (lt_ten_pow u)).1
theorem dec_val (u : Nat) : dval (Lib.decDigits u) = u := (dec_read u u (lt_ten_pow u)).2.1
theorem dec_pos (u : Nat) : 0 < (Lib.decDigits u).length := (dec_read u u (lt_ten_pow u)).2.2
theorem dv_dec (u : Nat) : dv (Lib.decDigits u) = u := by unfold dv; rw [if_pos (dec_all u), dec_val]
theorem okd_dec (u : Nat) : okd (Lib.decDigits u) = true := okd_iff.2 ⟨dec_all u, dec_pos u⟩
/-- digits hold no other byte -/
theorem all_ne {l : List UInt8} (h : l.all dgt = true) {c : UInt8} (hc : dgt c = false) (i : Nat) : l[i]? ≠ some c := by
  intro he
  have := List.all_eq_true.1 h c (List.mem_of_getElem? he)
  rw [hc] at this
  cases this
theorem has_pre (b : UInt8) (l : List UInt8) : Lib.hasPrefix l [b] = decide (l[0]? = some b) := by
  unfold Lib.hasPrefix
  cases h : [b].isPrefixOf l with
  | true => rw [decide_eq_true ((pre_one b l).1 h)]
  | false => rw [decide_eq_false (fun h2 => by rw [(pre_one b l).2 h2] at h; cases h)]
theorem trim_not {l : List UInt8} (h : l[0]? ≠ some 45) : Lib.hasPrefix l [45] = false ∧ Lib.trimPrefix l [45] = l := by
  have h1 : Lib.hasPrefix l [45] = false := by rw [has_pre]; exact decide_eq_false h
  refine ⟨h1, ?_⟩
  unfold Lib.trimPrefix
  rw [h1]; rfl
theorem trim_is (l : List UInt8) : Lib.hasPrefix (45 :: l) [45] = true ∧ Lib.trimPrefix (45 :: l) [45] = l := by
  have h1 : Lib.hasPrefix (45 :: l) [45] = true := by rw [has_pre]; exact decide_eq_true rfl
  refine ⟨h1, ?_⟩
  unfold Lib.trimPrefix
  rw [h1]; rfl
/-- a sign ahead of a string that begins with no sign -/
theorem signed_trim (s : Bool) (m : List UInt8) (h : m[0]? ≠ some 45) : Lib.hasPrefix ((if s then [45] else []) ++ m) [45] = s ∧ Lib.trimPrefix ((if s then [45] else []) ++ m) [45] = m := by
  cases s with
  | true => exact trim_is m
  | false => exact trim_not h

theorem psz_text (n d : Nat) : psz (Lib.decDigits n ++ (if d = 1 then [] else 47 :: Lib.decDigits d)) = (n, d, true) := by
  by_cases h1 : d = 1
  · subst h1
    rw [if_pos rfl, List.append_nil]
    unfold psz
    rw [cut_none (all_ne (dec_all n) (by decide)), cut_none (all_ne (dec_all n) (by decide)), dv_dec, okd_dec]
    rfl
  · rw [if_neg h1]
    have e := cut_at (l := Lib.decDigits n ++ 47 :: Lib.decDigits d) (c := 47) (j := (Lib.decDigits n).length) (by rw [List.getElem?_append_right (Nat.le_refl _), Nat.sub_self]; rfl) (fun i hi => by
      rw [List.getElem?_append_left hi]; exact all_ne (dec_all n) (by decide) i)
    have e1 : (Lib.decDigits n ++ 47 :: Lib.decDigits d).take (Lib.decDigits n).length = Lib.decDigits n := by rw [List.take_append_of_le_length (Nat.le_refl _), List.take_length]
    have e2 : (Lib.decDigits n ++ 47 :: Lib.decDigits d).drop ((Lib.decDigits n).length + 1) = Lib.decDigits d := by
      rw [List.drop_append, List.drop_eq_nil_of_le (by omega), show (Lib.decDigits n).length + 1 - (Lib.decDigits n).length = 1 by omega]; rfl
    rw [e1, e2] at e
    unfold psz
    rw [e]
    simp only [if_true, dv_dec, okd_dec, Bool.and_self]
theorem txt_read (q : Rat) (hl : (txt q).length ≤ 10000) : pre (txt q) = 0 ∧ prq (txt q) = q := by
  have h0 : (Lib.decDigits q.num.natAbs ++ (if q.den = 1 then [] else 47 :: Lib.decDigits q.den))[0]? ≠ some 45 := by
    rw [List.getElem?_append_left (dec_pos _)]
    exact all_ne (dec_all _) (by decide) 0
  have ht : txt q = (if decide (q.num < 0) = true then [45] else []) ++ (Lib.decDigits q.num.natAbs ++ (if q.den = 1 then [] else 47 :: Lib.decDigits q.den)) := by
    unfold txt; rw [List.append_assoc]; simp
  obtain ⟨h1, h2⟩ := signed_trim (decide (q.num < 0)) _ h0
  rw [← ht] at h1 h2
  have h3 := psz_text q.num.natAbs q.den
  have hp : pre (txt q) = 0 := by
    unfold pre
    rw [if_neg (by omega), h2, h3, if_neg (by simp), if_neg (show ¬ q.den = 0 from q.den_nz)]
  refine ⟨hp, ?_⟩
  unfold prq
  rw [if_pos hp, h1, h2, h3]
  exact fq_self q
theorem ParseTextQ (q : Rat) (w : World) (hl : (txt q).length ≤ 10000) (hG : Gl w) :
    Calls Tryz.prog 64 #[.string ⟨(txt q).toArray⟩] w (RetFE w q 40002 0) := by
  have h := ParseQ (txt q) w (by omega) hG
  rw [(txt_read q hl).1, (txt_read q hl).2] at h
  exact h
theorem AF.small {w : World} {v : Value} {q : Rat} {L : Nat} (h : AF w v q L) : q.num.natAbs < bs .u32 ^ (L + 1) ∧ q.den < bs .u32 ^ (L + 1) := by
  obtain ⟨s, A, n, c, A', n', c', xs, ys, rfl, d1, d2, h1, h2, h3⟩ := h
  rw [← h3.out, fq_abs (dn_pos' _), fq_den (dn_pos' _)]
  have k1 := vl_lt d1.ok
  have k2 := vl_lt d2.ok
  rw [d1.len] at k1
  rw [d2.len] at k2
  have m1 : bs .u32 ^ n ≤ bs .u32 ^ (L + 1) := Nat.pow_le_pow_right (by decide) (by omega)
  have m2 : dn (vl (bs .u32) ys) < bs .u32 ^ (L + 1) := dn_lt32 (bs .u32) (by decide) k2 (by omega)
  exact ⟨Nat.lt_of_le_of_lt (Nat.div_le_self _ _) (Nat.lt_of_lt_of_le k1 m1), Nat.lt_of_le_of_lt (Nat.div_le_self _ _) m2⟩
theorem txt_len {w : World} {v : Value} {q : Rat} {L : Nat} (h : AF w v q L) : (txt q).length ≤ 20 * L + 22 := by
  have h1 := dec_len32 h.small.1
  have h2 := dec_len32 h.small.2
  unfold txt
  rw [List.length_append, List.length_append]
  have h3 : (if q.num < 0 then [45] else [] : List UInt8).length ≤ 1 := by split <;> simp
  have h4 : (if q.den = 1 then [] else 47 :: Lib.decDigits q.den).length ≤ 10 * L + 11 := by
    split
    · simp
    · rw [List.length_cons]; omega
  omega
end Go.Proofs.YtbgihlfblmilmaaGreatDoor.Fr

/- A string read as a number, by the document. -/
namespace Go.Proofs.YtbgihlfblmilmaaGreatDoor.Fr
open Go.RowKit Num

theorem sep_not {b : UInt8} {x : Nat} (hx : b.toNat = x) (h1 : ¬ x = 46) (h2 : ¬ x = 47) : sep b = false := by
  unfold sep
  rw [Bool.or_eq_false_iff, beq_eq_false_iff_ne, beq_eq_false_iff_ne]
  exact ⟨fun h => by rw [h] at hx; exact h1 hx.symm, fun h => by rw [h] at hx; exact h2 hx.symm⟩
theorem sep_yes {b : UInt8} {x : Nat} (hx : b.toNat = x) (h : x = 46 ∨ x = 47) : sep b = true := by
  have : b = UInt8.ofNat x := by rw [← hx]; exact (UInt8.ofNat_toNat).symm
  subst this
  rcases h with rfl | rfl <;> rfl
/-- what the string says, with its sign: the error and the number -/
def pe (m : List UInt8) : Int := if (psr m).2.2 = false then 4 else if (psr m).2.1 = 0 then 3 else 0
def pq (s : Bool) (m : List UInt8) : Rat := if pe m = 0 then fq s (psr m).1 (psr m).2.1 else 0
theorem pre_pe {l m : List UInt8} (hl : l.length ≤ 10000) (hm : Lib.trimPrefix l [45] = m) : pre l = pe m := by
  unfold pre pe
  rw [if_neg (by omega), hm]
  obtain ⟨h1, h2⟩ := psz_psr m
  rw [h1]
  cases h3 : (psr m).2.2 with
  | false => rfl
  | true => rw [h2 h3]
theorem prq_pq {l m : List UInt8} {s : Bool} (hl : l.length ≤ 10000) (hm : Lib.trimPrefix l [45] = m) (hs : Lib.hasPrefix l [45] = s) : prq l = pq s m := by
  unfold prq pq
  rw [pre_pe hl hm, hs, hm]
  by_cases h0 : pe m = 0
  · rw [if_pos h0, if_pos h0]
    have h3 : (psr m).2.2 = true := by
      cases h3 : (psr m).2.2 with
      | true => rfl
      | false => unfold pe at h0; rw [h3] at h0; simp at h0
    rw [(psz_psr m).2 h3]
  · rw [if_neg h0, if_neg h0]
/-- the first period or slash is at c: what the three ways say -/
theorem psr_whole {m : List UInt8} (h : fsp m 0 = m.length) : psr m = (dv m, 1, okd m) := by unfold psr; rw [if_pos h]
theorem psr_slash {m : List UInt8} (h : ¬ fsp m 0 = m.length) (hc : m.getD (fsp m 0) 0 = 47) : psr m = (dv (m.take (fsp m 0)), dv (m.drop (fsp m 0 + 1)), okd (m.take (fsp m 0)) && okd (m.drop (fsp m 0 + 1))) := by unfold psr; rw [if_neg h, if_pos hc]
theorem psr_point {m : List UInt8} (h : ¬ fsp m 0 = m.length) (hc : ¬ m.getD (fsp m 0) 0 = 47) : psr m = (dv (m.take (fsp m 0)) * 10 ^ (m.length - fsp m 0 - 1) + dv (m.drop (fsp m 0 + 1)), 10 ^ (m.length - fsp m 0 - 1), okd (m.take (fsp m 0)) && okd (m.drop (fsp m 0 + 1))) := by unfold psr; rw [if_neg h, if_neg hc]
theorem psr_front {m : List UInt8} (h : okd (m.take (fsp m 0)) = false) : (psr m).2.2 = false := by
  by_cases h0 : fsp m 0 = m.length
  · rw [psr_whole h0]
    rw [h0, List.take_length] at h
    exact h
  · by_cases hc : m.getD (fsp m 0) 0 = 47
    · rw [psr_slash h0 hc]; show (_ && _) = _; rw [h]; rfl
    · rw [psr_point h0 hc]; show (_ && _) = _; rw [h]; rfl
theorem psr_back {m : List UInt8} (h0 : ¬ fsp m 0 = m.length) (h : okd (m.drop (fsp m 0 + 1)) = false) : (psr m).2.2 = false := by
  by_cases hc : m.getD (fsp m 0) 0 = 47
  · rw [psr_slash h0 hc]; show (_ && _) = _; rw [h, Bool.and_false]
  · rw [psr_point h0 hc]; show (_ && _) = _; rw [h, Bool.and_false]
theorem pe_bad {m : List UInt8} (h : (psr m).2.2 = false) (s : Bool) : pe m = 4 ∧ pq s m = 0 := by
  have h1 : pe m = 4 := by unfold pe; rw [h]; rfl
  exact ⟨h1, by unfold pq; rw [h1]; rfl⟩
theorem pe_zero {m : List UInt8} (h : (psr m).2.2 = true) (hd : (psr m).2.1 = 0) (s : Bool) : pe m = 3 ∧ pq s m = 0 := by
  have h1 : pe m = 3 := by unfold pe; rw [h, hd]; rfl
  exact ⟨h1, by unfold pq; rw [h1]; rfl⟩
theorem pe_ok {m : List UInt8} {n d : Nat} (h : psr m = (n, d, true)) (hd : 0 < d) (s : Bool) : pe m = 0 ∧ pq s m = fq s n d := by
  have h1 : pe m = 0 := by unfold pe; rw [h]; simp; omega
  exact ⟨h1, by unfold pq; rw [h1, h]; rfl⟩
theorem getD_toNat {m : List UInt8} {k x : Nat} (hk : k < m.length) (hx : (m[k]'hk).toNat = x) (c : Nat) (hc : c < 256) : m.getD k 0 = UInt8.ofNat c ↔ x = c := by
  rw [List.getD_eq_getElem?_getD, List.getElem?_eq_getElem hk, Option.getD_some]
  constructor
  · intro h; rw [← hx, h, UInt8.toNat_ofNat', Nat.mod_eq_of_lt hc]
  · intro h; rw [← h, ← hx]; exact (UInt8.ofNat_toNat).symm
theorem ten_fq (q : Rat) (hq : q = 10) (k : Nat) : (q ^ k).num.natAbs = 10 ^ k := by
  subst hq
  have : ((10 : Rat) ^ k) = (((10 ^ k : Nat) : Int) : Rat) := by
    rw [Rat.intCast_natCast, Rat.natCast_pow]; rfl
  rw [this, Rat.num_intCast]; simp

set_option linter.unusedSimpArgs false in
set_option maxHeartbeats 12800000 in
set_option maxRecDepth 100000 in
theorem refParse_neg (m : List UInt8) (w : World) (hl : (45 :: m).length ≤ 1000) :
    Calls Tryz.prog 68 #[.string ⟨(45 :: m).toArray⟩] w (RetFE w (pq true m) 4000 (pe m)) := by
  have B := Blk.new w 24 #[.bool false, .slice none 0 0, .slice none 0 0]
  have hw0 := (Below.refl w.heap.size w).alloc (Nat.le_refl _) (.cells #[.bool false, .slice none 0 0, .slice none 0 0] 24)
  have hml : m.length ≤ 1000 := by rw [List.length_cons] at hl; omega
  have d1 : decide ((10000 : Int) < (m.length : Int) + 1) = false := decide_eq_false (by omega)
  have hb0 : ((⟨(45 :: m).toArray⟩ : ByteArray)[0]'(Nat.succ_pos _)).toNat = 45 := rfl
  have hsl : ∀ W, (Instr.slice 9 (.string ⟨(45 :: m).toArray⟩) (some (.int .i64 1)) none none).run Tryz.prog W = .ok (.string ⟨m.toArray⟩) W := fun W => slice_from (45 :: m) 1 (by simp) W
  go_enter Tryz.func68, Tryz.ntmps68
  go_upto_region 1 with fail
  generalize w.alloc (.cells #[.bool false, .slice none 0 0, .slice none 0 0] 24) = w1 at *
  go_wp2
  go_loopw [5, 6] (fun cv iv wr => ∃ k : Nat, iv = .int .i64 ((k : Int) - 1) ∧ k ≤ m.length ∧ cv = .int .i64 ((fsp m k : Nat) : Int) ∧ Blk wr w.heap.size 24 #[.bool false, .slice none 0 0, .slice none 0 0] ∧ Below w.heap.size w wr) (fun _ i _ => (intOf i + 1).toNat)
  case atStart => exact ⟨m.length, rfl, Nat.le_refl _, by rw [fsp_end], B, hw0⟩
  case round =>
    clear B hw0
    obtain ⟨k, hi, hkm, rfl, B, hw0⟩ := hrel
    rcases idx_cases hi with ⟨rfl, rfl⟩ | ⟨j, rfl, rfl⟩
    · clear hi
      have hcl := fsp_le m
      have hfr := fun h => pe_bad (psr_front (m := m) h) true
      have hbk := fun h0 h => pe_bad (psr_back (m := m) h0 h) true
      have hpw := fun h => psr_whole (m := m) h
      have hps := fun h h2 => psr_slash (m := m) h h2
      have hpp := fun h h2 => psr_point (m := m) h h2
      obtain ⟨c, hc⟩ : ∃ c, fsp m 0 = c := ⟨_, rfl⟩
      rw [hc] at hcl hfr hbk hpw hps hpp
      rw [hc]
      clear hc
      have hfr := Lib.hid hfr
      have hbk := Lib.hid hbk
      have hpw := Lib.hid hpw
      have hps := Lib.hid hps
      have hpp := Lib.hid hpp
      have hs1 := Lib.hid (slice_to m c hcl)
      have hs1' := hs1.out
      obtain ⟨fr, hfre⟩ : ∃ l, m.take c = l := ⟨_, rfl⟩
      have hfl : fr.length ≤ 1000 := by rw [← hfre, List.length_take]; omega
      rw [hfre] at hs1'
      have hfre := Lib.hid hfre
      clear hs1
      go_wp2_with fail
      refine (numberB fr _ (by omega)).mono ?_
      rintro e w2 ⟨v1, b1, rfl, hb1, ⟨A1, m1, c1, u1, rfl, hD1, hN1, hx1, hm1⟩, hbb⟩
      clear hs1'
      have C := B.below hbb
      have hw2 := hw0.trans (hbb.mono hw0.size)
      clear B hw0 hbb
      have hb1 : Hid (b1 = okd fr) := hb1
      have hx1 : Hid (vl (bs .u32) u1 = dv fr) := hx1
      cases b1 with
      | false =>
        obtain ⟨he, hq⟩ := hfr.out (by rw [hfre.out]; exact hb1.out.symm)
        have he := Lib.hid he
        have hq := Lib.hid hq
        have r0 := C.cell 0
        have r1 := C.cell 1
        have r2 := C.cell 2
        have f0 := C.frozen 0
        have f1 := C.frozen 1
        have f2 := C.frozen 2
        go_wp2
        rw [he.out, hq.out]
        exact ret_frac2 rfl rfl (((C.set_ 0 _).set_ 1 _).set_ 2 _) rfl ⟨_, rfl, (FQ.zero _).le (Nat.zero_le _), bel_set3 hw2 (by omega) _ _ _⟩
      | true =>
        by_cases hw : c = m.length
        · have hwi : ((c : Int) == (m.length : Int)) = true := by rw [hw]; simp
          have hwH := Lib.hid hw
          have hz := hpw.out hw
          have hfm : fr = m := by rw [← hfre.out, hw, List.take_length]
          rw [← hfm, ← hb1.out] at hz
          rw [hfm] at hz
          have hz := Lib.hid hz
          clear hw
          rw [hfm] at hx1
          have hfm := Lib.hid hfm
          obtain ⟨he, hq⟩ := pe_ok hz.out (by decide) true
          have he := Lib.hid he
          have hq := Lib.hid hq
          go_wp2_with fail
          refine (make1Q true A1 none m1 c1 0 0 u1 [] _ hD1 (Dg.nil _ _) (by omega) (by decide)).mono ?_
          rintro e w9 ⟨_, rfl, q9, hb9⟩
          have q9 := q9.le (show _ ≤ 4000 by omega)
          obtain ⟨s9, A9, m9, c9, B9, n9, d9, rfl⟩ := q9.form
          have C9 := C.below hb9
          have hw9 := hw2.trans (hb9.mono hw2.size)
          have r0 := C9.cell 0
          have r1 := C9.cell 1
          have r2 := C9.cell 2
          have f0 := C9.frozen 0
          have f1 := C9.frozen 1
          have f2 := C9.frozen 2
          go_wp2
          rw [he.out, hq.out]
          exact ret_frac2 rfl rfl (((C9.set_ 0 _).set_ 1 _).set_ 2 _) rfl ⟨_, rfl, (by have h8 := q9.set3 C9 (.bool s9) (.slice A9 m9 c9) (.slice B9 n9 d9); rw [hx1.out] at h8; exact h8), bel_set3 hw9 (by omega) _ _ _⟩
        · have hwi : ((c : Int) == (m.length : Int)) = false := by rw [beq_eq_false_iff_ne]; omega
          have hcm : c < m.length := by omega
          have hw := Lib.hid hw
          obtain ⟨x, hx⟩ : ∃ x, (m[c]'hcm).toNat = x := ⟨_, rfl⟩
          have hxS : ((⟨m.toArray⟩ : ByteArray)[c]'hcm).toNat = x := hx
          have hx47 := Lib.hid (getD_toNat hcm hx 47 (by decide))
          clear hx
          have hs2 := slice_from m (c + 1) (by omega)
          rw [show ((c + 1 : Nat) : Int) = (c : Int) + 1 by omega] at hs2
          obtain ⟨bk, hbke⟩ : ∃ l, m.drop (c + 1) = l := ⟨_, rfl⟩
          have hbl : bk.length ≤ 1000 := by rw [← hbke, List.length_drop]; omega
          have hbkl := Lib.hid (show bk.length = m.length - c - 1 by rw [← hbke, List.length_drop]; omega)
          rw [hbke] at hs2
          have hbke := Lib.hid hbke
          go_wp2_with fail
          refine (numberB bk _ (by omega)).mono ?_
          rintro e w3 ⟨v2, b2, rfl, hb2, ⟨A2, m2, c2, u2, rfl, hD2, hN2, hx2, hm2⟩, hbb⟩
          clear hs2
          have C := C.below hbb
          have hw3 := hw2.trans (hbb.mono hw2.size)
          have hD1 := hD1.below hbb
          clear hw2 hbb
          have hb2 : Hid (b2 = okd bk) := hb2
          have hx2 : Hid (vl (bs .u32) u2 = dv bk) := hx2
          cases b2 with
          | false =>
            obtain ⟨he, hq⟩ := hbk.out hw.out (by rw [hbke.out]; exact hb2.out.symm)
            have he := Lib.hid he
            have hq := Lib.hid hq
            have r0 := C.cell 0
            have r1 := C.cell 1
            have r2 := C.cell 2
            have f0 := C.frozen 0
            have f1 := C.frozen 1
            have f2 := C.frozen 2
            go_wp2
            rw [he.out, hq.out]
            exact ret_frac2 rfl rfl (((C.set_ 0 _).set_ 1 _).set_ 2 _) rfl ⟨_, rfl, (FQ.zero _).le (Nat.zero_le _), bel_set3 hw3 (by omega) _ _ _⟩
          | true =>
            by_cases h47 : x = 47
            · subst h47
              have hz := hps.out hw.out (hx47.out.2 rfl)
              rw [hfre.out, hbke.out, ← hb1.out, ← hb2.out] at hz
              have hz := Lib.hid hz
              have hm0 := nv_pos hD2 hN2 (by decide) hx2
              by_cases hd0 : dv bk = 0
              · have hmz : m2 = 0 := by
                  rw [hd0] at hm0
                  have := of_decide_eq_false (hm0.trans (by decide))
                  omega
                have hd0 := Lib.hid hd0
                subst hmz
                clear hm0
                obtain ⟨he, hq⟩ := pe_zero (m := m) (by rw [hz.out]; rfl) (by rw [hz.out]; exact hd0.out) true
                have he := Lib.hid he
                have hq := Lib.hid hq
                have r0 := C.cell 0
                have r1 := C.cell 1
                have r2 := C.cell 2
                have f0 := C.frozen 0
                have f1 := C.frozen 1
                have f2 := C.frozen 2
                go_wp2
                rw [he.out, hq.out]
                exact ret_frac2 rfl rfl (((C.set_ 0 _).set_ 1 _).set_ 2 _) rfl ⟨_, rfl, (FQ.zero _).le (Nat.zero_le _), bel_set3 hw3 (by omega) _ _ _⟩
              · have hdp := Lib.hid (show 0 < dv bk by omega)
                have hmz : ((m2 : Int) == 0) = false := by
                  rw [decide_eq_true hdp.out] at hm0
                  have := of_decide_eq_true hm0
                  rw [beq_eq_false_iff_ne]; omega
                clear hm0 hd0
                obtain ⟨he, hq⟩ := pe_ok hz.out hdp.out true
                have he := Lib.hid he
                have hq := Lib.hid hq
                go_wp2_with fail
                refine (make1Q true A1 A2 m1 c1 m2 c2 u1 u2 _ hD1 hD2 (by omega) (by omega)).mono ?_
                rintro e w9 ⟨_, rfl, q9, hb9⟩
                have q9 := q9.le (show _ ≤ 4000 by omega)
                obtain ⟨s9, A9, m9, c9, B9, n9, d9, rfl⟩ := q9.form
                have C9 := C.below hb9
                have hw9 := hw3.trans (hb9.mono hw3.size)
                have r0 := C9.cell 0
                have r1 := C9.cell 1
                have r2 := C9.cell 2
                have f0 := C9.frozen 0
                have f1 := C9.frozen 1
                have f2 := C9.frozen 2
                go_wp2
                rw [he.out, hq.out]
                exact ret_frac2 rfl rfl (((C9.set_ 0 _).set_ 1 _).set_ 2 _) rfl ⟨_, rfl, (by have h8 := q9.set3 C9 (.bool s9) (.slice A9 m9 c9) (.slice B9 n9 d9); rw [hx1.out, hx2.out, show dn (dv bk) = dv bk by unfold dn; rw [if_neg (by have := hdp.out; omega)]] at h8; exact h8), bel_set3 hw9 (by omega) _ _ _⟩
            · have hz := hpp.out hw.out (fun h => h47 (hx47.out.1 h))
              have hx47i : ((x : Int) == 47) = false := by rw [beq_eq_false_iff_ne]; omega
              obtain ⟨kk, hkk⟩ : ∃ kk, m.length - c - 1 = kk := ⟨_, rfl⟩
              have hkki : (m.length : Int) - (c : Int) - 1 = (kk : Int) := by omega
              have hkk1 : kk ≤ 1000 := by omega
              rw [hfre.out, hbke.out, ← hb1.out, ← hb2.out, hkk] at hz
              have hz := Lib.hid hz
              have hkk := Lib.hid hkk
              clear h47
              go_wp2_with fail
              refine (refOfQ 10 _ (by decide)).mono ?_
              rintro e w4 ⟨_, rfl, q4, hbb⟩
              obtain ⟨s4, A4, m4, c4, B4, n4, d4, rfl⟩ := q4.form
              have C := C.below hbb
              have hw4 := hw3.trans (hbb.mono hw3.size)
              have hD1 := hD1.below hbb
              have hD2 := hD2.below hbb
              clear hw3 hbb
              go_wp2_with fail
              refine (refPowQ _ _ kk 3 _ q4.af (by omega) (by omega)).mono ?_
              rintro e w5 ⟨_, rfl, q5, hbb⟩
              have C := C.below hbb
              have hw5 := hw4.trans (hbb.mono hw4.size)
              have hD1 := hD1.below hbb
              have hD2 := hD2.below hbb
              clear hw4 hbb
              obtain ⟨_, _, rfl, ⟨A5, m5, c5, u5, rfl, hD5, hN5, hx5, hm5⟩, ⟨B5, n5, d5, y5, rfl, hE5, hM5, hy5, hn5⟩⟩ := q5
              have hx5 := Lib.hid (show vl (bs .u32) u5 = 10 ^ kk from hx5.out.trans (ten_fq _ (by rfl) kk))
              obtain ⟨sx, hsx⟩ : ∃ sx, decide (((((10 : Int) : Rat)) ^ kk).num < 0) = sx := ⟨_, rfl⟩
              rw [hsx]
              clear hsx
              have hm5' : m5 ≤ 10000 := by omega
              clear hE5 hM5 hy5 hn5 q4
              have hfld : ∀ W : World, (Instr.field 24 (.agg #[.bool sx, .slice A5 m5 c5, .slice B5 n5 d5]) 1).run Tryz.prog W = .ok (.slice A5 m5 c5) W := fun _ => by kernel_rfl
              go_wp2_with fail
              refine (times_any _ _ _ _ _ _ u1 u5 _ hD1 hD5 (by omega) (by omega)).mono ?_
              rintro e w6 ⟨A6, m6, c6, u6, rfl, hD6, hN6, hx6, hm6, hbb⟩
              rw [hx1.out, hx5.out] at hx6
              have C := C.below hbb
              have hw6 := hw5.trans (hbb.mono hw5.size)
              have hD5 := hD5.below hbb
              have hD2 := hD2.below hbb
              clear hw5 hbb hD1
              go_wp2_with fail
              refine (plus_any _ _ _ _ _ _ u6 u2 _ hD6 hD2 (by omega) (by omega)).mono ?_
              rintro e w7 ⟨A7, m7, c7, u7, rfl, hD7, hN7, hx7, hm7, hbb⟩
              rw [hx6.out, hx2.out] at hx7
              have C := C.below hbb
              have hw7 := hw6.trans (hbb.mono hw6.size)
              have hD5 := hD5.below hbb
              clear hw6 hbb hD2 hD6
              have hm5t : m5 ≤ 1001 := by
                have h8 : m5 ≤ kk + 1 := by
                  have h7 := len_lt32 (k := kk + 1) hN5 hx5.out (Nat.lt_of_lt_of_le (Nat.pow_lt_pow_left (by decide : 10 < bs .u32) (by omega : kk + 1 ≠ 0) |> fun h => Nat.lt_of_le_of_lt (Nat.pow_le_pow_right (by decide) (by omega : kk ≤ kk + 1)) h) (Nat.le_refl _))
                  rw [hD5.len] at h7; exact h7
                omega
              obtain ⟨he, hq⟩ := pe_ok hz.out (Nat.pow_pos (by decide)) true
              have he := Lib.hid he
              have hq := Lib.hid hq
              go_wp2_with fail
              refine (make1Q true A7 A5 m7 c7 m5 c5 u7 u5 _ hD7 hD5 (by omega) (by omega)).mono ?_
              rintro e w9 ⟨_, rfl, q9, hb9⟩
              have q9 := q9.le (show _ ≤ 4000 by omega)
              obtain ⟨s9, A9, m9, c9, B9, n9, d9, rfl⟩ := q9.form
              have C9 := C.below hb9
              have hw9 := hw7.trans (hb9.mono hw7.size)
              have r0 := C9.cell 0
              have r1 := C9.cell 1
              have r2 := C9.cell 2
              have f0 := C9.frozen 0
              have f1 := C9.frozen 1
              have f2 := C9.frozen 2
              go_wp2
              rw [he.out, hq.out]
              exact ret_frac2 rfl rfl (((C9.set_ 0 _).set_ 1 _).set_ 2 _) rfl ⟨_, rfl, (by have h8 := q9.set3 C9 (.bool s9) (.slice A9 m9 c9) (.slice B9 n9 d9); rw [hx7.out, hx5.out, show dn (10 ^ kk) = 10 ^ kk by unfold dn; rw [if_neg (by have := Nat.pow_pos (n := kk) (show 0 < 10 by decide); omega)]] at h8; exact h8), bel_set3 hw9 (by omega) _ _ _⟩
    · clear hi
      have hjl : j < m.length := by omega
      obtain ⟨x, hx⟩ : ∃ x, (m[j]'hjl).toNat = x := ⟨_, rfl⟩
      have hxS : ((⟨m.toArray⟩ : ByteArray)[j]'hjl).toNat = x := hx
      have hst := Lib.hid (fsp_step hjl)
      have hx := Lib.hid hx
      by_cases h46 : x = 46
      · subst h46
        have hf := Lib.hid (show fsp m j = j by rw [hst.out, sep_yes hx.out (by omega)]; rfl)
        go_wp2
        go_roundw
        case rel => exact ⟨j, rfl, by omega, by rw [hf.out], B, hw0⟩
        case measure => simp [intOf]
      · by_cases h47 : x = 47
        · subst h47
          have hf := Lib.hid (show fsp m j = j by rw [hst.out, sep_yes hx.out (by omega)]; rfl)
          go_wp2
          go_roundw
          case rel => exact ⟨j, rfl, by omega, by rw [hf.out], B, hw0⟩
          case measure => simp [intOf]
        · have d46 : ((x : Int) == 46) = false := by rw [beq_eq_false_iff_ne]; omega
          have d47 : ((x : Int) == 47) = false := by rw [beq_eq_false_iff_ne]; omega
          have hf := Lib.hid (show fsp m (j + 1) = fsp m j by rw [hst.out, sep_not hx.out h46 h47]; rfl)
          rw [hf.out]
          clear h46 h47
          go_wp2
          go_roundw
          case rel => exact ⟨j, rfl, by omega, rfl, B, hw0⟩
          case measure => simp [intOf]

set_option linter.unusedSimpArgs false in
set_option maxHeartbeats 12800000 in
set_option maxRecDepth 100000 in
theorem refParse_pos (m : List UInt8) (w : World) (hl : (m).length ≤ 1000) (hp0 : 0 < m.length) (hp : (m[0]'hp0).toNat ≠ 45) :
    Calls Tryz.prog 68 #[.string ⟨(m).toArray⟩] w (RetFE w (pq false m) 4000 (pe m)) := by
  have B := Blk.new w 24 #[.bool false, .slice none 0 0, .slice none 0 0]
  have hw0 := (Below.refl w.heap.size w).alloc (Nat.le_refl _) (.cells #[.bool false, .slice none 0 0, .slice none 0 0] 24)
  have hml : m.length ≤ 1000 := hl
  have d1 : decide ((10000 : Int) < (m.length : Int)) = false := decide_eq_false (by omega)
  have d2 : decide (0 < (m.length : Int)) = true := decide_eq_true (by omega)
  have d3 : decide (0 < m.length) = true := decide_eq_true hp0
  obtain ⟨x0, hx0⟩ : ∃ x, (m[0]'hp0).toNat = x := ⟨_, rfl⟩
  rw [hx0] at hp
  have hb0 : ((⟨m.toArray⟩ : ByteArray)[0]'hp0).toNat = x0 := hx0
  have d4 : ((x0 : Int) == 45) = false := by rw [beq_eq_false_iff_ne]; omega
  clear hx0
  go_enter Tryz.func68, Tryz.ntmps68
  go_upto_region 1 with fail
  generalize w.alloc (.cells #[.bool false, .slice none 0 0, .slice none 0 0] 24) = w1 at *
  go_wp2
  go_loopw [5, 6] (fun cv iv wr => ∃ k : Nat, iv = .int .i64 ((k : Int) - 1) ∧ k ≤ m.length ∧ cv = .int .i64 ((fsp m k : Nat) : Int) ∧ Blk wr w.heap.size 24 #[.bool false, .slice none 0 0, .slice none 0 0] ∧ Below w.heap.size w wr) (fun _ i _ => (intOf i + 1).toNat)
  case atStart => exact ⟨m.length, rfl, Nat.le_refl _, by rw [fsp_end], B, hw0⟩
  case round =>
    clear B hw0
    obtain ⟨k, hi, hkm, rfl, B, hw0⟩ := hrel
    rcases idx_cases hi with ⟨rfl, rfl⟩ | ⟨j, rfl, rfl⟩
    · clear hi
      have hcl := fsp_le m
      have hfr := fun h => pe_bad (psr_front (m := m) h) false
      have hbk := fun h0 h => pe_bad (psr_back (m := m) h0 h) false
      have hpw := fun h => psr_whole (m := m) h
      have hps := fun h h2 => psr_slash (m := m) h h2
      have hpp := fun h h2 => psr_point (m := m) h h2
      obtain ⟨c, hc⟩ : ∃ c, fsp m 0 = c := ⟨_, rfl⟩
      rw [hc] at hcl hfr hbk hpw hps hpp
      rw [hc]
      clear hc
      have hfr := Lib.hid hfr
      have hbk := Lib.hid hbk
      have hpw := Lib.hid hpw
      have hps := Lib.hid hps
      have hpp := Lib.hid hpp
      have hs1 := Lib.hid (slice_to m c hcl)
      have hs1' := hs1.out
      obtain ⟨fr, hfre⟩ : ∃ l, m.take c = l := ⟨_, rfl⟩
      have hfl : fr.length ≤ 1000 := by rw [← hfre, List.length_take]; omega
      rw [hfre] at hs1'
      have hfre := Lib.hid hfre
      clear hs1
      go_wp2_with fail
      refine (numberB fr _ (by omega)).mono ?_
      rintro e w2 ⟨v1, b1, rfl, hb1, ⟨A1, m1, c1, u1, rfl, hD1, hN1, hx1, hm1⟩, hbb⟩
      clear hs1'
      have C := B.below hbb
      have hw2 := hw0.trans (hbb.mono hw0.size)
      clear B hw0 hbb
      have hb1 : Hid (b1 = okd fr) := hb1
      have hx1 : Hid (vl (bs .u32) u1 = dv fr) := hx1
      cases b1 with
      | false =>
        obtain ⟨he, hq⟩ := hfr.out (by rw [hfre.out]; exact hb1.out.symm)
        have he := Lib.hid he
        have hq := Lib.hid hq
        have r0 := C.cell 0
        have r1 := C.cell 1
        have r2 := C.cell 2
        have f0 := C.frozen 0
        have f1 := C.frozen 1
        have f2 := C.frozen 2
        go_wp2
        rw [he.out, hq.out]
        exact ret_frac2 rfl rfl (((C.set_ 0 _).set_ 1 _).set_ 2 _) rfl ⟨_, rfl, (FQ.zero _).le (Nat.zero_le _), bel_set3 hw2 (by omega) _ _ _⟩
      | true =>
        by_cases hw : c = m.length
        · have hwi : ((c : Int) == (m.length : Int)) = true := by rw [hw]; simp
          have hwH := Lib.hid hw
          have hz := hpw.out hw
          have hfm : fr = m := by rw [← hfre.out, hw, List.take_length]
          rw [← hfm, ← hb1.out] at hz
          rw [hfm] at hz
          have hz := Lib.hid hz
          clear hw
          rw [hfm] at hx1
          have hfm := Lib.hid hfm
          obtain ⟨he, hq⟩ := pe_ok hz.out (by decide) false
          have he := Lib.hid he
          have hq := Lib.hid hq
          go_wp2_with fail
          refine (make1Q false A1 none m1 c1 0 0 u1 [] _ hD1 (Dg.nil _ _) (by omega) (by decide)).mono ?_
          rintro e w9 ⟨_, rfl, q9, hb9⟩
          have q9 := q9.le (show _ ≤ 4000 by omega)
          obtain ⟨s9, A9, m9, c9, B9, n9, d9, rfl⟩ := q9.form
          have C9 := C.below hb9
          have hw9 := hw2.trans (hb9.mono hw2.size)
          have r0 := C9.cell 0
          have r1 := C9.cell 1
          have r2 := C9.cell 2
          have f0 := C9.frozen 0
          have f1 := C9.frozen 1
          have f2 := C9.frozen 2
          go_wp2
          rw [he.out, hq.out]
          exact ret_frac2 rfl rfl (((C9.set_ 0 _).set_ 1 _).set_ 2 _) rfl ⟨_, rfl, (by have h8 := q9.set3 C9 (.bool s9) (.slice A9 m9 c9) (.slice B9 n9 d9); rw [hx1.out] at h8; exact h8), bel_set3 hw9 (by omega) _ _ _⟩
        · have hwi : ((c : Int) == (m.length : Int)) = false := by rw [beq_eq_false_iff_ne]; omega
          have hcm : c < m.length := by omega
          have hw := Lib.hid hw
          obtain ⟨x, hx⟩ : ∃ x, (m[c]'hcm).toNat = x := ⟨_, rfl⟩
          have hxS : ((⟨m.toArray⟩ : ByteArray)[c]'hcm).toNat = x := hx
          have hx47 := Lib.hid (getD_toNat hcm hx 47 (by decide))
          clear hx
          have hs2 := slice_from m (c + 1) (by omega)
          rw [show ((c + 1 : Nat) : Int) = (c : Int) + 1 by omega] at hs2
          obtain ⟨bk, hbke⟩ : ∃ l, m.drop (c + 1) = l := ⟨_, rfl⟩
          have hbl : bk.length ≤ 1000 := by rw [← hbke, List.length_drop]; omega
          have hbkl := Lib.hid (show bk.length = m.length - c - 1 by rw [← hbke, List.length_drop]; omega)
          rw [hbke] at hs2
          have hbke := Lib.hid hbke
          go_wp2_with fail
          refine (numberB bk _ (by omega)).mono ?_
          rintro e w3 ⟨v2, b2, rfl, hb2, ⟨A2, m2, c2, u2, rfl, hD2, hN2, hx2, hm2⟩, hbb⟩
          clear hs2
          have C := C.below hbb
          have hw3 := hw2.trans (hbb.mono hw2.size)
          have hD1 := hD1.below hbb
          clear hw2 hbb
          have hb2 : Hid (b2 = okd bk) := hb2
          have hx2 : Hid (vl (bs .u32) u2 = dv bk) := hx2
          cases b2 with
          | false =>
            obtain ⟨he, hq⟩ := hbk.out hw.out (by rw [hbke.out]; exact hb2.out.symm)
            have he := Lib.hid he
            have hq := Lib.hid hq
            have r0 := C.cell 0
            have r1 := C.cell 1
            have r2 := C.cell 2
            have f0 := C.frozen 0
            have f1 := C.frozen 1
            have f2 := C.frozen 2
            go_wp2
            rw [he.out, hq.out]
            exact ret_frac2 rfl rfl (((C.set_ 0 _).set_ 1 _).set_ 2 _) rfl ⟨_, rfl, (FQ.zero _).le (Nat.zero_le _), bel_set3 hw3 (by omega) _ _ _⟩
          | true =>
            by_cases h47 : x = 47
            · subst h47
              have hz := hps.out hw.out (hx47.out.2 rfl)
              rw [hfre.out, hbke.out, ← hb1.out, ← hb2.out] at hz
              have hz := Lib.hid hz
              have hm0 := nv_pos hD2 hN2 (by decide) hx2
              by_cases hd0 : dv bk = 0
              · have hmz : m2 = 0 := by
                  rw [hd0] at hm0
                  have := of_decide_eq_false (hm0.trans (by decide))
                  omega
                have hd0 := Lib.hid hd0
                subst hmz
                clear hm0
                obtain ⟨he, hq⟩ := pe_zero (m := m) (by rw [hz.out]; rfl) (by rw [hz.out]; exact hd0.out) false
                have he := Lib.hid he
                have hq := Lib.hid hq
                have r0 := C.cell 0
                have r1 := C.cell 1
                have r2 := C.cell 2
                have f0 := C.frozen 0
                have f1 := C.frozen 1
                have f2 := C.frozen 2
                go_wp2
                rw [he.out, hq.out]
                exact ret_frac2 rfl rfl (((C.set_ 0 _).set_ 1 _).set_ 2 _) rfl ⟨_, rfl, (FQ.zero _).le (Nat.zero_le _), bel_set3 hw3 (by omega) _ _ _⟩
              · have hdp := Lib.hid (show 0 < dv bk by omega)
                have hmz : ((m2 : Int) == 0) = false := by
                  rw [decide_eq_true hdp.out] at hm0
                  have := of_decide_eq_true hm0
                  rw [beq_eq_false_iff_ne]; omega
                clear hm0 hd0
                obtain ⟨he, hq⟩ := pe_ok hz.out hdp.out false
                have he := Lib.hid he
                have hq := Lib.hid hq
                go_wp2_with fail
                refine (make1Q false A1 A2 m1 c1 m2 c2 u1 u2 _ hD1 hD2 (by omega) (by omega)).mono ?_
                rintro e w9 ⟨_, rfl, q9, hb9⟩
                have q9 := q9.le (show _ ≤ 4000 by omega)
                obtain ⟨s9, A9, m9, c9, B9, n9, d9, rfl⟩ := q9.form
                have C9 := C.below hb9
                have hw9 := hw3.trans (hb9.mono hw3.size)
                have r0 := C9.cell 0
                have r1 := C9.cell 1
                have r2 := C9.cell 2
                have f0 := C9.frozen 0
                have f1 := C9.frozen 1
                have f2 := C9.frozen 2
                go_wp2
                rw [he.out, hq.out]
                exact ret_frac2 rfl rfl (((C9.set_ 0 _).set_ 1 _).set_ 2 _) rfl ⟨_, rfl, (by have h8 := q9.set3 C9 (.bool s9) (.slice A9 m9 c9) (.slice B9 n9 d9); rw [hx1.out, hx2.out, show dn (dv bk) = dv bk by unfold dn; rw [if_neg (by have := hdp.out; omega)]] at h8; exact h8), bel_set3 hw9 (by omega) _ _ _⟩
            · have hz := hpp.out hw.out (fun h => h47 (hx47.out.1 h))
              have hx47i : ((x : Int) == 47) = false := by rw [beq_eq_false_iff_ne]; omega
              obtain ⟨kk, hkk⟩ : ∃ kk, m.length - c - 1 = kk := ⟨_, rfl⟩
              have hkki : (m.length : Int) - (c : Int) - 1 = (kk : Int) := by omega
              have hkk1 : kk ≤ 1000 := by omega
              rw [hfre.out, hbke.out, ← hb1.out, ← hb2.out, hkk] at hz
              have hz := Lib.hid hz
              have hkk := Lib.hid hkk
              clear h47
              go_wp2_with fail
              refine (refOfQ 10 _ (by decide)).mono ?_
              rintro e w4 ⟨_, rfl, q4, hbb⟩
              obtain ⟨s4, A4, m4, c4, B4, n4, d4, rfl⟩ := q4.form
              have C := C.below hbb
              have hw4 := hw3.trans (hbb.mono hw3.size)
              have hD1 := hD1.below hbb
              have hD2 := hD2.below hbb
              clear hw3 hbb
              go_wp2_with fail
              refine (refPowQ _ _ kk 3 _ q4.af (by omega) (by omega)).mono ?_
              rintro e w5 ⟨_, rfl, q5, hbb⟩
              have C := C.below hbb
              have hw5 := hw4.trans (hbb.mono hw4.size)
              have hD1 := hD1.below hbb
              have hD2 := hD2.below hbb
              clear hw4 hbb
              obtain ⟨_, _, rfl, ⟨A5, m5, c5, u5, rfl, hD5, hN5, hx5, hm5⟩, ⟨B5, n5, d5, y5, rfl, hE5, hM5, hy5, hn5⟩⟩ := q5
              have hx5 := Lib.hid (show vl (bs .u32) u5 = 10 ^ kk from hx5.out.trans (ten_fq _ (by rfl) kk))
              obtain ⟨sx, hsx⟩ : ∃ sx, decide (((((10 : Int) : Rat)) ^ kk).num < 0) = sx := ⟨_, rfl⟩
              rw [hsx]
              clear hsx
              have hm5' : m5 ≤ 10000 := by omega
              clear hE5 hM5 hy5 hn5 q4
              have hfld : ∀ W : World, (Instr.field 24 (.agg #[.bool sx, .slice A5 m5 c5, .slice B5 n5 d5]) 1).run Tryz.prog W = .ok (.slice A5 m5 c5) W := fun _ => by kernel_rfl
              go_wp2_with fail
              refine (times_any _ _ _ _ _ _ u1 u5 _ hD1 hD5 (by omega) (by omega)).mono ?_
              rintro e w6 ⟨A6, m6, c6, u6, rfl, hD6, hN6, hx6, hm6, hbb⟩
              rw [hx1.out, hx5.out] at hx6
              have C := C.below hbb
              have hw6 := hw5.trans (hbb.mono hw5.size)
              have hD5 := hD5.below hbb
              have hD2 := hD2.below hbb
              clear hw5 hbb hD1
              go_wp2_with fail
              refine (plus_any _ _ _ _ _ _ u6 u2 _ hD6 hD2 (by omega) (by omega)).mono ?_
              rintro e w7 ⟨A7, m7, c7, u7, rfl, hD7, hN7, hx7, hm7, hbb⟩
              rw [hx6.out, hx2.out] at hx7
              have C := C.below hbb
              have hw7 := hw6.trans (hbb.mono hw6.size)
              have hD5 := hD5.below hbb
              clear hw6 hbb hD2 hD6
              have hm5t : m5 ≤ 1001 := by
                have h8 : m5 ≤ kk + 1 := by
                  have h7 := len_lt32 (k := kk + 1) hN5 hx5.out (Nat.lt_of_lt_of_le (Nat.pow_lt_pow_left (by decide : 10 < bs .u32) (by omega : kk + 1 ≠ 0) |> fun h => Nat.lt_of_le_of_lt (Nat.pow_le_pow_right (by decide) (by omega : kk ≤ kk + 1)) h) (Nat.le_refl _))
                  rw [hD5.len] at h7; exact h7
                omega
              obtain ⟨he, hq⟩ := pe_ok hz.out (Nat.pow_pos (by decide)) false
              have he := Lib.hid he
              have hq := Lib.hid hq
              go_wp2_with fail
              refine (make1Q false A7 A5 m7 c7 m5 c5 u7 u5 _ hD7 hD5 (by omega) (by omega)).mono ?_
              rintro e w9 ⟨_, rfl, q9, hb9⟩
              have q9 := q9.le (show _ ≤ 4000 by omega)
              obtain ⟨s9, A9, m9, c9, B9, n9, d9, rfl⟩ := q9.form
              have C9 := C.below hb9
              have hw9 := hw7.trans (hb9.mono hw7.size)
              have r0 := C9.cell 0
              have r1 := C9.cell 1
              have r2 := C9.cell 2
              have f0 := C9.frozen 0
              have f1 := C9.frozen 1
              have f2 := C9.frozen 2
              go_wp2
              rw [he.out, hq.out]
              exact ret_frac2 rfl rfl (((C9.set_ 0 _).set_ 1 _).set_ 2 _) rfl ⟨_, rfl, (by have h8 := q9.set3 C9 (.bool s9) (.slice A9 m9 c9) (.slice B9 n9 d9); rw [hx7.out, hx5.out, show dn (10 ^ kk) = 10 ^ kk by unfold dn; rw [if_neg (by have := Nat.pow_pos (n := kk) (show 0 < 10 by decide); omega)]] at h8; exact h8), bel_set3 hw9 (by omega) _ _ _⟩
    · clear hi
      have hjl : j < m.length := by omega
      obtain ⟨x, hx⟩ : ∃ x, (m[j]'hjl).toNat = x := ⟨_, rfl⟩
      have hxS : ((⟨m.toArray⟩ : ByteArray)[j]'hjl).toNat = x := hx
      have hst := Lib.hid (fsp_step hjl)
      have hx := Lib.hid hx
      by_cases h46 : x = 46
      · subst h46
        have hf := Lib.hid (show fsp m j = j by rw [hst.out, sep_yes hx.out (by omega)]; rfl)
        go_wp2
        go_roundw
        case rel => exact ⟨j, rfl, by omega, by rw [hf.out], B, hw0⟩
        case measure => simp [intOf]
      · by_cases h47 : x = 47
        · subst h47
          have hf := Lib.hid (show fsp m j = j by rw [hst.out, sep_yes hx.out (by omega)]; rfl)
          go_wp2
          go_roundw
          case rel => exact ⟨j, rfl, by omega, by rw [hf.out], B, hw0⟩
          case measure => simp [intOf]
        · have d46 : ((x : Int) == 46) = false := by rw [beq_eq_false_iff_ne]; omega
          have d47 : ((x : Int) == 47) = false := by rw [beq_eq_false_iff_ne]; omega
          have hf := Lib.hid (show fsp m (j + 1) = fsp m j by rw [hst.out, sep_not hx.out h46 h47]; rfl)
          rw [hf.out]
          clear h46 h47
          go_wp2
          go_roundw
          case rel => exact ⟨j, rfl, by omega, rfl, B, hw0⟩
          case measure => simp [intOf]

set_option linter.unusedSimpArgs false in
set_option maxHeartbeats 12800000 in
set_option maxRecDepth 100000 in
theorem refParse_nil (w : World) : Calls Tryz.prog 68 #[.string ⟨#[]⟩] w (RetFE w 0 4000 4) := by
  have B := Blk.new w 24 #[.bool false, .slice none 0 0, .slice none 0 0]
  have hw0 := (Below.refl w.heap.size w).alloc (Nat.le_refl _) (.cells #[.bool false, .slice none 0 0, .slice none 0 0] 24)
  have hs1 : ∀ W, (Instr.slice 9 (.string ⟨#[]⟩) none (some (.int .i64 0)) none).run Tryz.prog W = .ok (.string ⟨#[]⟩) W := fun W => slice_to [] 0 (Nat.le_refl _) W
  go_enter Tryz.func68, Tryz.ntmps68
  go_upto_region 1 with fail
  generalize w.alloc (.cells #[.bool false, .slice none 0 0, .slice none 0 0] 24) = w1 at *
  go_wp2
  go_loopw [5, 6] (fun cv iv wr => cv = .int .i64 0 ∧ iv = .int .i64 (-1) ∧ w1 = wr) (fun _ _ _ => 0)
  case atStart => exact ⟨rfl, rfl, rfl⟩
  case round =>
    obtain ⟨rfl, rfl, rfl⟩ := hrel
    go_wp2_with fail
    refine (numberB [] _ (by decide)).mono ?_
    rintro e w2 ⟨v1, b1, rfl, hb1, ⟨A1, m1, c1, u1, rfl, hD1, hN1, hx1, hm1⟩, hbb⟩
    have C := B.below hbb
    have hw2 := hw0.trans (hbb.mono hw0.size)
    obtain rfl : b1 = false := hb1.out
    have r0 := C.cell 0
    have r1 := C.cell 1
    have r2 := C.cell 2
    have f0 := C.frozen 0
    have f1 := C.frozen 1
    have f2 := C.frozen 2
    go_wp2
    exact ret_frac2 rfl rfl (((C.set_ 0 _).set_ 1 _).set_ 2 _) rfl ⟨_, rfl, (FQ.zero _).le (Nat.zero_le _), bel_set3 hw2 (by omega) _ _ _⟩

set_option maxHeartbeats 1600000 in
theorem refParse_long (l : List UInt8) (w : World) (hl : 10000 < l.length) : Calls Tryz.prog 68 #[.string ⟨l.toArray⟩] w (RetFE w 0 4000 5) := by
  have B := Blk.new w 24 #[.bool false, .slice none 0 0, .slice none 0 0]
  have hw0 := (Below.refl w.heap.size w).alloc (Nat.le_refl _) (.cells #[.bool false, .slice none 0 0, .slice none 0 0] 24)
  have r0 := B.cell 0
  have r1 := B.cell 1
  have r2 := B.cell 2
  have f0 := B.frozen 0
  have f1 := B.frozen 1
  have f2 := B.frozen 2
  have d1 : decide ((10000 : Int) < (l.length : Int)) = true := decide_eq_true (by omega)
  clear hl
  go_enter Tryz.func68, Tryz.ntmps68
  go_upto_region 1 with fail
  generalize w.alloc (.cells #[.bool false, .slice none 0 0, .slice none 0 0] 24) = w1 at *
  go_wp2
  exact ret_frac2 rfl rfl (((B.set_ 0 _).set_ 1 _).set_ 2 _) rfl ⟨_, rfl, (FQ.zero _).le (Nat.zero_le _), bel_set3 hw0 (by omega) _ _ _⟩
set_option maxHeartbeats 1600000 in
theorem ParseLong (l : List UInt8) (w : World) (hl : 10000 < l.length) : Calls Tryz.prog 64 #[.string ⟨l.toArray⟩] w (RetFE w 0 40002 5) := by
  have B := Blk.new w 24 #[.bool false, .slice none 0 0, .slice none 0 0]
  have hw0 := (Below.refl w.heap.size w).alloc (Nat.le_refl _) (.cells #[.bool false, .slice none 0 0, .slice none 0 0] 24)
  have r0 := B.cell 0
  have r1 := B.cell 1
  have r2 := B.cell 2
  have f0 := B.frozen 0
  have f1 := B.frozen 1
  have f2 := B.frozen 2
  have d1 : decide ((10000 : Int) < (l.length : Int)) = true := decide_eq_true (by omega)
  clear hl
  go_enter Tryz.func64, Tryz.ntmps64
  go_upto_region 1 with fail
  generalize w.alloc (.cells #[.bool false, .slice none 0 0, .slice none 0 0] 24) = w1 at *
  go_wp2
  exact ret_frac2 rfl rfl (((B.set_ 0 _).set_ 1 _).set_ 2 _) rfl ⟨_, rfl, (FQ.zero _).le (Nat.zero_le _), bel_set3 hw0 (by omega) _ _ _⟩
theorem pre_long {l : List UInt8} (hl : 10000 < l.length) : pre l = 5 ∧ prq l = 0 := by
  have h : pre l = 5 := by unfold pre; rw [if_pos hl]
  exact ⟨h, by unfold prq; rw [h]; rfl⟩
theorem ParseAll (l : List UInt8) (w : World) (hl : l.length ≤ 200 ∨ 10000 < l.length) (hG : Gl w) : Calls Tryz.prog 64 #[.string ⟨l.toArray⟩] w (RetFE w (prq l) 40002 (pre l)) := by
  rcases hl with hl | hl
  · exact ParseQ l w (by omega) hG
  · rw [(pre_long hl).1, (pre_long hl).2]; exact ParseLong l w hl
theorem refParseAll (l : List UInt8) (w : World) (hl : l.length ≤ 200 ∨ 10000 < l.length) : Calls Tryz.prog 68 #[.string ⟨l.toArray⟩] w (RetFE w (prq l) 4000 (pre l)) := by
  rcases hl with hl | hl
  · have hl2 : l.length ≤ 10000 := by omega
    rcases l with _ | ⟨b, m⟩
    · have h1 : prq [] = 0 ∧ pre [] = 4 := by
        have ht : Lib.trimPrefix [] [45] = [] := rfl
        have h2 := pe_bad (m := []) (psr_front rfl) false
        exact ⟨(prq_pq (l := []) (by decide) ht rfl).trans h2.2, (pre_pe (l := []) (by decide) ht).trans h2.1⟩
      rw [h1.1, h1.2]
      exact refParse_nil w
    · by_cases hb : b = 45
      · subst hb
        obtain ⟨h1, h2⟩ := trim_is m
        rw [pre_pe hl2 h2, prq_pq hl2 h2 h1]
        exact refParse_neg m w (by omega)
      · obtain ⟨h1, h2⟩ := trim_not (l := b :: m) (by intro h; injection h with h; exact hb h)
        rw [pre_pe hl2 h2, prq_pq hl2 h2 h1]
        refine refParse_pos (b :: m) w (by omega) (Nat.succ_pos _) ?_
        intro h
        have h3 : b.toNat = 45 := h
        exact hb (by rw [← UInt8.ofNat_toNat (x := b), h3]; rfl)
  · rw [(pre_long hl).1, (pre_long hl).2]; exact refParse_long l w hl
end Go.Proofs.YtbgihlfblmilmaaGreatDoor.Fr
