/- A number times a digit plus a digit. -/
import Derived.Test.YtbgihlfblmilmaaGreatDoorGG
import Derived.Test.YtbgihlfblmilmaaGreatDoorGY
import Derived.Lib.OthersKept
namespace Go.Proofs.YtbgihlfblmilmaaGreatDoor.Fr
open Go.RowKit Num

theorem behind_lt {b P X s c : Nat} (hX : X < P) (hs : s < b) (hc : c < b) : X * s + c < P * b := by
  have h1 : X * s ≤ X * (b - 1) := Nat.mul_le_mul_left X (by omega)
  have h2 : (X + 1) * (b - 1) ≤ P * (b - 1) := Nat.mul_le_mul_right (b - 1) hX
  rw [Nat.add_mul, Nat.one_mul] at h2
  have h3 : P * (b - 1) < P * b := Nat.mul_lt_mul_of_pos_left (by omega) (by omega)
  omega
theorem behind_math {b n : Nat} {cur : List Nat} {cn cy T : Nat} (hk : n < cur.length) (hc : cur.getD n 0 = cn) (hv : vl b cur + b ^ n * cy = T) (hT : T < b ^ n * b) : cn + cy < b ∧ vl b (cur.set n (cn + cy)) = T := by
  have h1 := vl_set (b := b) (d := 0) hk hc
  have h2 := vl_set (b := b) (d := cn + cy) hk hc
  rw [Nat.mul_add] at h2
  refine ⟨?_, by omega⟩
  have h3 : b ^ n * (cn + cy) ≤ T := by rw [Nat.mul_add]; omega
  exact Nat.lt_of_mul_lt_mul_left (Nat.lt_of_le_of_lt h3 hT)

theorem trimN (A : Option Addr) (n c : Nat) (xs : List Nat) (w : World) (h : Dg .u64 w A n c xs) :
    Calls Tryz.prog 119 #[.slice A n c] w (RetN .u64 w (vl (bs .u64) xs) n) := by
  refine (trim64_any A n c xs w h).mono ?_
  rintro e w' ⟨rfl, rfl⟩
  exact ⟨_, _, _, _, rfl, h.tr, nrm_tr xs, vl_tr _ xs, by have := tl_le xs; rw [h.len] at this; exact this, Below.refl _ _⟩
set_option maxHeartbeats 6400000 in
set_option maxRecDepth 100000 in
theorem behindQ (A : Option Addr) (n c s d : Nat) (xs : List Nat) (w : World) (h : Dg .u64 w A n c xs) (hn : n ≤ 1000000) (hs : s ≤ 18446744073709551615) (hd : d ≤ 18446744073709551615) :
    Calls Tryz.prog 162 #[.slice A n c, .int .u64 (s : Int), .int .u64 (d : Int)] w (RetN .u64 w (vl (bs .u64) xs * s + d) (n + 1)) := by
  have hmk := make_u64 (n + 1) (by omega)
  rw [show ((n + 1 : Nat) : Int) = (n : Int) + 1 by omega] at hmk
  have hc1 := h.cap
  have hc2 := h.top
  have hw0 := (Below.refl w.heap.size w).alloc (Nat.le_refl _) (.cells (dcs .u64 (zs (n + 1))).toArray 82)
  have M0 := Mk.new w 82 .u64 (zs (n + 1))
  have hT := Lib.hid (behind_lt (b := bs .u64) (P := bs .u64 ^ n) (by have := vl_lt h.ok; rw [h.len] at this; exact this) (Nat.lt_succ_of_le hs : s < bs .u64) (Nat.lt_succ_of_le hd : d < bs .u64))
  have h1 := h.below hw0
  have hnb := Lib.hid (show 0 < n → ∀ ad, A = some ad → ad.block ≠ w.heap.size from fun hp ad he => by have := h.blt hp ad he; omega)
  have cz := M0.cell (i := 0) (by rw [zs_len]; omega)
  have fz := M0.frozen 0
  go_enter Tryz.func162, Tryz.ntmps162
  go_upto_region 2 with fail
  generalize w.alloc (.cells (dcs .u64 (zs (n + 1))).toArray 82) = w1 at *
  have M1 := M0.set_ 0 d
  have hw1 := hw0.setCell (p := ⟨w.heap.size, 0, none⟩) (Nat.le_refl _) (.int .u64 (d : Int))
  have hon : Dg .u64 (w1.setCell ⟨w.heap.size, 0, none⟩ (.int .u64 (d : Int))) A n c xs := h1.farp hnb.out 0 _
  go_upto_region 3 with fail
  clear cz fz M0 h1 hw0
  generalize w1.setCell ⟨w.heap.size, 0, none⟩ (.int .u64 (d : Int)) = w2 at *
  obtain ⟨cur, hcur⟩ : ∃ cur, cur = (zs (n + 1)).set 0 d := ⟨_, rfl⟩
  rw [← hcur] at M1
  have hl := Lib.hid (show cur.length = n + 1 by rw [hcur, List.length_set, zs_len])
  have hok := Lib.hid (show Okd (bs .u64) cur by rw [hcur]; exact (zs_ok (by decide) _).set _ (Nat.lt_succ_of_le hd))
  have hv := Lib.hid (show vl (bs .u64) cur = d by
    have := vl_set (b := bs .u64) (xs := zs (n + 1)) (k := 0) (d := d) (c := 0) (by rw [zs_len]; omega) (by simp [zs])
    rw [zs_vl, Nat.pow_zero, ← hcur] at this; omega)
  clear hcur
  obtain ⟨cn, hcn⟩ : ∃ cn, cur.getD n 0 = cn := ⟨_, rfl⟩
  have hcn := Lib.hid hcn
  have k0 := M1.cell (i := n) (by rw [hl.out]; omega)
  rw [hcn.out] at k0
  have b1 : (0 : Int) ≤ (n : Int) := by omega
  have b2 : (n : Int) ≤ ((n + 1 : Nat) : Int) := by omega
  have b3 : ¬ ((n + 1 : Nat)) = n := by omega
  have b4 : n < n + 1 := by omega
  have hcall := Lib.hid (increaseTimes_any w.heap.size 0 n (n + 1) A c cur xs s w2.drew M1.drew hok.out (by rw [hl.out]; omega) (by omega) hon.drew hnb hs)
  clear M1 hon
  go_region_with (go_at_call 163; refine hcall.out.mono ?_; rintro e w6 ⟨cy, cur', rfl, hM2, hok2, hl2, hv2, hd2, hcyb, hon2⟩; have k1 := hM2.cell (i := n) (by rw [hl2.out, hl.out]; omega); have hcn2 : cur'.getD n 0 = cn := (by have hh := hd2.out; rw [Nat.zero_add] at hh; rw [← hcn.out, List.getD_eq_getElem?_getD, List.getD_eq_getElem?_getD, ← Nat.add_zero n, ← List.getElem?_drop, ← List.getElem?_drop, hh]); rw [hcn2] at k1; have f1 := hM2.frozen n; have hv2 := hv2.out; rw [Nat.zero_add, Nat.pow_zero, Nat.one_mul, hv.out] at hv2; obtain ⟨m1, m2⟩ := behind_math (b := bs .u64) (n := n) (cur := cur') (by rw [hl2.out, hl.out]; omega) hcn2 hv2 (by rw [Nat.add_comm]; exact hT.out); have m1 : cn + cy < 18446744073709551616 := m1; have m2 := Lib.hid m2; have hv2 := Lib.hid hv2; have hcn2 := Lib.hid hcn2)
  all_goals
    have e1 : IntKind.u64.wrap ((cn : Int) + (cy : Int)) = ((cn + cy : Nat) : Int) := by
      rw [show (cn : Int) + (cy : Int) = ((cn + cy : Nat) : Int) by omega]
      exact IntWalk.u64_in _ (by omega)
  all_goals rw [e1]
  all_goals
    have D9 := (hM2.set_ n (cn + cy)).dg64 (n := n + 1) (by rw [List.length_set, hl2.out, hl.out]) (by omega) (hok2.set n m1)
  all_goals
    have hb9 := ((hw1.drew).trans (hon2.below (Nat.le_refl _))).setCell (p := ⟨w.heap.size, n, none⟩) (Nat.le_refl _) (.int .u64 ((cn + cy : Nat) : Int))
  all_goals clear k1 f1 hcall e1 k0 hM2 hw1
  all_goals generalize w6.setCell ⟨w.heap.size, n, none⟩ (.int .u64 ((cn + cy : Nat) : Int)) = w9 at *
  all_goals go_wp2_with fail
  all_goals refine (trimN _ _ _ _ _ D9).mono ?_
  all_goals (rintro e w10 ⟨A7, m7, c7, y7, rfl, D7, N7, V7, M7, hb7⟩)
  all_goals (have V7 := Lib.hid (V7.out.trans m2.out))
  all_goals (have hb8 := hb9.trans (hb7.mono hb9.size))
  all_goals (have V8 : Hid (vl (bs .u64) y7 = vl (bs .u64) xs * s + d) := (by show _ = _; rw [V7.out]; exact Nat.add_comm _ _))
  all_goals go_wp2
  all_goals go_ret
  all_goals exact ⟨_, _, _, _, rfl, D7, N7, V8, M7, hb8⟩
end Go.Proofs.YtbgihlfblmilmaaGreatDoor.Fr

/- Strings of digits read as numbers. -/
namespace Go.Proofs.YtbgihlfblmilmaaGreatDoor.Fr
open Go.RowKit Num

/-- a byte is a decimal digit -/
def dgt (b : UInt8) : Bool := decide (48 ≤ b.toNat) && decide (b.toNat ≤ 57)
/-- the number that bytes read as in base ten -/
def dval (l : List UInt8) : Nat := l.foldl (fun a b => 10 * a + (b.toNat - 48)) 0
theorem dval_snoc (l : List UInt8) (b : UInt8) : dval (l ++ [b]) = 10 * dval l + (b.toNat - 48) := by
  unfold dval; rw [List.foldl_append]; rfl
theorem dval_foldl (m : List UInt8) : ∀ a : Nat, m.foldl (fun a b => 10 * a + (b.toNat - 48)) a = a * 10 ^ m.length + dval m := by
  induction m with
  | nil => intro a; simp [dval]
  | cons b m ih =>
    intro a
    have h1 : dval (b :: m) = m.foldl (fun a b => 10 * a + (b.toNat - 48)) (10 * 0 + (b.toNat - 48)) := rfl
    rw [h1, List.foldl_cons, ih, ih, List.length_cons, Nat.pow_succ, ← Nat.add_assoc]
    congr 1
    rw [Nat.add_mul, Nat.add_mul, Nat.mul_zero, Nat.zero_mul, Nat.zero_add]
    congr 1
    ac_rfl
theorem dval_app (l m : List UInt8) : dval (l ++ m) = dval l * 10 ^ m.length + dval m := by
  show (l ++ m).foldl _ 0 = _
  rw [List.foldl_append, dval_foldl]
  rfl
theorem dval_cons (b : UInt8) (m : List UInt8) : dval (b :: m) = (b.toNat - 48) * 10 ^ m.length + dval m := by
  have := dval_app [b] m
  rw [List.singleton_append] at this
  rw [this]
  congr 2
  show 10 * 0 + (b.toNat - 48) = _
  omega
theorem dval_lt (l : List UInt8) (h : l.all dgt = true) : dval l < 10 ^ l.length := by
  induction l with
  | nil => decide
  | cons b m ih =>
    rw [List.all_cons, Bool.and_eq_true] at h
    have h1 := ih h.2
    have h2 := h.1
    simp only [dgt, Bool.and_eq_true, decide_eq_true_eq] at h2
    rw [dval_cons, List.length_cons, Nat.pow_succ]
    have h3 : (b.toNat - 48) * 10 ^ m.length ≤ 9 * 10 ^ m.length := Nat.mul_le_mul_right _ (by omega)
    omega
/-- what readDigits returns: the number that the bytes read as if all of them are digits (else 0), and whether they are one or more digits -/
def RetRd (w : World) (l : List UInt8) (e : Ending) (w' : World) : Prop :=
  ∃ v b, e = .returned (.tuple #[v, .bool b]) ∧ Hid (b = (l.all dgt && decide (0 < l.length))) ∧ NV .u64 w' v (if l.all dgt then dval l else 0) (l.length + 1) ∧ Below w.heap.size w w'
theorem rd_step {x ch k pos : Nat} {l : List UInt8} (hp : pos < l.length) (hV : x * 10 ^ k + ch = dval (l.take pos)) : x * 10 ^ (k + 1) + (10 * ch + ((l[pos]'hp).toNat - 48)) = dval (l.take (pos + 1)) := by
  rw [List.take_add_one, List.getElem?_eq_getElem hp, Option.toList_some, dval_snoc, ← hV, Nat.pow_succ, Nat.mul_add]
  have : x * (10 ^ k * 10) = 10 * (x * 10 ^ k) := by ac_rfl
  omega
theorem rd_all {pos : Nat} {l : List UInt8} (hp : pos < l.length) (hV : (l.take pos).all dgt = true) (hd : dgt (l[pos]'hp) = true) : (l.take (pos + 1)).all dgt = true := by
  rw [List.take_add_one, List.getElem?_eq_getElem hp, Option.toList_some, List.all_append, hV, List.all_cons, hd]; rfl

/-- moving an iterator on turns no cell -/
theorem cell_iterAt {w : World} {K : Nat} {S : ByteArray} {pos : Nat} (hk : w.heap[K]? = some (.stringIter S pos)) (pos' : Nat) (p : Addr) : (w.iterAt K S pos').cell? p = w.cell? p := by
  by_cases hp : p.block = K
  · have h1 := Lib.iterAt_heap w K S pos pos' hk
    unfold World.cell?
    rw [hp, h1, hk]
  · have h1 := Lib.iterAt_other w K p.block S pos' hp
    unfold World.cell?
    rw [h1]
theorem Dg.iterAt {k : IntKind} {w : World} {A : Option Addr} {n c : Nat} {xs : List Nat} (h : Dg k w A n c xs) {K : Nat} {S : ByteArray} {pos : Nat} (hk : w.heap[K]? = some (.stringIter S pos)) (pos' : Nat) : Dg k (w.iterAt K S pos') A n c xs :=
  ⟨h.len, h.cap, h.top, h.ok, fun hn => by
    obtain ⟨ad, e, hc⟩ := h.cell hn
    exact ⟨ad, e, fun j x hx => (cell_iterAt hk pos' _).trans (hc j x hx)⟩⟩
theorem all_false {l : List UInt8} {pos : Nat} (hp : pos < l.length) (h : ¬ dgt (l[pos]'hp) = true) : l.all dgt = false := by
  cases h2 : l.all dgt with
  | false => rfl
  | true => exact absurd (List.all_eq_true.1 h2 _ (List.getElem_mem hp)) h

set_option maxHeartbeats 6400000 in
set_option maxRecDepth 100000 in
theorem readDigits_any (l : List UInt8) (w : World) (hl : l.length ≤ 100000) :
    Calls Tryz.prog 138 #[.string ⟨l.toArray⟩] w (RetRd w l) := by
  have hsz : (⟨l.toArray⟩ : ByteArray).size = l.length := rfl
  have hit0 := World.iter_heap w (⟨l.toArray⟩ : ByteArray) 0
  have hb0 := (Below.refl w.heap.size w).alloc (Nat.le_refl _) (.stringIter (⟨l.toArray⟩ : ByteArray) 0)
  obtain ⟨S, hS⟩ : ∃ S : ByteArray, S = ⟨l.toArray⟩ := ⟨_, rfl⟩
  rw [← hS] at hsz hit0 hb0
  have hget : ∀ (pos : Nat) (h : pos < S.size) (h2 : pos < l.length), S[pos]'h = l[pos]'h2 := by subst hS; intro pos h h2; rfl
  rw [← hS]
  have hsz := Lib.hid hsz
  have hne : Hid (S.toList.isEmpty = decide (l.length = 0)) := by
    show _ = _
    rw [ByteArray.toList_eq, hS]
    cases l with
    | nil => rfl
    | cons a l => rfl
  clear hS
  go_enter Tryz.func138, Tryz.ntmps138
  go_wp2
  go_loopw [4, 5, 6] (fun va vc vs wr => ∃ (pos k x ch sc m c : Nat) (A : Option Addr) (us : List Nat), va = .slice A m c ∧ Dg .u64 wr A m c us ∧ Nrm us ∧ Hid (vl (bs .u64) us = x) ∧ m ≤ pos ∧ vc = .int .u64 ((ch : Nat) : Int) ∧ vs = .int .u64 ((sc : Nat) : Int) ∧ Hid (sc = 10 ^ k) ∧ k < 19 ∧ ch < sc ∧ sc ≤ 1000000000000000000 ∧ Hid (x * 10 ^ k + ch = dval (l.take pos)) ∧ Hid ((l.take pos).all dgt = true) ∧ wr.heap[w.heap.size]? = some (.stringIter S pos) ∧ pos ≤ l.length ∧ Below w.heap.size w wr) (fun _ _ _ wr => l.length - wr.iterPos w.heap.size)
  case atStart =>
    exact ⟨0, 0, 0, 0, 1, 0, 0, none, [], rfl, Dg.nil .u64 _, Nrm.nil, rfl, Nat.le_refl _, rfl, rfl, rfl, by decide, by decide, by decide, rfl, rfl, hit0, Nat.zero_le _, hb0⟩
  case round =>
    obtain ⟨pos, k, x, ch, sc, m, c, A, us, rfl, hD, hN, hv, hm, rfl, rfl, hsc, hk, hch, hscb, hV, hAll, hit, hpl, hbw⟩ := hrel
    by_cases hp : pos < S.size
    · have hpl' : pos < l.length := by rw [hsz.out] at hp; exact hp
      have hgt := Lib.hid (hget pos hp hpl')
      by_cases hdg : dgt (l[pos]'hpl') = true
      · have hd2 := hdg
        simp only [dgt, Bool.and_eq_true, decide_eq_true_eq] at hd2
        obtain ⟨b, hbe⟩ : ∃ b, (l[pos]'hpl').toNat = b := ⟨_, rfl⟩
        have hbS : (S[pos]'hp).toNat = b := by rw [hgt.out]; exact hbe
        have hV2 := Lib.hid (rd_step hpl' hV.out)
        have hA2 := Lib.hid (rd_all hpl' hAll.out hdg)
        have hnx : ∀ ty, (Instr.next (.pointer (some ⟨w.heap.size, 0, none⟩)) true ty).run Tryz.prog wr = .ok (.tuple #[.bool true, .int .i64 pos, .int .i32 (b : Int)]) (wr.iterAt w.heap.size S (pos + 1)) := fun ty => by
          rw [Lib.run_next_ascii_at wr w.heap.size S pos ty hit hp (by rw [hbS]; omega), hbS]
        rw [hbe] at hd2
        have hV2' := hV2.out
        rw [hbe] at hV2'
        have hV2 := Lib.hid hV2'
        clear hV2' hbS hdg
        have hit2 := Lib.iterAt_heap wr w.heap.size S pos (pos + 1) hit
        have hbw2 := Lib.below_iterAt hbw (Nat.le_refl _) S (pos + 1)
        have hDi := hD.iterAt hit (pos + 1)
        have d1 : decide ((b : Int) < 48) = false := decide_eq_false (by omega)
        have d2 : decide ((57 : Int) < (b : Int)) = false := decide_eq_false (by omega)
        obtain ⟨c10, hc10⟩ : ∃ n, n = 10 * ch := ⟨_, rfl⟩
        obtain ⟨dd, hdd⟩ : ∃ n, n = b - 48 := ⟨_, rfl⟩
        obtain ⟨ch2, hch2⟩ : ∃ n, n = c10 + dd := ⟨_, rfl⟩
        obtain ⟨sc2, hsc2⟩ : ∃ n, n = 10 * sc := ⟨_, rfl⟩
        have e1 : IntKind.u64.wrap (10 * (ch : Int)) = (c10 : Int) := by rw [show 10 * (ch : Int) = (c10 : Int) by omega]; exact IntWalk.u64_in _ (by omega)
        have e2 : IntKind.i32.wrap ((b : Int) - 48) = (dd : Int) := by rw [show (b : Int) - 48 = (dd : Int) by omega]; exact IntWalk.i32_in _ (by omega)
        have e3 : IntKind.u64.wrap (dd : Int) = (dd : Int) := IntWalk.u64_in _ (by omega)
        have e4 : IntKind.u64.wrap ((c10 : Int) + (dd : Int)) = (ch2 : Int) := by rw [show (c10 : Int) + (dd : Int) = (ch2 : Int) by omega]; exact IntWalk.u64_in _ (by omega)
        have e5 : IntKind.u64.wrap (10 * (sc : Int)) = (sc2 : Int) := by rw [show 10 * (sc : Int) = (sc2 : Int) by omega]; exact IntWalk.u64_in _ (by omega)
        have hcs : ch2 < sc2 := by omega
        have hce : ch2 = 10 * ch + (b - 48) := by omega
        rw [← hce] at hV2
        have hse := Lib.hid (show sc2 = 10 ^ (k + 1) by rw [hsc2, hsc.out, Nat.pow_succ, Nat.mul_comm])
        have hsb : sc2 ≤ 10000000000000000000 := by omega
        have hmp : m + 1 ≤ pos + 1 := by omega
        have hm1 : m ≤ 1000000 := by omega
        have hiw : ∀ W : World, W.heap[w.heap.size]? = some (.stringIter S (pos + 1)) → W.iterPos w.heap.size = pos + 1 := fun W hW => by simp only [World.iterPos, hW]
        have hip : wr.iterPos w.heap.size = pos := by simp only [World.iterPos, hit]
        clear hc10 hdd hch2 hsc2 hce hch hscb hd2 hV hAll hbe hgt
        have hsz2 : w.heap.size < (wr.iterAt w.heap.size S (pos + 1)).heap.size := by rw [Lib.iterAt_size]; exact (Array.getElem?_eq_some_iff.1 hit).1
        by_cases hk8 : k = 18
        · have hse' : sc2 = 10000000000000000000 := by rw [hse.out, hk8]
          have e6 : ((sc2 : Int) == 10000000000000000000) = true := by rw [beq_iff_eq]; omega
          have Hse := Lib.hid hse'
          have Hk := Lib.hid hk8
          clear hse' hk8
          go_wp2_with fail
          refine (behindQ A m c sc2 ch2 us _ hDi hm1 (by omega) (by omega)).mono ?_
          rintro e w2 ⟨A2, m2, c2, us2, rfl, hD2, hN2, hv2, hm2, hb2⟩
          have hb3 := hbw2.trans (hb2.mono (Nat.le_of_lt hsz2))
          have hit3 := (hb2.block w.heap.size hsz2).trans hit2
          have hv3 := Lib.hid (show vl (bs .u64) us2 = dval (l.take (pos + 1)) by rw [hv2.out, ← hV2.out, hv.out, Hse.out, Hk.out])
          go_wp2
          go_roundw
          case rel => exact ⟨pos + 1, 0, _, 0, 1, m2, c2, A2, us2, rfl, hD2, hN2, hv3, by omega, rfl, rfl, rfl, by decide, by decide, by decide, (by show _ * 10 ^ 0 + 0 = _; rw [Nat.pow_zero, Nat.mul_one, Nat.add_zero]), hA2, hit3, hpl', hb3⟩
          case measure => rw [hiw _ hit3, hip]; omega
        · have hk2 : k + 1 < 19 := by omega
          have hsm : sc2 ≤ 1000000000000000000 := by rw [hse.out]; exact Nat.pow_le_pow_right (n := 10) (by decide) (show k + 1 ≤ 18 by omega)
          have e6 : ((sc2 : Int) == 10000000000000000000) = false := by rw [beq_eq_false_iff_ne]; omega
          clear hk8
          go_wp2
          go_roundw
          case rel => exact ⟨pos + 1, k + 1, x, ch2, sc2, m, c, A, us, rfl, hDi, hN, hv, by omega, rfl, rfl, hse, hk2, hcs, hsm, hV2, hA2, hit2, hpl', hbw2⟩
          case measure => rw [hiw _ hit2, hip]; omega
      · have hbad : ∃ b wd : Nat, (b < 48 ∨ 57 < b) ∧ ∀ ty, (Instr.next (.pointer (some ⟨w.heap.size, 0, none⟩)) true ty).run Tryz.prog wr = .ok (.tuple #[.bool true, .int .i64 pos, .int .i32 (b : Int)]) (wr.iterAt w.heap.size S (pos + wd)) := by
          by_cases ha : (S[pos]'hp).toNat < 128
          · refine ⟨(S[pos]'hp).toNat, 1, ?_, fun ty => Lib.run_next_ascii_at wr w.heap.size S pos ty hit hp ha⟩
            rw [hgt.out]
            simp only [dgt, Bool.and_eq_true, decide_eq_true_eq] at hdg
            omega
          · exact ⟨(Utf8.decode S pos).1, (Utf8.decode S pos).2, .inr (by have := (decode_high S pos hp (by omega)).1; omega), fun ty => Lib.run_next_any_at wr w.heap.size S pos ty hit hp⟩
        obtain ⟨b, wd, hb, hnx⟩ := hbad
        have hallf := Lib.hid (all_false hpl' hdg)
        have hbw2 := Lib.below_iterAt hbw (Nat.le_refl _) S (pos + wd)
        clear hdg hgt
        have hfin : ∀ W : World, Below w.heap.size w W → RetRd w l (.returned (.tuple #[.slice none 0 0, .bool false])) W := fun W hW =>
          ⟨_, _, rfl, (by show _ = _; rw [hallf.out]; rfl), (by rw [hallf.out]; exact NV.mk (Dg.nil .u64 W) Nrm.nil (show _ = _ from rfl) (Nat.zero_le _)), hW⟩
        by_cases h48 : b < 48
        · have d1 : decide ((b : Int) < 48) = true := decide_eq_true (by omega)
          clear hb
          go_wp2
          go_ret2
          exact hfin _ hbw2
        · have d1 : decide ((b : Int) < 48) = false := decide_eq_false (by omega)
          have d2 : decide ((57 : Int) < (b : Int)) = true := decide_eq_true (by omega)
          clear hb h48
          go_wp2
          go_ret2
          exact hfin _ hbw2
    · have hnx : ∀ ty, (Instr.next (.pointer (some ⟨w.heap.size, 0, none⟩)) true ty).run Tryz.prog wr = _ := fun ty => Lib.run_next_end_at wr w.heap.size S pos ty hit hp
      obtain rfl : pos = l.length := by rw [hsz.out] at hp; omega
      have hV1 := hV.out
      have hA1 := hAll.out
      rw [List.take_length] at hV1 hA1
      have hV1 := Lib.hid hV1
      have hA1 := Lib.hid hA1
      clear hV hAll
      go_wp2_with fail
      refine (behindQ A m c sc ch us _ hD (by omega) (by omega) (by omega)).mono ?_
      rintro e w2 ⟨A2, m2, c2, us2, rfl, hD2, hN2, hv2, hm2, hb2⟩
      go_wp2
      go_ret2
      refine ⟨_, _, rfl, ?_, ?_, hbw.trans (hb2.mono hbw.size)⟩
      · show (!S.toList.isEmpty) = _
        rw [hne.out, hA1.out]
        by_cases h0 : l.length = 0
        · rw [h0]; rfl
        · rw [decide_eq_false h0, decide_eq_true (by omega)]; rfl
      · rw [hA1.out]
        exact NV.mk hD2 hN2 (show _ = _ by rw [hv2.out, hv.out, hsc.out, hV1.out]; rfl) (by omega)
end Go.Proofs.YtbgihlfblmilmaaGreatDoor.Fr
