/- The size of an integer. -/
import Derived.Test.YtoljffghaklpdaaDoorPL
import Derived.Test.YtoljffghaklpdaaDoorFD
import Derived.Test.YtoljffghaklpdaaDoorGE
namespace Go.Proofs.YtoljffghaklpdaaDoor.Fr
open Go.RowKit Num

set_option maxHeartbeats 1600000 in
set_option maxRecDepth 100000 in
theorem Size_any (A A' : Option Addr) (n c n' c' : Nat) (xs ys : List Nat) (w : World) (h : Dg .u32 w A n c xs) (h' : Dg .u32 w A' n' c' ys) (hn : n ≤ 1000) (hn' : n' ≤ 1000) (X : Nat) (hX : Hid (vl (bs .u32) xs = X)) (hY : Hid (vl (bs .u32) ys = 0)) :
    Calls Tryd.prog 71 #[.agg #[.bool false, .slice A n c, .slice A' n' c']] w fun e w' => e = .returned (.int .i64 ((bl X : Nat) + 1)) ∧ Below w.heap.size w w' := by
  have B1 := Blk.new w 75 #[.bool false, .slice A n c, .slice A' n' c']
  have hw0 := (Below.refl w.heap.size w).alloc (Nat.le_refl _) (.cells #[.bool false, .slice A n c, .slice A' n' c'] 75)
  have h1 := h.below hw0
  have h2 := h'.below hw0
  have hXb : X < bs .u32 ^ n := by
    have := vl_lt h.ok
    rwa [hX.out, h.len] at this
  have hbl : bl X ≤ 32000 := by
    have h9 : bl X ≤ 32 * n := bl_le (by rw [bs32_pow] at hXb; exact hXb)
    omega
  clear hXb
  have h1b : bl 1 = 1 := by decide
  go_enter Tryd.func71, Tryd.ntmps71
  go_upto_region 1 with fail
  generalize w.alloc (.cells #[.bool false, .slice A n c, .slice A' n' c'] 75) = w1 at *
  have k0 : w1.cell? ⟨w.heap.size, 0, none⟩ = some (.bool false) := B1.cell 0
  have k1 : w1.cell? ⟨w.heap.size, 1, none⟩ = some (.slice A n c) := B1.cell 1
  have k2 : w1.cell? ⟨w.heap.size, 2, none⟩ = some (.slice A' n' c') := B1.cell 2
  go_wp2_with fail
  refine (load_any false _ _ _ _ _ _ _ _ _ h1 h2 (by omega) (by omega)).mono ?_
  rw [hX.out, hY.out]
  rintro r w2 ⟨_, rfl, ⟨_, _, rfl, ⟨A3, m3, c3, us3, rfl, hD3, hN3, hv3, hm3⟩, ⟨A4, m4, c4, us4, rfl, hD4, hN4, hv4, hm4⟩⟩, hb2⟩
  rw [show (false && decide (0 < X)) = false from rfl]
  have hw2 := hw0.trans (hb2.mono hw0.size)
  have hm41 : m4 ≤ 1 := by
    have := len_of_lt hN4 hv4.out (k := 1) (by decide)
    rw [hD4.len] at this
    exact this
  go_wp2_with fail
  refine (reduce_one false _ _ _ _ _ _ _ _ _ hD3 hD4 hN3 hN4 X 1 hv3 hv4 (by omega) hm41 (Nat.gcd_one_right X)).mono ?_
  rintro r w4 ⟨_, rfl, ⟨_, _, rfl, ⟨A5, m5, c5, us5, rfl, hD5, hN5, hv5, hm5⟩, ⟨A6, m6, c6, us6, rfl, hD6, hN6, hv6, hm6⟩⟩, hb4⟩
  have hw4 := hw2.trans (hb4.mono hw2.size)
  have E3 := Blk.new w4 89 #[.bool false, .slice A5 m5 c5, .slice A6 m6 c6]
  have hD5 := hD5.alloc (.cells #[.bool false, .slice A5 m5 c5, .slice A6 m6 c6] 89)
  have hD6 := hD6.alloc (.cells #[.bool false, .slice A5 m5 c5, .slice A6 m6 c6] 89)
  have hw5 := hw4.alloc hw4.size (.cells #[.bool false, .slice A5 m5 c5, .slice A6 m6 c6] 89)
  go_wp2_with fail
  generalize w4.alloc (.cells #[.bool false, .slice A5 m5 c5, .slice A6 m6 c6] 89) = w5 at *
  have q1 : w5.cell? ⟨w4.heap.size, 1, none⟩ = some (.slice A5 m5 c5) := E3.cell 1
  have q2 : w5.cell? ⟨w4.heap.size, 2, none⟩ = some (.slice A6 m6 c6) := E3.cell 2
  have s1 := Lib.hid (fun i => size64_any A5 m5 c5 us5 (w5.drewN i) (hD5.drewN i) hN5 (by omega) X hv5)
  have s2 := Lib.hid (fun i => size64_any A6 m6 c6 us6 (w5.drewN i) (hD6.drewN i) hN6 (by omega) 1 hv6)
  have e1 : IntKind.i64.wrap ((bl X : Nat) + (bl 1 : Nat)) = ((bl X : Nat) : Int) + 1 := by rw [h1b]; exact IntWalk.i64_in _ (by omega)
  clear hD5 hD6 hN5 hN6 hv5 hv6
  go_quiet (first | (go_at_call_of 98 (Value.slice A5 m5 c5); exact Calls.quiet_of_same ((s1.out _).mono fun _ _ h => ⟨h.1, h.2.symm⟩)) | (go_at_call_of 98 (Value.slice A6 m6 c6); exact Calls.quiet_of_same ((s2.out _).mono fun _ _ h => ⟨h.1, h.2.symm⟩)))
  go_wp2
  go_ret
  exact ⟨rfl, bel_drewN hw5 nq⟩
end Go.Proofs.YtoljffghaklpdaaDoor.Fr


/- Logarithms: the program's. -/
namespace Go.Proofs.YtoljffghaklpdaaDoor
open Go.RowKit

/-- 16 times the logarithm to base 2, rounded down; -16 for 0 -/
def lg (e : Nat) : Int := if e = 0 then -16 else (Fr.bl (e ^ 16) : Nat) - 1

theorem bl_pow (m e : Nat) (he : 0 < e) (h : m < 2 ^ 64) : Fr.bl (m ^ e) ≤ 64 * e := Fr.bl_le (by rw [Nat.pow_mul]; exact Nat.pow_lt_pow_left h (by omega))

set_option maxHeartbeats 1600000 in
set_option maxRecDepth 100000 in
theorem Log_any (e : Int) (w : World) (he : e ≤ 9223372036854775807) :
    Calls Tryd.prog 35 #[.int .i64 e] w fun r w' => r = .returned (if e < 0 then .tuple #[.int .i64 0, .int .i64 2] else .tuple #[.int .i64 (lg e.toNat), .int .i64 0]) ∧ Below w.heap.size w w' := by
  by_cases h0 : e < 0
  · rw [if_pos h0]
    go_enter Tryd.func35, Tryd.ntmps35
    go_wp2
    go_ret2
    exact ⟨rfl, Below.refl _ _⟩
  · rw [if_neg h0]
    obtain ⟨m, rfl⟩ : ∃ m : Nat, e = (m : Int) := ⟨e.toNat, by omega⟩
    have hd : decide ((m : Int) < 0) = false := decide_eq_false h0
    rcases Nat.eq_zero_or_pos m with rfl | hm
    · go_enter Tryd.func35, Tryd.ntmps35
      go_wp2
      go_ret2
      exact ⟨rfl, Below.refl _ _⟩
    · have hv := Lib.hid (show lg (m : Int).toNat = (Fr.bl (m ^ 16) : Nat) - 1 by unfold lg; rw [Int.toNat_natCast, if_neg (by omega)])
      have hz : ((m : Int) == 0) = false := by rw [beq_eq_false_iff_ne]; omega
      have hmb := Lib.hid (show m < Fr.bs .u64 from (by show m < 18446744073709551616; omega))
      have hbl := bl_pow m 16 (by decide) (by omega)
      go_enter Tryd.func35, Tryd.ntmps35
      go_wp2_with fail
      refine (Fr.of_any (m : Int) w (by omega)).mono ?_
      rintro r w2 ⟨_, rfl, ⟨_, _, rfl, ⟨A3, m3, c3, us3, rfl, hD3, hN3, hv3, hm3⟩, ⟨A4, m4, c4, us4, rfl, hD4, hN4, hv4, hm4⟩⟩, hb2⟩
      rw [hd]
      rw [Int.natAbs_natCast] at hv3
      go_wp2_with fail
      refine (Fr.Pow_any _ _ _ _ _ _ _ _ _ hD3 hD4 hm3 hm4 m 16 hv3 hv4 (by decide) hmb).mono ?_
      rintro r w3 ⟨_, rfl, ⟨_, _, rfl, ⟨A5, m5, c5, us5, rfl, hD5, hN5, hv5, hm5⟩, ⟨A6, m6, c6, us6, rfl, hD6, hN6, hv6, hm6⟩⟩, hb3⟩
      have hb4 := hb2.trans (hb3.mono hb2.size)
      have B := Blk.new w3 75 #[.bool false, .slice A5 m5 c5, .slice A6 m6 c6]
      have hD5 := hD5.alloc (.cells #[.bool false, .slice A5 m5 c5, .slice A6 m6 c6] 75)
      have hD6 := hD6.alloc (.cells #[.bool false, .slice A5 m5 c5, .slice A6 m6 c6] 75)
      have hb5 := hb4.alloc hb4.size (.cells #[.bool false, .slice A5 m5 c5, .slice A6 m6 c6] 75)
      go_wp2_with fail
      refine (Fr.Size_any _ _ _ _ _ _ _ _ _ hD5 hD6 (by omega) (by omega) _ hv5 hv6).mono ?_
      rintro r w6 ⟨rfl, hb6⟩
      have hb7 := hb5.trans (hb6.mono hb5.size)
      generalize Fr.bl (m ^ 16) = L at *
      go_wp2
      go_ret2
      exact ⟨by rw [hv.out, show ((L : Int) - 1) = (L : Int) + 1 - 2 by omega]; rfl, hb7⟩
end Go.Proofs.YtoljffghaklpdaaDoor


/- The chapter's examples, which every law runs. -/
namespace Go.Proofs.YtoljffghaklpdaaDoor
open Go.RowKit

theorem sl_lit (w : World) (t : TypeId) (xs : List Int) (n : Nat) (hn : xs.length = n) (ht : n ≤ 140737488355328) (cs : Array Value) (hc : (ivs .i64 xs).toArray = cs) : Sl .i64 (w.alloc (.cells cs t)) (some ⟨w.heap.size, 0, none⟩) n n xs := by
  subst hc
  exact (Mk.new w t .i64 xs).sl hn ht
theorem rows3 (w : World) (xs ys zs : List Int) (a b d : Nat) (ha : xs.length = a) (hb : ys.length = b) (hd : zs.length = d) (ha2 : a ≤ 1000) (hb2 : b ≤ 1000) (hd2 : d ≤ 1000) (cx cy cz : Array Value) (hx : (ivs .i64 xs).toArray = cx) (hy : (ivs .i64 ys).toArray = cy) (hz : (ivs .i64 zs).toArray = cz) (t : TypeId) :
    Rr ((((w.alloc (.cells cx t)).alloc (.cells cy t)).alloc (.cells cz t)).alloc (.cells #[.slice (some ⟨w.heap.size, 0, none⟩) a a, .slice (some ⟨w.heap.size + 1, 0, none⟩) b b, .slice (some ⟨w.heap.size + 1 + 1, 0, none⟩) d d] 30)) (some ⟨w.heap.size + 1 + 1 + 1, 0, none⟩) 3 3 [xs, ys, zs] ∧
    Below w.heap.size w ((((w.alloc (.cells cx t)).alloc (.cells cy t)).alloc (.cells cz t)).alloc (.cells #[.slice (some ⟨w.heap.size, 0, none⟩) a a, .slice (some ⟨w.heap.size + 1, 0, none⟩) b b, .slice (some ⟨w.heap.size + 1 + 1, 0, none⟩) d d] 30)) := by
  have s1 := sl_lit w t xs a ha (by omega) cx hx
  have s2 := sl_lit (w.alloc (.cells cx t)) t ys b hb (by omega) cy hy
  have s3 := sl_lit ((w.alloc (.cells cx t)).alloc (.cells cy t)) t zs d hd (by omega) cz hz
  have e1 : (w.alloc (.cells cx t)).heap.size = w.heap.size + 1 := by simp
  have e2 : ((w.alloc (.cells cx t)).alloc (.cells cy t)).heap.size = w.heap.size + 1 + 1 := by simp
  have e3 : (((w.alloc (.cells cx t)).alloc (.cells cy t)).alloc (.cells cz t)).heap.size = w.heap.size + 1 + 1 + 1 := by simp
  rw [e1] at s2
  rw [e2] at s3
  have B := Blk.new (((w.alloc (.cells cx t)).alloc (.cells cy t)).alloc (.cells cz t)) 30 #[.slice (some ⟨w.heap.size, 0, none⟩) a a, .slice (some ⟨w.heap.size + 1, 0, none⟩) b b, .slice (some ⟨w.heap.size + 1 + 1, 0, none⟩) d d]
  rw [e3] at B
  refine ⟨Rr.of_blk (news := [.slice (some ⟨w.heap.size, 0, none⟩) a a, .slice (some ⟨w.heap.size + 1, 0, none⟩) b b, .slice (some ⟨w.heap.size + 1 + 1, 0, none⟩) d d]) B ?_ rfl (by decide), ?_⟩
  · have r1 := RowL.one (((s1.alloc (.cells cy t)).alloc (.cells cz t)).alloc (.cells #[.slice (some ⟨w.heap.size, 0, none⟩) a a, .slice (some ⟨w.heap.size + 1, 0, none⟩) b b, .slice (some ⟨w.heap.size + 1 + 1, 0, none⟩) d d] 30)) (fun e => by cases e) (by omega)
    have r2 := RowL.one ((s2.alloc (.cells cz t)).alloc (.cells #[.slice (some ⟨w.heap.size, 0, none⟩) a a, .slice (some ⟨w.heap.size + 1, 0, none⟩) b b, .slice (some ⟨w.heap.size + 1 + 1, 0, none⟩) d d] 30)) (fun e => by cases e) (by omega)
    have r3 := RowL.one (s3.alloc (.cells #[.slice (some ⟨w.heap.size, 0, none⟩) a a, .slice (some ⟨w.heap.size + 1, 0, none⟩) b b, .slice (some ⟨w.heap.size + 1 + 1, 0, none⟩) d d] 30)) (fun e => by cases e) (by omega)
    exact r1.app (r2.app r3)
  · exact ((((Below.refl w.heap.size w).alloc (Nat.le_refl _) _).alloc (by rw [e1]; omega) _).alloc (by rw [e2]; omega) _).alloc (by rw [e3]; omega) _
theorem rows2 (w : World) (xs ys : List Int) (a b : Nat) (ha : xs.length = a) (hb : ys.length = b) (ha2 : a ≤ 1000) (hb2 : b ≤ 1000) (cx cy : Array Value) (hx : (ivs .i64 xs).toArray = cx) (hy : (ivs .i64 ys).toArray = cy) (t : TypeId) :
    Rr (((w.alloc (.cells cx t)).alloc (.cells cy t)).alloc (.cells #[.slice (some ⟨w.heap.size, 0, none⟩) a a, .slice (some ⟨w.heap.size + 1, 0, none⟩) b b] 30)) (some ⟨w.heap.size + 1 + 1, 0, none⟩) 2 2 [xs, ys] ∧
    Below w.heap.size w (((w.alloc (.cells cx t)).alloc (.cells cy t)).alloc (.cells #[.slice (some ⟨w.heap.size, 0, none⟩) a a, .slice (some ⟨w.heap.size + 1, 0, none⟩) b b] 30)) := by
  have s1 := sl_lit w t xs a ha (by omega) cx hx
  have s2 := sl_lit (w.alloc (.cells cx t)) t ys b hb (by omega) cy hy
  have e1 : (w.alloc (.cells cx t)).heap.size = w.heap.size + 1 := by simp
  have e2 : ((w.alloc (.cells cx t)).alloc (.cells cy t)).heap.size = w.heap.size + 1 + 1 := by simp
  rw [e1] at s2
  have B := Blk.new ((w.alloc (.cells cx t)).alloc (.cells cy t)) 30 #[.slice (some ⟨w.heap.size, 0, none⟩) a a, .slice (some ⟨w.heap.size + 1, 0, none⟩) b b]
  rw [e2] at B
  refine ⟨Rr.of_blk (news := [.slice (some ⟨w.heap.size, 0, none⟩) a a, .slice (some ⟨w.heap.size + 1, 0, none⟩) b b]) B ?_ rfl (by decide), ?_⟩
  · have r1 := RowL.one ((s1.alloc (.cells cy t)).alloc (.cells #[.slice (some ⟨w.heap.size, 0, none⟩) a a, .slice (some ⟨w.heap.size + 1, 0, none⟩) b b] 30)) (fun e => by cases e) (by omega)
    have r2 := RowL.one (s2.alloc (.cells #[.slice (some ⟨w.heap.size, 0, none⟩) a a, .slice (some ⟨w.heap.size + 1, 0, none⟩) b b] 30)) (fun e => by cases e) (by omega)
    exact r1.app r2
  · exact (((Below.refl w.heap.size w).alloc (Nat.le_refl _) _).alloc (by rw [e1]; omega) _).alloc (by rw [e2]; omega) _

set_option maxHeartbeats 1600000 in
theorem SameL_eq (A A' : Option Addr) (n c n' c' : Nat) (vs us : List (List Int)) (w : World) (h : Rr w A n c vs) (h' : Rr w A' n' c' us) (he : vs = us) :
    Calls Tryd.prog 46 #[.slice A n c, .slice A' n' c'] w fun e w' => e = .returned (.bool true) ∧ ∃ k, w' = w.drewN k := by
  subst he
  have hnn : n' = n := by rw [← h.len, ← h'.len]
  subst hnn
  have hcap := h.cap
  have htop := h.top
  have hcap' := h'.cap
  go_enter Tryd.func46, Tryd.ntmps46
  go_wp2
  go_loopw [5] (fun iv wr => ∃ k r : Nat, iv = .int .i64 k ∧ k ≤ n' ∧ wr = w.drewN r) (fun iv _ => n' - (intOf iv).toNat)
  case atStart => exact ⟨0, 0, rfl, Nat.zero_le _, rfl⟩
  case round =>
    obtain ⟨k, r, rfl, hk, rfl⟩ := hrel
    have hr := h.below (bel_drewN (Below.refl w.heap.size w) r)
    have hr' := h'.below (bel_drewN (Below.refl w.heap.size w) r)
    generalize hw : w.drewN r = w1 at *
    have hw := Lib.hid hw
    rcases Nat.lt_or_ge k n' with hlt | hge
    · obtain ⟨ad, B, L, C, x, rfl, hc, hx, hS, _⟩ := hr.at_ hlt
      obtain ⟨ad', B', L', C', y, rfl, hc', hy, hS', _⟩ := hr'.at_ hlt
      have hxy : x = y := by have := hx.out; rw [hy.out] at this; injection this with this; exact this.symm
      subst hxy
      have i0 : (0 : Int) ≤ (k : Int) := by omega
      have i1 : (k : Int) < (n' : Int) := by omega
      have hs := Lib.hid (fun (i : Nat) => show Calls Tryd.prog 26 #[.slice B L C, .slice B' L' C'] (w1.drewN i) (fun e w' => e = .returned (.bool true) ∧ ∃ j, w' = (w1.drewN i).drewN j) from (Same_any _ _ _ _ _ _ _ _ _ (hS.drewN i) (hS'.drewN i)).mono fun e w' ⟨j, h1, h2⟩ => by
        rw [sameB_yes rfl] at h1
        exact ⟨h1, j, h2⟩)
      clear hS hS'
      go_wp2
      go_quiet (first | (go_at_call 26; exact Calls.quiet_of (hs.out _)))
      go_wp2
      go_roundw
      case rel => exact ⟨k + 1, r + nq, by go_num, hlt, by rw [← hw.out]; exact dr_add w r nq⟩
      case measure => simp [intOf]; omega
    · have hkn : k = n' := by omega
      subst hkn
      go_wp2
      go_ret
      exact ⟨rfl, r, hw.out.symm⟩

theorem ex1 : trOk [1, -1] = true ∧ trL [1, -1] = [0, 23170] := by decide +kernel
theorem ex2 : ivOk [32768, 0] = true ∧ ivL [32768, 0] = [1, 1] := by decide +kernel
theorem ex3 : cpOk [16, 16, 16] 2 = true ∧ cpL [16, 16, 16] 2 = [48, 15] := by decide +kernel
theorem ex4 : lg 1000 = 159 := by decide +kernel
theorem ex5 : codC [[0], [1], [9]] [[0], [10]] = 0 ∧ impL 1 [[0], [1], [9]] [[0], [10]] = [[1], [9]] := by decide +kernel
theorem ex6 : difC [[1], [3], [4]] = 0 ∧ difL [[1], [3], [4]] = [[1, 2], [3, 3], [4, 1]] := by decide +kernel

set_option maxHeartbeats 4000000 in
set_option maxRecDepth 100000 in
theorem known_any (w : World) (hT : Tab w) : Calls Tryd.prog 17 #[] w fun e w' => e = .returned (.bool true) ∧ Below w.heap.size w w' := by
  go_enter Tryd.func17, Tryd.ntmps17
  go_wp2_with fail
  have hb1 := (Below.refl w.heap.size w).alloc (Nat.le_refl _) (.cells #[.int .i64 1, .int .i64 (-1)] 3)
  refine (Transform_any _ 2 2 [1, -1] _ (sl_lit w 3 [1, -1] 2 rfl (by decide) _ rfl) (hT.below hb1)).mono ?_
  rintro e w1 (⟨_, g1, rfl, hM, hb2⟩ | ⟨hk, _⟩)
  rotate_left
  · rw [ex1.1] at hk; cases hk
  rw [ex1.2] at hM
  have hS1 := hM.sl (n := 2) rfl (by decide)
  have hw1 := hb1.trans (hb2.1.mono hb1.size)
  have hT1 := hT.below hw1
  clear hb1 hb2 hM hT
  go_wp2_with fail
  have hb1 := (Below.refl w1.heap.size w1).alloc (Nat.le_refl _) (.cells #[.int .i64 32768, .int .i64 0] 3)
  refine (Inverse_any _ 2 2 [32768, 0] _ (sl_lit w1 3 [32768, 0] 2 rfl (by decide) _ rfl) (hT1.below hb1)).mono ?_
  rintro e w2 (⟨_, g2, rfl, hM, hb2⟩ | ⟨hk, _⟩)
  rotate_left
  · rw [ex2.1] at hk; cases hk
  rw [ex2.2] at hM
  have hS2 := hM.sl (n := 2) rfl (by decide)
  have hb := hb1.trans (hb2.1.mono hb1.size)
  have hS1 := hS1.below hb
  have hw2 := hw1.trans (hb.mono hw1.size)
  have hT2 := hT1.below hb
  clear hb1 hb2 hM hb hT1
  go_wp2_with fail
  have hb1 := (Below.refl w2.heap.size w2).alloc (Nat.le_refl _) (.cells #[.int .i64 16, .int .i64 16, .int .i64 16] 3)
  refine (Cepstrum_any _ 3 3 [16, 16, 16] 2 _ (sl_lit w2 3 [16, 16, 16] 3 rfl (by decide) _ rfl) (hT2.below hb1)).mono ?_
  rintro e w3 (⟨_, A3, c3, rfl, hS3, hb2⟩ | ⟨hk, _⟩)
  rotate_left
  · rw [ex3.1] at hk; cases hk
  rw [ex3.2] at hS3
  have hS3 : Sl .i64 w3 A3 2 c3 [48, 15] := hS3
  have hb := hb1.trans (hb2.mono hb1.size)
  have hS1 := hS1.below hb
  have hS2 := hS2.below hb
  have hw3 := hw2.trans (hb.mono hw2.size)
  have hT3 := hT2.below hb
  clear hb1 hb2 hb hT2
  go_wp2_with fail
  refine (Log_any 1000 _ (by decide)).mono ?_
  rintro e w4 ⟨rfl, hb⟩
  rw [if_neg (by decide), show (1000 : Int).toNat = 1000 from rfl, ex4]
  have hS1 := hS1.below hb
  have hS2 := hS2.below hb
  have hS3 := hS3.below hb
  have hw4 := hw3.trans (hb.mono hw3.size)
  clear hb hT3
  go_wp2_with fail
  have hra := rows3 w4 [0] [1] [9] 1 1 1 rfl rfl rfl (by decide) (by decide) (by decide) _ _ _ rfl rfl rfl 3
  have hsz : ((((w4.alloc (.cells #[.int .i64 0] 3)).alloc (.cells #[.int .i64 1] 3)).alloc (.cells #[.int .i64 9] 3)).alloc (.cells #[.slice (some ⟨w4.heap.size, 0, none⟩) 1 1, .slice (some ⟨w4.heap.size + 1, 0, none⟩) 1 1, .slice (some ⟨w4.heap.size + 1 + 1, 0, none⟩) 1 1] 30)).heap.size = w4.heap.size + 1 + 1 + 1 + 1 := by simp
  have hrb := rows2 ((((w4.alloc (.cells #[.int .i64 0] 3)).alloc (.cells #[.int .i64 1] 3)).alloc (.cells #[.int .i64 9] 3)).alloc (.cells #[.slice (some ⟨w4.heap.size, 0, none⟩) 1 1, .slice (some ⟨w4.heap.size + 1, 0, none⟩) 1 1, .slice (some ⟨w4.heap.size + 1 + 1, 0, none⟩) 1 1] 30)) [0] [10] 1 1 rfl rfl (by decide) (by decide) _ _ rfl rfl 3
  rw [hsz] at hrb
  have hr1 := hra.1.below (hrb.2.mono (Nat.le_of_eq hsz))
  have hb1 := hra.2.trans (hrb.2.mono (Nat.le_trans hra.2.size (Nat.le_of_eq hsz)))
  refine (Improve_any _ _ _ _ _ _ [[0], [1], [9]] [[0], [10]] _ hr1 hrb.1).mono ?_
  rintro e w5 (⟨_, A5, c5, rfl, hR5, hb2⟩ | ⟨hk, _⟩)
  rotate_left
  · exact absurd ex5.1 hk
  rw [show ([[0], [10]] : List (List Int)).headD [] = [0] from rfl, show ([0] : List Int).length = 1 from rfl, ex5.2] at hR5
  have hb := hb1.trans (hb2.mono hb1.size)
  have hS1 := hS1.below hb
  have hS2 := hS2.below hb
  have hS3 := hS3.below hb
  have hw5 := hw4.trans (hb.mono hw4.size)
  clear hb hb1 hb2 hra hrb hr1 hsz
  go_wp2_with fail
  have hra := rows3 w5 [1] [3] [4] 1 1 1 rfl rfl rfl (by decide) (by decide) (by decide) _ _ _ rfl rfl rfl 3
  refine (Differences_any _ _ _ [[1], [3], [4]] _ hra.1).mono ?_
  rintro e w6 (⟨_, A6, c6, rfl, hR6, hb2⟩ | ⟨hk, _⟩)
  rotate_left
  · exact absurd ex6.1 hk
  rw [ex6.2] at hR6
  have hb := hra.2.trans (hb2.mono hra.2.size)
  have hS1 := hS1.below hb
  have hS2 := hS2.below hb
  have hS3 := hS3.below hb
  have hR5 := hR5.below hb
  have hw6 := hw5.trans (hb.mono hw5.size)
  clear hb hb2 hra
  go_wp2_with fail

  have hbx := (Below.refl w6.heap.size w6).alloc (Nat.le_refl _) (.cells #[.int .i64 0, .int .i64 23170] 3)
  refine (Same_any _ _ _ _ _ _ _ _ _ (hS1.alloc _) (sl_lit w6 3 [0, 23170] 2 rfl (by decide) _ rfl)).mono ?_
  rintro e w7 ⟨i7, he, hwx⟩
  rw [sameB_yes rfl] at he
  subst he
  have hbx : Below w6.heap.size w6 w7 := by rw [hwx]; exact bel_drewN hbx i7
  clear hwx
  have hS2 := hS2.below hbx
  have hS3 := hS3.below hbx
  have hR5 := hR5.below hbx
  have hR6 := hR6.below hbx
  have hw7 := hw6.trans (hbx.mono hw6.size)
  clear hbx
  go_wp2_with fail
  have hbx := (Below.refl w7.heap.size w7).alloc (Nat.le_refl _) (.cells #[.int .i64 1, .int .i64 1] 3)
  refine (Same_any _ _ _ _ _ _ _ _ _ (hS2.alloc _) (sl_lit w7 3 [1, 1] 2 rfl (by decide) _ rfl)).mono ?_
  rintro e w8 ⟨i8, he, hwx⟩
  rw [sameB_yes rfl] at he
  subst he
  have hbx : Below w7.heap.size w7 w8 := by rw [hwx]; exact bel_drewN hbx i8
  clear hwx
  have hS3 := hS3.below hbx
  have hR5 := hR5.below hbx
  have hR6 := hR6.below hbx
  have hw8 := hw7.trans (hbx.mono hw7.size)
  clear hbx
  go_wp2_with fail
  have hbx := (Below.refl w8.heap.size w8).alloc (Nat.le_refl _) (.cells #[.int .i64 48, .int .i64 15] 3)
  refine (Same_any _ _ _ _ _ _ _ _ _ (hS3.alloc _) (sl_lit w8 3 [48, 15] 2 rfl (by decide) _ rfl)).mono ?_
  rintro e w9 ⟨i9, he, hwx⟩
  rw [sameB_yes rfl] at he
  subst he
  have hbx : Below w8.heap.size w8 w9 := by rw [hwx]; exact bel_drewN hbx i9
  clear hwx
  have hR5 := hR5.below hbx
  have hR6 := hR6.below hbx
  have hw9 := hw8.trans (hbx.mono hw8.size)
  clear hbx
  go_wp2_with fail
  have hra := rows2 w9 [1] [9] 1 1 rfl rfl (by decide) (by decide) _ _ rfl rfl 3
  refine (SameL_eq _ _ _ _ _ _ _ _ _ (hR5.below hra.2) hra.1 rfl).mono ?_
  rintro e w10 ⟨rfl, i10, hwx⟩
  have hbx : Below w9.heap.size w9 w10 := by rw [hwx]; exact bel_drewN hra.2 i10
  have hR6 := hR6.below hbx
  have hw10 := hw9.trans (hbx.mono hw9.size)
  clear hbx hwx hra
  go_wp2_with fail
  have hra := rows3 w10 [1, 2] [3, 3] [4, 1] 2 2 2 rfl rfl rfl (by decide) (by decide) (by decide) _ _ _ rfl rfl rfl 3
  refine (SameL_eq _ _ _ _ _ _ _ _ _ (hR6.below hra.2) hra.1 rfl).mono ?_
  rintro e w11 ⟨rfl, i11, hwx⟩
  have hbx : Below w10.heap.size w10 w11 := by rw [hwx]; exact bel_drewN hra.2 i11
  have hw11 := hw10.trans (hbx.mono hw10.size)
  clear hwx hbx hra
  go_wp2
  go_ret
  exact ⟨rfl, hw11⟩
end Go.Proofs.YtoljffghaklpdaaDoor
