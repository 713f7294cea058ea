/- The frames of a list: how many there are; the function that goes through them. -/
import Derived.Test.YtoljffghaklpdaaGreatDoorHM
import Derived.Test.YtoljffghaklpdaaGreatDoorJA
import Derived.Test.YtoljffghaklpdaaGreatDoorZP0
import Derived.Test.YtoljffghaklpdaaGreatDoorZL1
import Derived.Laws.CopyOwn
import Derived.Shelf.Abstract
import Derived.Shelf.RegionOpen
import Derived.WalkKit
import Derived.OwnWalkIn
import Derived.TacticsInMore
import Derived.LoopNIn
import Derived.LoopIn
import Derived.Maps.AppendAt
namespace Go.Proofs.YtoljffghaklpdaaGreatDoor
open Go.RowKit Go.Shelf
attribute [local go_sem] Oper.semAt_some

theorem wpListIn_copy {F : Fence} {n : Nat} {P : Program} {w : World} {ops : Array Oper} {rest : List Oper} {o : Oper} {a : Act} {Q : Exit → Act → World → Prop} (hgd : o.guard = none) (d s : Operand) (dT sT : TypeId)
    (ho : o.op = .call { callee := .builtin .copy, args := #[d, s], argTypes := #[dT, sT] }) (elem : TypeId) (hu : P.underlying dT = some (.slice elem)) (hsz : (P.info? elem).map (·.size) = some 1)
    (g off dLen dCap : Nat) (ad : Addr) (sLen sCap : Nat) (hd : a.eval d = .slice (some ⟨g, off, none⟩) dLen dCap) (hs : a.eval s = .slice (some ad) sLen sCap)
    (cur : Array Value) (t : TypeId) (hg : w.heap[g]? = some (.cells cur t (0, 0))) (cs : List Value) (hn : cs.length = Nat.min sLen dLen)
    (hsrc : ∀ j v, cs[j]? = some v → w.cell? (ad.add j) = some v) (hfit : off + cs.length ≤ cur.size) (h1 : ∀ v ∈ cs, v.oneCell' = true)
    (h : wpListIn F n P ops Q rest (a.put o.dst (goInt cs.length)) (w.setRow g (cur.toList.take off ++ (cs ++ cur.toList.drop (off + cs.length))).toArray)) : wpListIn F n P ops Q (o :: rest) a w := by
  refine wpListIn_plain hgd fun K hK => ?_
  have hrun := run_copy_row (P := P) w dT sT o.type elem g off dLen dCap ad sLen sCap cur t cs hu hsz hg hn hsrc hfit h1
  unfold Oper.wpIn
  refine ⟨?_, ?_⟩
  · simp [Oper.about, ho, resolve, Target.leads, Sem.run_pure]
  · rw [Oper.semAt_plain F _ _ (by rw [ho]; intro c hc'; cases hc')]
    simp [execOp, ho, resolve, invoke, builtin, hd, hs, hrun, Result.andThen]
    exact hK _ _ h

/-- how many frames n elements have -/
def fcount (n s p : Nat) (pad : Bool) : Nat := if pad then (n + p - 1) / p else if n < s then 0 else (n - s) / p + 1
theorem fcount_at {n s p : Nat} {pad : Bool} (hs : 1 ≤ s) (hp : 1 ≤ p) {t : Nat} : t < fcount n s p pad ↔ t * p < n ∧ (pad = true ∨ t * p + s ≤ n) := by
  unfold fcount
  cases pad with
  | true =>
    rw [if_pos rfl]
    have e : t < (n + p - 1) / p ↔ t * p < n := by
      rw [Nat.lt_iff_add_one_le, Nat.le_div_iff_mul_le (by omega), Nat.add_mul]; omega
    rw [e]; simp
  | false =>
    simp only [Bool.false_eq_true, if_false, false_or]
    by_cases h : n < s
    · rw [if_pos h]; omega
    · rw [if_neg h, Nat.lt_add_one_iff, Nat.le_div_iff_mul_le (by omega)]; omega
theorem fcount_le {n s p : Nat} {pad : Bool} (hp : 1 ≤ p) (hs : 1 ≤ s) : fcount n s p pad ≤ n := by
  rcases Nat.eq_zero_or_pos (fcount n s p pad) with h | h
  · omega
  · have := (fcount_at (n := n) (s := s) (p := p) (pad := pad) hs hp (t := fcount n s p pad - 1)).1 (by omega)
    have h2 : (fcount n s p pad - 1) * 1 ≤ (fcount n s p pad - 1) * p := Nat.mul_le_mul_left _ hp
    omega

theorem frameCount_any (n s p : Nat) (pad : Bool) (w : World) (hn : n ≤ 200000) (hs : s ≤ 4096) (hp : 1 ≤ p) (hp2 : p ≤ 4096) :
    Calls Tryz.prog 202 #[.int .i64 (n : Int), .int .i64 (s : Int), .int .i64 (p : Int), .bool pad] w fun e w' => e = .returned (.int .i64 ((fcount n s p pad : Nat) : Int)) ∧ w = w' := by
  cases pad with
  | true =>
    have hv := Lib.hid (show ((n : Int) + (p : Int) - 1) / (p : Int) = ((fcount n s p true : Nat) : Int) by unfold fcount; rw [if_pos rfl, show (n : Int) + (p : Int) - 1 = ((n + p - 1 : Nat) : Int) by omega]; rfl)
    go_enter Tryz.func202, Tryz.ntmps202
    go_wp2_with (go_at_call 217; refine (divideUp_any _ _ _ (by omega) (by omega) (by omega) (by omega)).mono ?_; rintro e w' ⟨rfl, rfl⟩)
    go_ret
    exact ⟨ret_int hv.out, rfl⟩
  | false =>
    by_cases h : n < s
    · have hv := Lib.hid (show (0 : Int) = ((fcount n s p false : Nat) : Int) by unfold fcount; rw [if_neg (by decide), if_pos h]; rfl)
      go_enter Tryz.func202, Tryz.ntmps202
      go_wp2
      go_ret
      exact ⟨ret_int hv.out, rfl⟩
    · have hq : ((n : Int) - (s : Int)).tdiv (p : Int) = (((n - s) / p : Nat) : Int) := by
        rw [Int.tdiv_eq_ediv_of_nonneg (by omega), show (n : Int) - (s : Int) = ((n - s : Nat) : Int) by omega]
        rfl
      have hq2 : (n - s) / p ≤ 200000 := Nat.le_trans (Nat.div_le_self _ _) (by omega)
      generalize hQ : (n - s) / p = q at *
      have hv := Lib.hid (show (q : Int) + 1 = ((fcount n s p false : Nat) : Int) by unfold fcount; rw [if_neg (by decide), if_neg h, hQ]; rfl)
      clear hQ
      have hns : ¬ (n : Int) < (s : Int) := by omega
      go_enter Tryz.func202, Tryz.ntmps202
      go_wp2
      go_ret
      exact ⟨ret_int hv.out, rfl⟩
end Go.Proofs.YtoljffghaklpdaaGreatDoor


/- The frames of a list: the function that goes through them. -/
namespace Go.Proofs.YtoljffghaklpdaaGreatDoor
open Go.RowKit Go.Shelf
attribute [local go_sem] Oper.semAt_some

/-- frame t of a list -/
def frameL (xs : List Int) (s p t : Nat) : List Int := tab s fun i => xs.getD (t * p + i) 0
theorem frame_row (xs : List Int) (s M : Nat) : (xs.drop M).take s ++ (zs s).drop ((xs.drop M).take s).length = tab s fun i => xs.getD (M + i) 0 := by
  apply List.ext_getElem
  · simp [tab, zs]; omega
  · intro i h1 h2
    have hi : i < s := by rw [tab_len] at h2; exact h2
    rw [show (tab s fun i => xs.getD (M + i) 0)[i] = xs.getD (M + i) 0 by simp [tab]]
    rw [List.getElem_append]
    split
    · rename_i h3
      rw [List.length_take, List.length_drop] at h3
      rw [getD_in (by omega)]
      simp
    · rename_i h3
      rw [List.length_take, List.length_drop] at h3
      rw [getD_out (by omega)]
      simp [zs]
/-- x is a new slice that reads as frame t -/
def ArgF (xs : List Int) (s p t : Nat) (x : Value) (W : World) : Prop := ∃ g, x = .slice (some ⟨g, 0, none⟩) s s ∧ Mk W g 3 .i64 (frameL xs s p t)
theorem roundIn_any {n m : Nat} {P : Program} {l : Nat} {f : FuncId} {tmps : Array Value} {assign body : Code} {w : World} {R : Ending → World → Prop} (h : RoundIn Fence.wide n P l f tmps assign body w R) : RoundIn Fence.wide m P l f tmps assign body w R :=
  ⟨h.1, fun c cs _ => h.2 c cs (room_wide _)⟩

set_option maxHeartbeats 2000000 in
set_option maxRecDepth 100000 in
theorem frames1_in (A : Option Addr) (n c s p cnt : Nat) (xs : List Int) (m l bc bs bx bp : Nat) (J : Nat → World → Prop) (W1 : World)
    (hJ : ∀ t A B, J t A → A.grownBy B none → J t B)
    (hR : ∀ t W, J t W → (W.cell? ⟨bc, 0, none⟩ = some (.int .i64 (cnt : Int)) ∧ W.cell? ⟨bs, 0, none⟩ = some (.int .i64 (s : Int)) ∧ W.cell? ⟨bx, 0, none⟩ = some (.slice A n c) ∧ W.cell? ⟨bp, 0, none⟩ = some (.int .i64 (p : Int))) ∧ Sl .i64 W A n c xs)
    (hY : ∀ t x W, t < cnt → J t W → ArgF xs s p t x W → YieldAt Fence.wide m Tryz.prog l #[x] W fun e W' => e = .returned (.bool true) ∧ J (t + 1) W')
    (hs1 : 1 ≤ s) (hs2 : s ≤ 4096) (hn : n ≤ 200000) (hcnt : ∀ t, t < cnt → t * p < n) (hc2 : cnt ≤ 200000) (h0 : J 0 W1) :
    CallsIn Fence.wide m Tryz.prog 218 #[.func (.yield l) #[] #[], .pointer (some ⟨bc, 0, none⟩), .pointer (some ⟨bs, 0, none⟩), .pointer (some ⟨bx, 0, none⟩), .pointer (some ⟨bp, 0, none⟩)] W1 fun e W' => (∃ v, e = .returned v) ∧ J cnt W' := by
  have hcnt := Lib.hid hcnt
  have hJ := Lib.hid hJ
  have hR := Lib.hid hR
  have hY := Lib.hid hY
  have c0 := (hR.out 0 W1 h0).1.1
  refine callsIn_of_wp Tryz.func218 rfl trivial ?_ rfl
  simp only [Tryz.ntmps218, List.size_toArray, List.length_cons, List.length_nil, Nat.reduceAdd, Nat.reduceSub, Array.replicate_succ, Array.replicate_zero, List.push_toArray, List.append_toArray, List.nil_append, List.cons_append]
  gi_wp2
  gi_loopw [9] (fun iv wr => ∃ k : Nat, k ≤ cnt ∧ iv = .int .i64 k ∧ J k wr) (fun iv _ => cnt - (intOf iv).toNat)
  case atStart => exact ⟨0, Nat.zero_le _, rfl, h0⟩
  case round =>
    obtain ⟨k, hk, rfl, hJk⟩ := hrel
    rcases Nat.lt_or_ge k cnt with hlt | hge
    · obtain ⟨⟨_, r1, r2, r3⟩, hS⟩ := hR.out k wr hJk
      have hmk := make_int s (by omega) wr
      obtain ⟨M, hM⟩ : ∃ M : Nat, (k : Int) * (p : Int) = (M : Int) := ⟨k * p, by simp⟩
      have hMk := Lib.hid (show M = k * p by have h2 : ((k * p : Nat) : Int) = (M : Int) := by rw [← hM]; simp
                                             omega)
      have hMn : M < n := by rw [hMk.out]; exact hcnt.out k hlt
      have hG := Mk.new wr 3 .i64 (zs s)
      have hb1 := (Below.refl wr.heap.size wr).alloc (Nat.le_refl _) (.cells (ivs .i64 (zs s)).toArray 3)
      have hS1 := hS.below hb1
      have hcap := hS.cap
      have htop := hS.top
      obtain ⟨ad, y, rfl, _, _⟩ := hS.at_ hMn
      have q2 : (wr.alloc (.cells (ivs .i64 (zs s)).toArray 3)).cell? ⟨bx, 0, none⟩ = some (.slice (some ad) n c) := by
        rw [hb1.cell (World.block_lt_of_cell? _ _ r2)]; exact r2
      have q3 : (wr.alloc (.cells (ivs .i64 (zs s)).toArray 3)).cell? ⟨bp, 0, none⟩ = some (.int .i64 (p : Int)) := by
        rw [hb1.cell (World.block_lt_of_cell? _ _ r3)]; exact r3
      have hcM : ¬ c = M := by omega
      have hCt := hS1.cut (m := M) (by omega)
      rw [if_neg hcM, Option.map_some] at hCt
      have hcl := Lib.hid (show (ivs .i64 ((xs.drop M).take s)).length = Nat.min (n - M) s by rw [ivs_len, List.length_take, List.length_drop, hS.len]; exact Nat.min_comm _ _)
      have hsrc := Lib.hid (show ∀ j u, (ivs .i64 ((xs.drop M).take s))[j]? = some u → (wr.alloc (.cells (ivs .i64 (zs s)).toArray 3)).cell? ((ad.add M).add j) = some u from fun j u hu => hCt.news j u (by
        simp only [ivs, List.getElem?_map, List.getElem?_take] at hu ⊢
        split at hu
        · exact hu
        · simp at hu))
      have hrow := Lib.hid (show (List.take 0 (ivs .i64 (zs s)).toArray.toList ++ (ivs .i64 ((xs.drop M).take s) ++ List.drop (0 + (ivs .i64 ((xs.drop M).take s)).length) (ivs .i64 (zs s)).toArray.toList)) = ivs .i64 (frameL xs s p k) by
        unfold frameL
        rw [← hMk.out, ← frame_row, List.take_zero, List.nil_append, ivs_app, ivs_len, Nat.zero_add]
        simp [ivs])
      have hfit := Lib.hid (show 0 + (ivs .i64 ((xs.drop M).take s)).length ≤ (ivs .i64 (zs s)).toArray.size by
        rw [ivs_len, List.size_toArray, ivs_len, zs_len, List.length_take]; omega)
      have hG2 : Mk ((wr.alloc (.cells (ivs .i64 (zs s)).toArray 3)).setRow wr.heap.size (ivs .i64 (frameL xs s p k)).toArray) wr.heap.size 3 .i64 (frameL xs s p k) := setRow_heap _ _ _ _ 3 (0, 0) hG
      have hb2 := below_setRow hb1 (Nat.le_refl _) (ivs .i64 (frameL xs s p k)).toArray
      have hfin := Lib.hid (hY.out k (.slice (some ⟨wr.heap.size, 0, none⟩) s s) _ hlt (hJ.out k wr _ hJk (grown_none hb2)) ⟨wr.heap.size, rfl, hG2⟩)
      clear hG2 hb2
      gi_wp2_with (refine wpListIn_copy rfl (.tmp 14) (.tmp 19) 28 28 rfl 3 Tryz.underlying28 info_int1 wr.heap.size 0 s s (ad.add M) (n - M) (c - M) rfl rfl (ivs .i64 (zs s)).toArray 3 hG (ivs .i64 ((xs.drop M).take s)) hcl.out hsrc.out hfit.out (oneCell_ivs _ _) ?_; rw [hrow.out]; generalize (wr.alloc (.cells (ivs .i64 (zs s)).toArray 3)).setRow wr.heap.size (ivs .i64 (frameL xs s p k)).toArray = w2 at *; obtain ⟨fn, tmps, assign, body, hy, hRd⟩ := hfin.out)
      refine ⟨fun h => absurd h (by decide), (roundIn_any hRd).mono ?_⟩
      rintro e w3 ⟨rfl, hJ3⟩
      gi_wp2
      go_roundw
      case rel => exact ⟨k + 1, hlt, by go_num, hJ3⟩
      case measure => simp [intOf]; omega
    · have hkn : k = cnt := by omega
      subst hkn
      gi_wp2
      go_end0
      exact ⟨⟨_, rfl⟩, hJk⟩

/-- the four boxes that the function has captured -/
structure FB (W : World) (bx bs bp bc : Nat) (A : Option Addr) (n c s p cnt : Nat) : Prop where
  x : Blk W bx 28 #[.slice A n c]
  s : Blk W bs 3 #[.int .i64 (s : Int)]
  p : Blk W bp 3 #[.int .i64 (p : Int)]
  c : Blk W bc 3 #[.int .i64 (cnt : Int)]

theorem frames_any (A : Option Addr) (n c s p cnt : Nat) (w : World) :
    Calls Tryz.prog 203 #[.slice A n c, .int .i64 (s : Int), .int .i64 (p : Int), .int .i64 (cnt : Int)] w fun e w' =>
      e = .returned (.func (.func 218) #[] #[.pointer (some ⟨w.heap.size + 3, 0, none⟩), .pointer (some ⟨w.heap.size + 1, 0, none⟩), .pointer (some ⟨w.heap.size, 0, none⟩), .pointer (some ⟨w.heap.size + 2, 0, none⟩)]) ∧
      FB w' w.heap.size (w.heap.size + 1) (w.heap.size + 2) (w.heap.size + 3) A n c s p cnt ∧ Below w.heap.size w w' := by
  go_enter Tryz.func203, Tryz.ntmps203
  go_wp2
  go_ret
  have b0 := Blk.new w 28 #[.slice A n c]
  have b1 := Blk.new (w.alloc (.cells #[.slice A n c] 28)) 3 #[.int .i64 (s : Int)]
  have b2 := Blk.new ((w.alloc (.cells #[.slice A n c] 28)).alloc (.cells #[.int .i64 (s : Int)] 3)) 3 #[.int .i64 (p : Int)]
  have b3 := Blk.new (((w.alloc (.cells #[.slice A n c] 28)).alloc (.cells #[.int .i64 (s : Int)] 3)).alloc (.cells #[.int .i64 (p : Int)] 3)) 3 #[.int .i64 (cnt : Int)]
  rw [World.size_alloc] at b1
  rw [World.size_alloc, World.size_alloc] at b2
  rw [World.size_alloc, World.size_alloc, World.size_alloc] at b3
  exact ⟨rfl, ⟨((b0.alloc _).alloc _).alloc _, (b1.alloc _).alloc _, b2.alloc _, b3⟩, ((((Below.refl w.heap.size w).alloc (Nat.le_refl _) _).alloc (by simp) _).alloc (by simp; omega) _).alloc (by simp; omega) _⟩
end Go.Proofs.YtoljffghaklpdaaGreatDoor


/- The frames of a list: the program's own. -/

namespace Go.Proofs.YtoljffghaklpdaaGreatDoor
open Go.RowKit Go.Shelf
attribute [local go_sem] Oper.semAt_some

/-- the code of frames -/
def frC (xs : List Int) (size step : Int) (pad : Bool) : Int :=
  if chkV_w xs = 0 then (if (okB 1 4096 size && okB 1 4096 step) = true then (if 4000000 < fcount xs.length size.toNat step.toNat pad * size.toNat then 5 else 0) else 2) else chkV_w xs

set_option maxHeartbeats 1600000 in
set_option maxRecDepth 100000 in
theorem Frames_arg (A : Option Addr) (n c : Nat) (xs : List Int) (size step : Int) (pad : Bool) (w : World) (h : Sl .i64 w A n c xs) (hv : ¬ chkV_w xs = 0 ∨ (okB 1 4096 size && okB 1 4096 step) = false) :
    Calls Tryz.prog 167 #[.slice A n c, .int .i64 size, .int .i64 step, .bool pad] w (RetRs w 0 (fun _ => []) (frC xs size step pad)) := by
  by_cases hc : chkV_w xs = 0
  · have hv := hv.resolve_left (fun e => e hc)
    have hr := Lib.hid (show frC xs size step pad = 2 by unfold frC; rw [if_pos hc, hv]; rfl)
    have hC := Lib.hid (checkValues_any A n c xs w h)
    rw [show chk (-2147483647) 2147483647 xs = 0 from hc] at hC
    clear hc
    cases h1 : okB 1 4096 size with
    | false =>
      go_enter Tryz.func167, Tryz.ntmps167
      go_wp2_with (first | (go_at_call 177; refine hC.out.mono ?_; rintro e w' ⟨rfl, rfl⟩) | (go_at_call 51; refine (within_any _ _ _ _).mono ?_; rintro e w' ⟨rfl, rfl⟩))
      go_ret2
      exact ⟨none, 0, _, _, _, by rw [hr.out]; rfl, rs_nil _ _, Below.refl _ _⟩
    | true =>
      rw [h1, Bool.true_and] at hv
      go_enter Tryz.func167, Tryz.ntmps167
      go_wp2_with (first | (go_at_call 177; refine hC.out.mono ?_; rintro e w' ⟨rfl, rfl⟩) | (go_at_call 51; refine (within_any _ _ _ _).mono ?_; rintro e w' ⟨rfl, rfl⟩))
      go_ret2
      exact ⟨none, 0, _, _, _, by rw [hr.out]; rfl, rs_nil _ _, Below.refl _ _⟩
  · have hr := Lib.hid (show frC xs size step pad = chkV_w xs by unfold frC; rw [if_neg hc])
    have hC := Lib.hid (checkValues_any A n c xs w h)
    rw [show chk (-2147483647) 2147483647 xs = chkV_w xs from rfl] at hC
    generalize chkV_w xs = k at *
    have hkb : (k == 0) = false := by simpa using hc
    have hkb2 : (k != 0) = true := by simpa using hc
    clear hv
    go_enter Tryz.func167, Tryz.ntmps167
    go_wp2_with (go_at_call 177; refine hC.out.mono ?_; rintro e w' ⟨rfl, rfl⟩)
    go_ret2
    exact ⟨none, 0, _, _, _, by rw [hr.out]; rfl, rs_nil _ _, Below.refl _ _⟩
end Go.Proofs.YtoljffghaklpdaaGreatDoor


/- The frames of a list: the program's own, where there are not too many. -/
namespace Go.Proofs.YtoljffghaklpdaaGreatDoor
open Go.RowKit Go.Shelf
attribute [local go_sem] Oper.semAt_some

set_option maxHeartbeats 1600000 in
set_option maxRecDepth 100000 in
theorem Frames_long (A : Option Addr) (n c s p : Nat) (xs : List Int) (pad : Bool) (w : World) (h : Sl .i64 w A n c xs) (hv : chkV_w xs = 0) (hn : n ≤ 200000) (hs1 : 1 ≤ s) (hs2 : s ≤ 4096) (hp1 : 1 ≤ p) (hp2 : p ≤ 4096) (hl : 4000000 < fcount n s p pad * s) :
    Calls Tryz.prog 167 #[.slice A n c, .int .i64 (s : Int), .int .i64 (p : Int), .bool pad] w (RetRs w 0 (fun _ => []) 5) := by
  have hC := Lib.hid (checkValues_any A n c xs w h)
  rw [show chk (-2147483647) 2147483647 xs = 0 from hv] at hC
  have hw1 : okB 1 4096 (s : Int) = true := okB_iff.2 ⟨by omega, by omega⟩
  have hw2 : okB 1 4096 (p : Int) = true := okB_iff.2 ⟨by omega, by omega⟩
  have hF := Lib.hid (fun w => frameCount_any n s p pad w hn hs2 hp1 hp2)
  have hcl := fcount_le (n := n) (pad := pad) hp1 hs1
  generalize fcount n s p pad = cnt at *
  obtain ⟨M, hM⟩ : ∃ M : Nat, (cnt : Int) * (s : Int) = (M : Int) := ⟨cnt * s, by simp⟩
  have hM2 : M = cnt * s := by have h2 : ((cnt * s : Nat) : Int) = (M : Int) := by rw [← hM]; simp
                               omega
  have hM3 : M ≤ 200000 * 4096 := by rw [hM2]; exact Nat.mul_le_mul (by omega) hs2
  have hM4 : 4000000 < M := by omega
  clear hM2 hl hv
  go_enter Tryz.func167, Tryz.ntmps167
  go_wp2_with (first | (go_at_call 177; refine hC.out.mono ?_; rintro e w' ⟨rfl, rfl⟩) | (go_at_call 51; refine (within_any _ _ _ _).mono ?_; rintro e w' ⟨rfl, rfl⟩) | (go_at_call 202; refine (hF.out _).mono ?_; rintro e w' ⟨rfl, rfl⟩))
  go_ret2
  exact ⟨none, 0, _, _, _, rfl, rs_nil _ _, Below.refl _ _⟩

/-- between two rounds: t rows are done -/
def InvF (w : World) (gl gb : Nat) (A : Option Addr) (n c s p cnt : Nat) (xs : List Int) (t : Nat) (W : World) : Prop :=
  ∃ G, Blk W gb 34 #[.slice (some ⟨gl, 0, none⟩) t cnt] ∧ OwnRs W gl (.slice (some ⟨gl, 0, none⟩) t cnt) t G s (frameL xs s p) ∧
    FB W (gb + 1) (gb + 2) (gb + 3) (gb + 4) A n c s p cnt ∧ Sl .i64 W A n c xs ∧ Below w.heap.size w W
theorem InvF.own {w : World} {gl gb B : Nat} {A : Option Addr} {n c s p cnt : Nat} {xs : List Int} (hB : w.heap.size ≤ B) : OwnFrom B (InvF w gl gb A n c s p cnt xs) := by
  rintro t W W' row ⟨G, h1, ⟨h2, h3, h4⟩, ⟨f1, f2, f3, f4⟩, h5, h6⟩ hg hr
  have hr2 : ∀ r, row = some r → ∃ o : Obj, W.heap[r]? = some o ∧ o.isCells = false := fun r e => (hr r e).2
  exact ⟨G, h1.kept hg hr2, ⟨own_kept h2 hg hr2, fun r hlt => Blk.kept (h3 r hlt) hg hr2, h4⟩, ⟨f1.kept hg hr2, f2.kept hg hr2, f3.kept hg hr2, f4.kept hg hr2⟩, h5.kept hg hr2, h6.grown hg h6.size (fun r e => Nat.le_trans hB (hr r e).1)⟩
theorem argF_own {xs : List Int} {s p B : Nat} (x : Value) : OwnFrom B (fun t W => ArgF xs s p t x W) := by
  rintro t W W' row ⟨g, rfl, h⟩ hg hr
  exact ⟨g, rfl, Blk.kept h hg (fun r e => (hr r e).2)⟩

set_option maxHeartbeats 4000000 in
set_option maxRecDepth 100000 in
theorem Frames_ok (A : Option Addr) (n c s p : Nat) (xs : List Int) (pad : Bool) (w : World) (h : Sl .i64 w A n c xs) (hv : chkV_w xs = 0) (hn : n ≤ 200000) (hs1 : 1 ≤ s) (hs2 : s ≤ 4096) (hp1 : 1 ≤ p) (hp2 : p ≤ 4096) (hl : fcount n s p pad * s ≤ 4000000) :
    Calls Tryz.prog 167 #[.slice A n c, .int .i64 (s : Int), .int .i64 (p : Int), .bool pad] w (RetRs w (fcount n s p pad) (frameL xs s p) 0) := by
  obtain ⟨i0, hi, hz0, hz1, hz2⟩ := info_parts info_sl
  have hC := Lib.hid (checkValues_any A n c xs w h)
  rw [show chk (-2147483647) 2147483647 xs = 0 from hv] at hC
  have hw1 : okB 1 4096 (s : Int) = true := okB_iff.2 ⟨by omega, by omega⟩
  have hw2 : okB 1 4096 (p : Int) = true := okB_iff.2 ⟨by omega, by omega⟩
  have hF := Lib.hid (fun w => frameCount_any n s p pad w hn hs2 hp1 hp2)
  have hcl := fcount_le (n := n) (pad := pad) hp1 hs1
  have hct := Lib.hid (show ∀ t, t < fcount n s p pad → t * p < n from fun t ht => ((fcount_at (pad := pad) hs1 hp1).1 ht).1)
  generalize fcount n s p pad = cnt at *
  obtain ⟨M, hM⟩ : ∃ M : Nat, (cnt : Int) * (s : Int) = (M : Int) := ⟨cnt * s, by simp⟩
  have hM2 : M = cnt * s := by have h2 : ((cnt * s : Nat) : Int) = (M : Int) := by rw [← hM]; simp
                               omega
  have hM4 : M ≤ 4000000 := by omega
  clear hM2 hl hv
  refine (callsIn_wide (n := 1)).1 ?_
  refine callsIn_of_wp_marks Tryz.func167 rfl trivial ?_
  simp only [Tryz.ntmps167, List.size_toArray, List.length_cons, List.length_nil, Nat.reduceAdd, Nat.reduceSub, Array.replicate_succ, Array.replicate_zero, List.push_toArray, List.append_toArray, List.nil_append, List.cons_append]
  gi_wp2_with (first
    | (refine ⟨trivial, ?_⟩; gi_at_call 177; refine (callsIn_wide.2 hC.out).mono ?_; rintro e w' ⟨rfl, rfl⟩)
    | (refine ⟨trivial, ?_⟩; gi_at_call 51; refine (callsIn_wide.2 (within_any _ _ _ _)).mono ?_; rintro e w' ⟨rfl, rfl⟩)
    | (refine ⟨trivial, ?_⟩; gi_at_call 202; refine (callsIn_wide.2 (hF.out _)).mono ?_; rintro e w' ⟨rfl, rfl⟩)
    | (refine wpListIn_make_own _ rfl (.const (.int .i64 0)) (.tmp 37) 34 rfl w.heap.size 28 i0 (.slice none 0 0) 1 Tryz.underlying34 hi hz0 hz1 .i64 .i64 (cnt : Int) cnt rfl rfl rfl (by rw [hz2]; omega) (by unfold maxLen; omega) (Nat.le_refl _) ?_; intro w1 hown1 hgr1))
  have hgl := (hown1.lt w.heap.size rfl).2
  have hB1 := Blk.new w1 34 #[.slice (some ⟨w.heap.size, 0, none⟩) 0 cnt]
  have h2 := (h.below (bel_grown hgr1)).alloc (.cells #[.slice (some ⟨w.heap.size, 0, none⟩) 0 cnt] 34)
  have hown2 := own_bel hown1 ((Below.refl w1.heap.size w1).alloc (Nat.le_refl _) (.cells #[.slice (some ⟨w.heap.size, 0, none⟩) 0 cnt] 34))
  have hb2 := (bel_grown hgr1).alloc (bel_grown hgr1).size (.cells #[.slice (some ⟨w.heap.size, 0, none⟩) 0 cnt] 34)
  have hsz2 : (w1.alloc (.cells #[.slice (some ⟨w.heap.size, 0, none⟩) 0 cnt] 34)).heap.size = w1.heap.size + 1 := by simp
  generalize w1.alloc (.cells #[.slice (some ⟨w.heap.size, 0, none⟩) 0 cnt] 34) = w2 at *
  refine ⟨trivial, (callsIn_wide.2 (frames_any A n c s p cnt w2)).mono ?_⟩
  rw [hsz2]
  rintro e w3 ⟨rfl, hFB, hb3⟩
  have hb3 : Below w2.heap.size w2 w3 := by rw [hsz2]; exact hb3
  have hI0 : InvF w w.heap.size w1.heap.size A n c s p cnt xs 0 w3 := ⟨fun _ => 0, hB1.below hb3, ⟨own_bel hown2 hb3, fun r hr => absurd hr (by omega), fun r hr => absurd hr (by omega)⟩, hFB, h2.below hb3, hb2.trans (hb3.mono hb2.size)⟩
  have hsz3 : w.heap.size ≤ w3.heap.size := Nat.le_trans hb2.size hb3.size
  clear hown1 hgr1 hB1 h2 hown2 hb2 hFB hb3 hC hF
  gi_wp2
  refine range_through (n := 0) rfl (enters_of Tryz.func218 (by kernel_rfl) rfl) cnt (fun t x W => ArgF xs s p t x W) argF_own (InvF w w.heap.size w1.heap.size A n c s p cnt xs) (InvF.own hsz3) hI0 13 ?assign ?body ?hit ?done
  case assign =>
    intro l x W K hK
    gi_wp2
    exact hK
  case hit =>
    intro l W1 J hg1 hJ hJI hY h0
    exact frames1_in A n c s p cnt xs 0 l (w1.heap.size + 4) (w1.heap.size + 2) (w1.heap.size + 1) (w1.heap.size + 3) J W1 hJ (fun t W hj => by
      obtain ⟨G, _, _, ⟨f1, f2, f3, f4⟩, hs, _⟩ := hJI t W hj
      exact ⟨⟨f4.cell 0, f2.cell 0, f1.cell 0, f3.cell 0⟩, hs⟩) hY hs1 hs2 hn hct.out (by omega) h0
  case body =>
    rintro l t x W ht ⟨G, h1, h2, h3, h4, h5⟩ ⟨g, rfl, hG⟩
    simp only [List.setIfInBounds_toArray, List.set_cons_zero, List.set_cons_succ]
    have q1 := h1.cell 0
    have h1a := h1.alloc (.cells #[.slice (some ⟨g, 0, none⟩) s s] 28)
    have hown := own_bel h2.own ((Below.refl W.heap.size W).alloc (Nat.le_refl _) (.cells #[.slice (some ⟨g, 0, none⟩) s s] 28))
    gi_wp2_with (refine wpListIn_append_fits _ rfl (.tmp 45) (.tmp 47) 34 rfl w.heap.size 28 i0 1 Tryz.underlying34 hi hz1 w.heap.size t cnt (rowV G s t) rfl hown ⟨W.heap.size, 0, none⟩ 1 1 [.slice (some ⟨g, 0, none⟩) s s] rfl rfl (cell_one_new _ _ _) (by intro u hu; simp at hu; subst hu; rfl) (by omega) ?_; intro w5 hown5 hgr5; have h1b := h1a.grown hgr5 (by simp; omega); have q2 := h1b.cell 0; have q3 := h1b.frozen 0)
    have hgl2 : w1.heap.size ≠ w.heap.size := by omega
    have hfar : ∀ (k : Nat) (T : TypeId) (cs : Array Value), Blk W k T cs → k ≠ w.heap.size → k ≠ w1.heap.size → Blk (w5.setCell ⟨w1.heap.size, 0, none⟩ (.slice (some ⟨w.heap.size, 0, none⟩) (t + 1) cnt)) k T cs := fun k T cs hb n1 n2 =>
      ((hb.alloc (.cells #[.slice (some ⟨g, 0, none⟩) s s] 28)).grown hgr5 (by intro e; cases e; exact n1 rfl)).far n2 _
    have hbF := ((h5.alloc h5.size (.cells #[.slice (some ⟨g, 0, none⟩) s s] 28)).grown hgr5 (by have := h5.size; simp; omega) (fun k e => by cases e; exact Nat.le_refl _)).setCell (p := ⟨w1.heap.size, 0, none⟩) (Nat.le_of_lt hgl) (.slice (some ⟨w.heap.size, 0, none⟩) (t + 1) cnt)
    refine ⟨((KeepsOthers.alloc W _).trans (KeepsOthers.of_grownBy hgr5 (fun j o e ho => ?_))).trans (KeepsOthers.setCell _ _ _), fun r => if r = t then g else G r, h1b.set_ 0 _, ⟨?_, fun r hr => ?_, fun r _ => tab_len _ _⟩, ⟨hfar _ _ _ h3.x (by omega) (by omega), hfar _ _ _ h3.s (by omega) (by omega), hfar _ _ _ h3.p (by omega) (by omega), hfar _ _ _ h3.c (by omega) (by omega)⟩, h.below hbF, hbF⟩
    · cases e
      obtain ⟨cur, hcur⟩ := own_cells hown
      rw [hcur] at ho
      cases ho
      rfl
    · rw [rowV_snoc]
      exact own_blk hown5 (Below.heap_setCell _ _ _ _ (fun e => hgl2 e.symm))
    · by_cases hrt : r = t
      · subst hrt
        rw [if_pos rfl]
        exact hfar _ _ _ hG (blk_type hG h2.own (by decide)) (blk_ne hG h1 (by decide))
      · rw [if_neg hrt]
        have hm := h2.mks r (by omega)
        exact hfar _ _ _ hm (blk_type hm h2.own (by decide)) (blk_ne hm h1 (by decide))
  case done =>
    rintro W ⟨G, h1, h2, h3, h4, h5⟩ hD
    have q1 := h1.cell 0
    gi_wp2
    obtain ⟨A2, c2, hV, hRs⟩ := h2.rs (by omega)
    injection hV with e1 e2 e3
    subst e1 e3
    refine ⟨by simp, .inl ⟨_, _, rfl, run_takeDeferred hD, ?_⟩⟩
    have hgp := grownBy_putObj' W w3.heap.size (.deferred none)
    have hrp : ∀ r, some w3.heap.size = some r → ∃ o : Obj, W.heap[r]? = some o ∧ o.isCells = false := fun r e => by cases e; exact ⟨_, hD, rfl⟩
    exact ⟨_, results_tmp2 rfl _ _ _, _, _, _, _, _, rfl, hRs.kept hgp hrp, h5.grown hgp h5.size (fun k e => by cases e; exact hsz3)⟩
end Go.Proofs.YtoljffghaklpdaaGreatDoor
