/- The frames of a list: the function that goes through them. -/
import Derived.Test.YtobobbhifajhmaaP1
namespace Go.Proofs.Ytobobbhifajhmaa
open Go.RowKit Go.Shelf
attribute [local go_sem] Oper.semAt_some

/-- frame t of a list -/
def frameL (xs : List Int) (s p t : Nat) : List Int := tab s fun i => xs.getD (t * p + i) 0
theorem frame_row (xs : List Int) (s M : Nat) : (xs.drop M).take s ++ (zs s).drop ((xs.drop M).take s).length = tab s fun i => xs.getD (M + i) 0 := by
  apply List.ext_getElem
  · simp [tab, zs]; omega
  · intro i h1 h2
    have hi : i < s := by rw [tab_len] at h2; exact h2
    rw [show (tab s fun i => xs.getD (M + i) 0)[i] = xs.getD (M + i) 0 by simp [tab]]
    rw [List.getElem_append]
    split
    · rename_i h3
      rw [List.length_take, List.length_drop] at h3
      rw [getD_in (by omega)]
      simp
    · rename_i h3
      rw [List.length_take, List.length_drop] at h3
      rw [getD_out (by omega)]
      simp [zs]
/-- x is a new slice that reads as frame t -/
def ArgF (xs : List Int) (s p t : Nat) (x : Value) (W : World) : Prop := ∃ g, x = .slice (some ⟨g, 0, none⟩) s s ∧ Mk W g 3 .i64 (frameL xs s p t)
theorem roundIn_any {n m : Nat} {P : Program} {l : Nat} {f : FuncId} {tmps : Array Value} {assign body : Code} {w : World} {R : Ending → World → Prop} (h : RoundIn Fence.wide n P l f tmps assign body w R) : RoundIn Fence.wide m P l f tmps assign body w R :=
  ⟨h.1, fun c cs _ => h.2 c cs (room_wide _)⟩

set_option maxHeartbeats 2000000 in
set_option maxRecDepth 100000 in
theorem frames1_in (A : Option Addr) (n c s p cnt : Nat) (xs : List Int) (m l bc bs bx bp : Nat) (J : Nat → World → Prop) (W1 : World)
    (hJ : ∀ t A B, J t A → A.grownBy B none → J t B)
    (hR : ∀ t W, J t W → (W.cell? ⟨bc, 0, none⟩ = some (.int .i64 (cnt : Int)) ∧ W.cell? ⟨bs, 0, none⟩ = some (.int .i64 (s : Int)) ∧ W.cell? ⟨bx, 0, none⟩ = some (.slice A n c) ∧ W.cell? ⟨bp, 0, none⟩ = some (.int .i64 (p : Int))) ∧ Sl .i64 W A n c xs)
    (hY : ∀ t x W, t < cnt → J t W → ArgF xs s p t x W → YieldAt Fence.wide m Try.prog l #[x] W fun e W' => e = .returned (.bool true) ∧ J (t + 1) W')
    (hs1 : 1 ≤ s) (hs2 : s ≤ 4096) (hn : n ≤ 200000) (hcnt : ∀ t, t < cnt → t * p < n) (hc2 : cnt ≤ 200000) (h0 : J 0 W1) :
    CallsIn Fence.wide m Try.prog 96 #[.func (.yield l) #[] #[], .pointer (some ⟨bc, 0, none⟩), .pointer (some ⟨bs, 0, none⟩), .pointer (some ⟨bx, 0, none⟩), .pointer (some ⟨bp, 0, none⟩)] W1 fun e W' => (∃ v, e = .returned v) ∧ J cnt W' := by
  have hcnt := Lib.hid hcnt
  have hJ := Lib.hid hJ
  have hR := Lib.hid hR
  have hY := Lib.hid hY
  have c0 := (hR.out 0 W1 h0).1.1
  refine callsIn_of_wp Try.func96 rfl trivial ?_ rfl
  simp only [Try.ntmps96, List.size_toArray, List.length_cons, List.length_nil, Nat.reduceAdd, Nat.reduceSub, Array.replicate_succ, Array.replicate_zero, List.push_toArray, List.append_toArray, List.nil_append, List.cons_append]
  gi_wp2
  gi_loopw [9] (fun iv wr => ∃ k : Nat, k ≤ cnt ∧ iv = .int .i64 k ∧ J k wr) (fun iv _ => cnt - (intOf iv).toNat)
  case atStart => exact ⟨0, Nat.zero_le _, rfl, h0⟩
  case round =>
    obtain ⟨k, hk, rfl, hJk⟩ := hrel
    rcases Nat.lt_or_ge k cnt with hlt | hge
    · obtain ⟨⟨_, r1, r2, r3⟩, hS⟩ := hR.out k wr hJk
      have hmk := make_int s (by omega) wr
      obtain ⟨M, hM⟩ : ∃ M : Nat, (k : Int) * (p : Int) = (M : Int) := ⟨k * p, by simp⟩
      have hMk := Lib.hid (show M = k * p by have h2 : ((k * p : Nat) : Int) = (M : Int) := by rw [← hM]; simp
                                             omega)
      have hMn : M < n := by rw [hMk.out]; exact hcnt.out k hlt
      have hG := Mk.new wr 3 .i64 (zs s)
      have hb1 := (Below.refl wr.heap.size wr).alloc (Nat.le_refl _) (.cells (ivs .i64 (zs s)).toArray 3)
      have hS1 := hS.below hb1
      have hcap := hS.cap
      have htop := hS.top
      obtain ⟨ad, y, rfl, _, _⟩ := hS.at_ hMn
      have q2 : (wr.alloc (.cells (ivs .i64 (zs s)).toArray 3)).cell? ⟨bx, 0, none⟩ = some (.slice (some ad) n c) := by
        rw [hb1.cell (World.block_lt_of_cell? _ _ r2)]; exact r2
      have q3 : (wr.alloc (.cells (ivs .i64 (zs s)).toArray 3)).cell? ⟨bp, 0, none⟩ = some (.int .i64 (p : Int)) := by
        rw [hb1.cell (World.block_lt_of_cell? _ _ r3)]; exact r3
      have hcM : ¬ c = M := by omega
      have hCt := hS1.cut (m := M) (by omega)
      rw [if_neg hcM, Option.map_some] at hCt
      have hcl := Lib.hid (show (ivs .i64 ((xs.drop M).take s)).length = Nat.min (n - M) s by rw [ivs_len, List.length_take, List.length_drop, hS.len]; exact Nat.min_comm _ _)
      have hsrc := Lib.hid (show ∀ j u, (ivs .i64 ((xs.drop M).take s))[j]? = some u → (wr.alloc (.cells (ivs .i64 (zs s)).toArray 3)).cell? ((ad.add M).add j) = some u from fun j u hu => hCt.news j u (by
        simp only [ivs, List.getElem?_map, List.getElem?_take] at hu ⊢
        split at hu
        · exact hu
        · simp at hu))
      have hrow := Lib.hid (show (List.take 0 (ivs .i64 (zs s)).toArray.toList ++ (ivs .i64 ((xs.drop M).take s) ++ List.drop (0 + (ivs .i64 ((xs.drop M).take s)).length) (ivs .i64 (zs s)).toArray.toList)) = ivs .i64 (frameL xs s p k) by
        unfold frameL
        rw [← hMk.out, ← frame_row, List.take_zero, List.nil_append, ivs_app, ivs_len, Nat.zero_add]
        simp [ivs])
      have hfit := Lib.hid (show 0 + (ivs .i64 ((xs.drop M).take s)).length ≤ (ivs .i64 (zs s)).toArray.size by
        rw [ivs_len, List.size_toArray, ivs_len, zs_len, List.length_take]; omega)
      have hG2 : Mk ((wr.alloc (.cells (ivs .i64 (zs s)).toArray 3)).setRow wr.heap.size (ivs .i64 (frameL xs s p k)).toArray) wr.heap.size 3 .i64 (frameL xs s p k) := setRow_heap _ _ _ _ 3 (0, 0) hG
      have hb2 := below_setRow hb1 (Nat.le_refl _) (ivs .i64 (frameL xs s p k)).toArray
      have hfin := Lib.hid (hY.out k (.slice (some ⟨wr.heap.size, 0, none⟩) s s) _ hlt (hJ.out k wr _ hJk (grown_none hb2)) ⟨wr.heap.size, rfl, hG2⟩)
      clear hG2 hb2
      gi_wp2_with (refine wpListIn_copy rfl (.tmp 14) (.tmp 19) 22 22 rfl 3 Try.underlying22 info_int1 wr.heap.size 0 s s (ad.add M) (n - M) (c - M) rfl rfl (ivs .i64 (zs s)).toArray 3 hG (ivs .i64 ((xs.drop M).take s)) hcl.out hsrc.out hfit.out (oneCell_ivs _ _) ?_; rw [hrow.out]; generalize (wr.alloc (.cells (ivs .i64 (zs s)).toArray 3)).setRow wr.heap.size (ivs .i64 (frameL xs s p k)).toArray = w2 at *; obtain ⟨fn, tmps, assign, body, hy, hRd⟩ := hfin.out)
      refine ⟨fun h => absurd h (by decide), (roundIn_any hRd).mono ?_⟩
      rintro e w3 ⟨rfl, hJ3⟩
      gi_wp2
      go_roundw
      case rel => exact ⟨k + 1, hlt, by go_num, hJ3⟩
      case measure => simp [intOf]; omega
    · have hkn : k = cnt := by omega
      subst hkn
      gi_wp2
      go_end0
      exact ⟨⟨_, rfl⟩, hJk⟩

/-- the four boxes that the function has captured -/
structure FB (W : World) (bx bs bp bc : Nat) (A : Option Addr) (n c s p cnt : Nat) : Prop where
  x : Blk W bx 22 #[.slice A n c]
  s : Blk W bs 3 #[.int .i64 (s : Int)]
  p : Blk W bp 3 #[.int .i64 (p : Int)]
  c : Blk W bc 3 #[.int .i64 (cnt : Int)]

theorem frames_any (A : Option Addr) (n c s p cnt : Nat) (w : World) :
    Calls Try.prog 82 #[.slice A n c, .int .i64 (s : Int), .int .i64 (p : Int), .int .i64 (cnt : Int)] w fun e w' =>
      e = .returned (.func (.func 96) #[] #[.pointer (some ⟨w.heap.size + 3, 0, none⟩), .pointer (some ⟨w.heap.size + 1, 0, none⟩), .pointer (some ⟨w.heap.size, 0, none⟩), .pointer (some ⟨w.heap.size + 2, 0, none⟩)]) ∧
      FB w' w.heap.size (w.heap.size + 1) (w.heap.size + 2) (w.heap.size + 3) A n c s p cnt ∧ Below w.heap.size w w' := by
  go_enter Try.func82, Try.ntmps82
  go_wp2
  go_ret
  have b0 := Blk.new w 22 #[.slice A n c]
  have b1 := Blk.new (w.alloc (.cells #[.slice A n c] 22)) 3 #[.int .i64 (s : Int)]
  have b2 := Blk.new ((w.alloc (.cells #[.slice A n c] 22)).alloc (.cells #[.int .i64 (s : Int)] 3)) 3 #[.int .i64 (p : Int)]
  have b3 := Blk.new (((w.alloc (.cells #[.slice A n c] 22)).alloc (.cells #[.int .i64 (s : Int)] 3)).alloc (.cells #[.int .i64 (p : Int)] 3)) 3 #[.int .i64 (cnt : Int)]
  rw [World.size_alloc] at b1
  rw [World.size_alloc, World.size_alloc] at b2
  rw [World.size_alloc, World.size_alloc, World.size_alloc] at b3
  exact ⟨rfl, ⟨((b0.alloc _).alloc _).alloc _, (b1.alloc _).alloc _, b2.alloc _, b3⟩, ((((Below.refl w.heap.size w).alloc (Nat.le_refl _) _).alloc (by simp) _).alloc (by simp; omega) _).alloc (by simp; omega) _⟩
end Go.Proofs.Ytobobbhifajhmaa
