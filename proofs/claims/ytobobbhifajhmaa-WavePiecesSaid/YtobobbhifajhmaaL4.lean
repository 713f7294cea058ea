/- Samples are put into the ring. -/
import Derived.Test.YtobobbhifajhmaaL3
import Derived.Laws.CopyOwn
namespace Go.Proofs.Ytobobbhifajhmaa
open Go.RowKit

theorem ivs_spl (k : IntKind) (rs ys : List Int) (o : Nat) : (ivs k rs).take o ++ (ivs k ys ++ (ivs k rs).drop (o + (ivs k ys).length)) = ivs k (spl rs o ys) := by
  unfold spl
  rw [ivs_app, ivs_app, ivs_len, List.append_assoc]
  simp [ivs, List.map_take, List.map_drop]
theorem Two.setRow {g gr : Nat} {a b : World} (h : Two g gr a b) (cs : Array Value) : Two g gr a (b.setRow gr cs) :=
  h.trans ⟨rfl, rfl, rfl, by simp [World.setRow], fun k _ _ h2 => setRow_other b gr k cs h2⟩

structure FiRel (G : Gt) (g gr : Nat) (st : Int) (a t : Nat) (run first last : Int) (rs ys : List Int) (w w' : World) : Prop where
  lb : LB w' g G st (.slice (some ⟨gr, 0, none⟩) (2 * G.B) (2 * G.B)) ((a + t : Nat) : Int) run first last
  ring : Mk w' gr 3 .i64 (spl rs (a / G.B % 2 * G.B + a % G.B) (ys.take t))
  two : Two g gr w w'
theorem info_int1 : (Try.prog.info? 3).map (·.size) = some 1 := by kernel_rfl

set_option maxHeartbeats 1600000 in
set_option maxRecDepth 100000 in
theorem fill_any (g gr a : Nat) (A : Option Addr) (n c : Nat) (xs : List Int) (w : World) (G : Gt) (hG : G.Ok) (st run first last : Int) (rs : List Int) (ha : a ≤ 2147483648)
    (h : LB w g G st (.slice (some ⟨gr, 0, none⟩) (2 * G.B) (2 * G.B)) (a : Int) run first last) (hR : Mk w gr 3 .i64 rs) (hne : gr ≠ g) (hrl : rs.length = 2 * G.B)
    (hS : Sl .i64 w A n c xs) (hn : 0 < n) (hn2 : n ≤ 2147483648) :
    Calls Try.prog 90 #[.pointer (some ⟨g, 0, none⟩), .slice A n c] w fun e w' => e = .returned (.int .i64 ((min n (G.B - a % G.B) : Nat) : Int)) ∧ FiRel G g gr st a (min n (G.B - a % G.B)) run first last rs xs w w' := by
  have hb1 := hG.b1
  have hb2 := hG.b2
  have hxl := Lib.hid hS.len
  have hcap := hS.cap
  have htop := hS.top
  obtain ⟨ad, rfl, _⟩ := hS.cell hn
  have hp := Nat.mod_lt a (show 0 < G.B by omega)
  have hbb : a / G.B ≤ a := Nat.div_le_self _ _
  have eb : (a : Int) / (G.B : Int) = ((a / G.B : Nat) : Int) := by rw [Int.natCast_ediv]
  have ep : (a : Int) % (G.B : Int) = ((a % G.B : Nat) : Int) := by rw [Int.natCast_emod]
  have hfin : ∀ (w' : World) (t : Nat), LB w' g G st (.slice (some ⟨gr, 0, none⟩) (2 * G.B) (2 * G.B)) ((a : Int) + (t : Int)) run first last → Mk w' gr 3 .i64 (spl rs (a / G.B % 2 * G.B + a % G.B) (xs.take t)) → Two g gr w w' → FiRel G g gr st a t run first last rs xs w w' :=
    fun w' t h1 h2 h3 => ⟨by rw [Int.natCast_add]; exact h1, h2, h3⟩
  have hfin := Lib.hid hfin
  have hoff : a / G.B % 2 * G.B + G.B ≤ rs.length := by rw [hrl]; rcases (show a / G.B % 2 = 0 ∨ a / G.B % 2 = 1 by omega) with e | e <;> rw [e] <;> omega
  have hrl := Lib.hid hrl
  generalize a / G.B = b at *
  generalize a % G.B = p at *
  obtain ⟨t, ht⟩ : ∃ t, t = min n (G.B - p) := ⟨_, rfl⟩
  rw [← ht]
  have htn : t ≤ n := by omega
  have htp : p + t ≤ G.B := by omega
  have ht1 : 0 < t := by omega
  have ht' := Lib.hid ht
  clear ht
  have c0 := h.c0
  have c9 := h.c9
  have hB0 : ¬ G.B = 0 := by omega
  have hblk := Lib.hid (fun w (h : LB w g G st (.slice (some ⟨gr, 0, none⟩) (2 * G.B) (2 * G.B)) (a : Int) run first last) => (block_any g gr b w G hG _ _ _ _ _ h (by omega)).mono fun e w' h => (⟨h.1, h.2.symm⟩ : e = .returned (.slice (some ⟨gr, b % 2 * G.B, none⟩) G.B G.B) ∧ w' = w))
  generalize hob : b % 2 * G.B = ob at *
  have hob' := Lib.hid hob
  clear hob
  go_enter Try.func90, Try.ntmps90
  go_wp2
  have wb : IntKind.i64.wrap (b : Int) = (b : Int) := IntWalk.i64_in _ (by omega)
  go_still_tail 12, (by kernel_rfl)
  still_call (hblk.out _ (h.drewN 1))
  repeat still_step
  refine wpStill_nil ?_
  change wpList _ _ _ _ _ (w.drewN 1)
  have hL1 := h.drewN 1
  have hR1 := hR.drewN 1
  have hS1 := hS.drewN 1
  have hT1 := (Two.refl g gr w).drewN 1
  clear c0 c9 wb
  generalize w.drewN 1 = w1 at *
  have c0 := hL1.c0
  have c9 := hL1.c9
  have hpi : (p : Int) ≤ (G.B : Int) := by omega
  have hpk : ¬ G.B = p := by omega
  go_wp2
  have em : (a : Int).tmod (G.B : Int) = (p : Int) := by rw [Int.tmod_eq_emod_of_nonneg (by omega)]; exact ep
  have wp : IntKind.i64.wrap (p : Int) = (p : Int) := IntWalk.i64_in _ (by omega)
  go_still_tail 13, (by kernel_rfl)
  change wpList _ _ _ _ _ (w1.drewN 1)
  have hL2 := hL1.drewN 1
  have hR2 := hR1.drewN 1
  have hS2 := hS1.drewN 1
  have hT2 := hT1.drewN 1
  clear c0 c9 wp em ep eb
  generalize w1.drewN 1 = w2 at *
  have hcl := Lib.hid (show (ivs .i64 (xs.take t)).length = t by rw [ivs_len, List.length_take, hxl.out]; omega)
  refine wpList_copy_own rfl (.tmp 30) (.tmp 31) 22 22 rfl 3 Try.underlying22 info_int1 gr (ob + p) (G.B - p) (G.B - p) ad n c rfl rfl (ivs .i64 rs).toArray 3 hR2 (ivs .i64 (xs.take t)) ?c1 ?c2 ?c3 (oneCell_ivs _ _) ?_
  case c1 => rw [hcl.out]; exact ht'.out
  case c2 => exact (hS2.take htn).news
  case c3 => rw [hcl.out]; simp [ivs_len]; omega
  rw [hcl.out]
  have hsp := ivs_spl .i64 rs (xs.take t) (ob + p)
  rw [hcl.out] at hsp
  rw [show List.take (ob + p) (ivs .i64 rs).toArray.toList ++ (ivs .i64 (List.take t xs) ++ List.drop (ob + p + t) (ivs .i64 rs).toArray.toList) = ivs .i64 (spl rs (ob + p) (xs.take t)) from hsp]
  have hR3 : Mk (w2.setRow gr (ivs .i64 (spl rs (ob + p) (xs.take t))).toArray) gr 3 .i64 (spl rs (ob + p) (xs.take t)) := setRow_heap w2 gr _ _ 3 (0, 0) hR2
  have hL3 : LB (w2.setRow gr (ivs .i64 (spl rs (ob + p) (xs.take t))).toArray) g G st (.slice (some ⟨gr, 0, none⟩) (2 * G.B) (2 * G.B)) a run first last := (setRow_other w2 gr g _ (fun e => hne e.symm)).trans hL2
  have hT3 := hT2.setRow (ivs .i64 (spl rs (ob + p) (xs.take t))).toArray
  clear hsp
  generalize w2.setRow gr (ivs .i64 (spl rs (ob + p) (xs.take t))).toArray = w3 at *
  have c9 := hL3.c9
  have f9 := hL3.fz 9
  go_wp2
  go_ret
  exact ⟨ret_int rfl, hfin.out _ t (hL3.s9 _) (hR3.far hne _) (hT3.set_ 9 _)⟩
end Go.Proofs.Ytobobbhifajhmaa
