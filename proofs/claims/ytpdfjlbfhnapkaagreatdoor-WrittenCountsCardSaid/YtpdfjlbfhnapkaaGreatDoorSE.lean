/- Numbers as a parser takes them: the last three digits, all digits, zero too. -/
import Derived.Test.YtpdfjlbfhnapkaaGreatDoorSC
import Derived.Deep.RegionHeld3
import Derived.Deep.Draws
import Derived.Test.YtpdfjlbfhnapkaaGreatDoorShelf
namespace Go.Proofs.YtpdfjlbfhnapkaaGreatDoor
open Go.RowKit
set_option linter.unusedSimpArgs false

def lastF (n : Nat) (ws : List Str) : Nat × List Str :=
  if n + 100 * (beforeF [104, 117, 110, 100, 114, 101, 100] unitF ws).1 = 0 then belowF (beforeF [104, 117, 110, 100, 114, 101, 100] unitF ws).2
  else (n + 100 * (beforeF [104, 117, 110, 100, 114, 101, 100] unitF ws).1 + (afterF [97, 110, 100] belowF (beforeF [104, 117, 110, 100, 114, 101, 100] unitF ws).2).1, (afterF [97, 110, 100] belowF (beforeF [104, 117, 110, 100, 114, 101, 100] unitF ws).2).2)
def groupF (ws : List Str) : Nat × List Str := lastF 0 ws
def powF : List (Nat × Str) → Nat → List Str → Nat × List Str
  | [], n, ws => (n, ws)
  | p :: ps, n, ws => powF ps (n + p.1 * (beforeF p.2 groupF ws).1) (beforeF p.2 groupF ws).2
def countF (ws : List Str) : Nat × List Str := lastF (powF powL 0 ws).1 (powF powL 0 ws).2
theorem lastF_le (n : Nat) (ws : List Str) : (lastF n ws).1 ≤ n + 999 := by
  unfold lastF
  split
  · have := belowF_le (beforeF [104, 117, 110, 100, 114, 101, 100] unitF ws).2
    omega
  · have h1 := befF_le (F := unitF) (m := 9) (x := [104, 117, 110, 100, 114, 101, 100]) (ws := ws) (unitF_le ws)
    have h2 := aftF_le (F := belowF) (m := 99) (x := [97, 110, 100]) (ws := (beforeF [104, 117, 110, 100, 114, 101, 100] unitF ws).2) (belowF_le _)
    show _ + _ + _ ≤ _
    omega
theorem groupF_le (ws : List Str) : (groupF ws).1 ≤ 999 := by have := lastF_le 0 ws; unfold groupF; omega

set_option maxRecDepth 100000 in
set_option maxHeartbeats 1600000 in
theorem last_any (n : Nat) (hn : n ≤ 1000000000000000) (g : Nat) (ws : List Str) (w : World) (h : PW w g ws) :
    Calls Tryz.prog 218 #[.pointer (some ⟨g, 0, none⟩), .int .i64 (n : Int)] w (RetP g (lastF n ws) w) := by
  have hmf : ∀ (fn : Fn) (first cap : Array Value) (w : World), (Instr.makeFunc fn first cap).run Tryz.prog w = .ok (.func fn first cap) w := fun _ _ _ _ => rfl
  have hc := Lib.hid (before_any 176 unitF (fun g ws w h => unit_any g ws w h) (fun _ _ => rfl) [104, 117, 110, 100, 114, 101, 100] g ws w h)
  have h1 := befF_le (F := unitF) (m := 9) (x := [104, 117, 110, 100, 114, 101, 100]) (ws := ws) (unitF_le ws)
  have hL := Lib.hid (show lastF n ws = if n + 100 * (beforeF [104, 117, 110, 100, 114, 101, 100] unitF ws).1 = 0 then belowF (beforeF [104, 117, 110, 100, 114, 101, 100] unitF ws).2
  else (n + 100 * (beforeF [104, 117, 110, 100, 114, 101, 100] unitF ws).1 + (afterF [97, 110, 100] belowF (beforeF [104, 117, 110, 100, 114, 101, 100] unitF ws).2).1, (afterF [97, 110, 100] belowF (beforeF [104, 117, 110, 100, 114, 101, 100] unitF ws).2).2) from rfl)
  generalize beforeF [104, 117, 110, 100, 114, 101, 100] unitF ws = r at *
  obtain ⟨y, vs⟩ := r
  simp only at h1
  go_enter Tryz.func218, Tryz.ntmps218
  go_wp2_with fail
  refine hc.out.mono ?_
  rintro e w2 ⟨rfl, hP, hU⟩
  have w1 : IntKind.i64.wrap (100 * (y : Int)) = 100 * (y : Int) := IntWalk.i64_in _ (by omega)
  have w3 : IntKind.i64.wrap ((n : Int) + 100 * (y : Int)) = ((n + 100 * y : Nat) : Int) := by rw [IntWalk.i64_in _ (by omega)]; omega
  obtain ⟨z, hz⟩ : ∃ z, n + 100 * y = z := ⟨_, rfl⟩
  have hz2 : z ≤ n + 900 := by omega
  rw [hz] at w3
  have hL2 := Lib.hid (show lastF n ws = if z = 0 then belowF vs else (z + (afterF [97, 110, 100] belowF vs).1, (afterF [97, 110, 100] belowF vs).2) by rw [hL.out, ← hz])
  clear hz
  by_cases h0 : z = 0
  · subst h0
    have hb := Lib.hid (below_any g vs w2 hP)
    have hL3 := Lib.hid (show lastF n ws = belowF vs by rw [hL2.out, if_pos rfl])
    go_wp2_with fail
    refine hb.out.mono ?_
    rintro e w4 ⟨rfl, hP4, hU4⟩
    go_wp2
    go_ret
    exact ⟨ret_nat (by rw [hL3.out]), by rw [hL3.out]; exact hP4, hU.trans hU4⟩
  · have hz3 : ((z : Int) == 0) = false := by rw [beq_eq_false_iff_ne]; omega
    have hL3 := Lib.hid (show lastF n ws = (z + (afterF [97, 110, 100] belowF vs).1, (afterF [97, 110, 100] belowF vs).2) by rw [hL2.out, if_neg h0])
    have hb := Lib.hid (after_any 150 belowF (fun g ws w h => below_any g ws w h) (fun _ _ => rfl) [97, 110, 100] g vs w2 hP)
    have h2 := aftF_le (F := belowF) (m := 99) (x := [97, 110, 100]) (ws := vs) (belowF_le _)
    generalize afterF [97, 110, 100] belowF vs = r at *
    obtain ⟨u, us⟩ := r
    simp only at h2
    go_wp2_with fail
    refine hb.out.mono ?_
    rintro e w4 ⟨rfl, hP4, hU4⟩
    have w5 : IntKind.i64.wrap ((z : Int) + (u : Int)) = ((z + u : Nat) : Int) := by rw [IntWalk.i64_in _ (by omega)]; omega
    generalize z + u = q at *
    go_wp2
    go_ret
    exact ⟨ret_nat (by rw [hL3.out]), by rw [hL3.out]; exact hP4, hU.trans hU4⟩
set_option maxRecDepth 100000 in
theorem group_any (g : Nat) (ws : List Str) (w : World) (h : PW w g ws) :
    Calls Tryz.prog 217 #[.pointer (some ⟨g, 0, none⟩)] w (RetP g (groupF ws) w) := by
  have hc := Lib.hid (show Calls Tryz.prog 218 #[.pointer (some ⟨g, 0, none⟩), .int .i64 0] w (RetP g (groupF ws) w) from last_any 0 (by decide) g ws w h)
  go_enter Tryz.func217, Tryz.ntmps217
  go_wp2_with fail
  refine hc.out.mono ?_
  rintro e w2 ⟨rfl, hP, hU⟩
  go_wp2
  go_ret
  exact ⟨rfl, hP, hU⟩

set_option maxRecDepth 100000 in
set_option maxHeartbeats 4000000 in
theorem count_any (g : Nat) (ws : List Str) (w : World) (h : PW w g ws) :
    Calls Tryz.prog 214 #[.pointer (some ⟨g, 0, none⟩)] w (RetP g (countF ws) w) := by
  have hmf : ∀ (fn : Fn) (first cap : Array Value) (w : World), (Instr.makeFunc fn first cap).run Tryz.prog w = .ok (.func fn first cap) w := fun _ _ _ _ => rfl
  have c0 : w.cell? ⟨3, 0, none⟩ = some (.int .i64 1000000000) := h.2.1.pow1 0 (by decide)
  have c1 : w.cell? ⟨3, 1, none⟩ = some (.string ⟨#[98, 105, 108, 108, 105, 111, 110]⟩) := h.2.1.pow2 0 (by decide)
  have c2 : w.cell? ⟨3, 2, none⟩ = some (.int .i64 1000000) := h.2.1.pow1 1 (by decide)
  have c3 : w.cell? ⟨3, 3, none⟩ = some (.string ⟨#[109, 105, 108, 108, 105, 111, 110]⟩) := h.2.1.pow2 1 (by decide)
  have c4 : w.cell? ⟨3, 4, none⟩ = some (.int .i64 1000) := h.2.1.pow1 2 (by decide)
  have c5 : w.cell? ⟨3, 5, none⟩ = some (.string ⟨#[116, 104, 111, 117, 115, 97, 110, 100]⟩) := h.2.1.pow2 2 (by decide)
  go_enter Tryz.func214, Tryz.ntmps214
  go_wp2
  clear c0 c1 c2 c3 c4 c5
  go_loopw [3, 7] (fun nv iv wr' => ∃ (j n : Nat) (vs : List Str) (wr : World), wr = wr' ∧ iv = .int .i64 (j : Int) ∧ nv = .int .i64 (n : Int) ∧ j ≤ 3 ∧ n ≤ j * 1000000000000 ∧ Hid (powF powL 0 ws = powF (powL.drop j) n vs) ∧ PW wr g vs ∧ Upto g w wr) (fun _ iv _ => 3 - (intOf iv).toNat)
  case atStart => exact ⟨0, 0, ws, _, rfl, rfl, rfl, by decide, Nat.zero_le _, rfl, h, Upto.refl _ _⟩
  case round =>
    obtain ⟨j, n, vs, wr, rfl, rfl, rfl, hj, hn, hq, hP, hU⟩ := hrel
    rcases (show j = 0 ∨ j = 1 ∨ j = 2 ∨ j = 3 by omega) with rfl | rfl | rfl | rfl
    · have hBk := Blk.new wr 153 #[.int .i64 1000000000, .string ⟨#[98, 105, 108, 108, 105, 111, 110]⟩]
      have hPa := hP.alloc (.cells #[.int .i64 1000000000, .string ⟨#[98, 105, 108, 108, 105, 111, 110]⟩] 153)
      have hUa := hU.alloc (.cells #[.int .i64 1000000000, .string ⟨#[98, 105, 108, 108, 105, 111, 110]⟩] 153)
      have hs := Lib.hid (show powF powL 0 ws = powF (powL.drop (0 + 1)) (n + 1000000000 * (beforeF [98, 105, 108, 108, 105, 111, 110] groupF vs).1) (beforeF [98, 105, 108, 108, 105, 111, 110] groupF vs).2 by rw [hq.out]; rfl)
      have hle := befF_le (F := groupF) (m := 999) (x := [98, 105, 108, 108, 105, 111, 110]) (ws := vs) (groupF_le vs)
      have hc := Lib.hid (fun (W : World) (hW : PW W g vs) => before_any 217 groupF (fun g ws w h => group_any g ws w h) (fun _ _ => rfl) [98, 105, 108, 108, 105, 111, 110] g vs W hW)
      generalize beforeF [98, 105, 108, 108, 105, 111, 110] groupF vs = r at *
      obtain ⟨y, us⟩ := r
      simp only at hle
      have hgl : g < wr.heap.size := hP.lt
      have hix : ∀ w9 : World, (Instr.index 154 (.agg #[.int .i64 1000000000, .string ⟨#[98, 105, 108, 108, 105, 111, 110]⟩, .int .i64 1000000, .string ⟨#[109, 105, 108, 108, 105, 111, 110]⟩, .int .i64 1000, .string ⟨#[116, 104, 111, 117, 115, 97, 110, 100]⟩]) (.int .i64 0)).run Tryz.prog w9 = .ok (.agg #[.int .i64 1000000000, .string ⟨#[98, 105, 108, 108, 105, 111, 110]⟩]) w9 := fun _ => by kernel_rfl
      go_wp2_with fail
      have hHd : (fun wx : World => wx.cell? ⟨wr.heap.size, 0, none⟩ = some (.int .i64 1000000000) ∧ wx.cell? ⟨wr.heap.size, 1, none⟩ = some (.string ⟨#[98, 105, 108, 108, 105, 111, 110]⟩)) (wr.alloc (.cells #[.int .i64 1000000000, .string ⟨#[98, 105, 108, 108, 105, 111, 110]⟩] 153)).drew := ⟨(hBk.drewN 1).cell 0, (hBk.drewN 1).cell 1⟩
      refine wp_region_held_drew (S := (fun wx => wx.cell? ⟨wr.heap.size, 0, none⟩ = some (.int .i64 1000000000) ∧ wx.cell? ⟨wr.heap.size, 1, none⟩ = some (.string ⟨#[98, 105, 108, 108, 105, 111, 110]⟩))) (by kernel_rfl) hHd (fun hHeld => ?_)
      refine wpAnyH_take (i := 0) (v := .int .i64 (n : Int)) rfl (by kernel_rfl) (by kernel_rfl) (by kernel_rfl) (fun _ _ _ h => h) (Or.inl ⟨by kernel_rfl, by (intro w hSw; (try dsimp only at hSw); go_simp)⟩) hHeld ?_
      simp only [Act.put, List.getElem_toArray, List.getElem_cons_succ, List.getElem_cons_zero, List.setIfInBounds_toArray, List.set_cons_zero, List.set_cons_succ]
      refine wpAnyH_take (i := 1) (v := .pointer (some ⟨wr.heap.size, 0, none⟩)) rfl (by kernel_rfl) (by kernel_rfl) (by kernel_rfl) (fun _ _ _ h => h) (Or.inl ⟨by kernel_rfl, by (intro w hSw; (try dsimp only at hSw); go_simp)⟩) hHeld ?_
      simp only [Act.put, List.getElem_toArray, List.getElem_cons_succ, List.getElem_cons_zero, List.setIfInBounds_toArray, List.set_cons_zero, List.set_cons_succ]
      refine wpAnyH_take (i := 2) (v := .int .i64 1000000000) rfl (by kernel_rfl) (by kernel_rfl) (by kernel_rfl) (fun _ _ _ h => h) (Or.inl ⟨by kernel_rfl, by (intro w hSw; (try dsimp only at hSw); go_simp)⟩) hHeld ?_
      simp only [Act.put, List.getElem_toArray, List.getElem_cons_succ, List.getElem_cons_zero, List.setIfInBounds_toArray, List.set_cons_zero, List.set_cons_succ]
      refine wpAnyH_take (i := 3) (v := .pointer (some ⟨g, 0, none⟩)) rfl (by kernel_rfl) (by kernel_rfl) (by kernel_rfl) (fun _ _ _ h => h) (Or.inl ⟨by kernel_rfl, by (intro w hSw; (try dsimp only at hSw); go_simp)⟩) hHeld ?_
      simp only [Act.put, List.getElem_toArray, List.getElem_cons_succ, List.getElem_cons_zero, List.setIfInBounds_toArray, List.set_cons_zero, List.set_cons_succ]
      refine wpAnyH_take (i := 4) (v := .pointer (some ⟨wr.heap.size, 1, none⟩)) rfl (by kernel_rfl) (by kernel_rfl) (by kernel_rfl) (fun _ _ _ h => h) (Or.inl ⟨by kernel_rfl, by (intro w hSw; (try dsimp only at hSw); go_simp)⟩) hHeld ?_
      simp only [Act.put, List.getElem_toArray, List.getElem_cons_succ, List.getElem_cons_zero, List.setIfInBounds_toArray, List.set_cons_zero, List.set_cons_succ]
      refine wpAnyH_take (i := 5) (v := .string ⟨#[98, 105, 108, 108, 105, 111, 110]⟩) rfl (by kernel_rfl) (by kernel_rfl) (by kernel_rfl) (fun _ _ _ h => h) (Or.inl ⟨by kernel_rfl, by (intro w hSw; (try dsimp only at hSw); go_simp)⟩) hHeld ?_
      simp only [Act.put, List.getElem_toArray, List.getElem_cons_succ, List.getElem_cons_zero, List.setIfInBounds_toArray, List.set_cons_zero, List.set_cons_succ]
      refine wpAnyH_take (i := 6) (v := .pointer (some ⟨g, 0, none⟩)) rfl (by kernel_rfl) (by kernel_rfl) (by kernel_rfl) (fun _ _ _ h => h) (Or.inl ⟨by kernel_rfl, by (intro w hSw; (try dsimp only at hSw); go_simp)⟩) hHeld ?_
      simp only [Act.put, List.getElem_toArray, List.getElem_cons_succ, List.getElem_cons_zero, List.setIfInBounds_toArray, List.set_cons_zero, List.set_cons_succ]
      refine wpAnyH_take (i := 7) (v := .func (.func 217) #[.pointer (some ⟨g, 0, none⟩)] #[]) rfl (by kernel_rfl) (by kernel_rfl) (by kernel_rfl) (fun _ _ _ h => h) (Or.inl ⟨by kernel_rfl, by (intro w hSw; (try dsimp only at hSw); go_simp)⟩) hHeld ?_
      simp only [Act.put, List.getElem_toArray, List.getElem_cons_succ, List.getElem_cons_zero, List.setIfInBounds_toArray, List.set_cons_zero, List.set_cons_succ]
      refine wpAnyH_ready (rs := [8]) (by kernel_rfl) (by simp) ?_
      refine AllReadyH.cons rfl (fun K hK => ?_) AllReadyH.nil
      go_simp
      refine (hc.out _ (hPa.drewN 1)).mono ?_
      rintro e w4 ⟨rfl, hP4, hU4⟩
      have hU5 := (hUa.drewN 1).trans hU4
      have hB5 := hU4.blk (hBk.drewN 1) (by omega)
      go_wp2_with fail
      refine hK.out _ _ ⟨hB5.cell 0, hB5.cell 1⟩ (fun hHeld => ?_)
      clear hK K
      try simp only [Act.put, List.getElem_toArray, List.getElem_cons_succ, List.getElem_cons_zero, List.setIfInBounds_toArray, List.set_cons_zero, List.set_cons_succ]
      have w1 : IntKind.i64.wrap (1000000000 * (y : Int)) = 1000000000 * (y : Int) := IntWalk.i64_in _ (by omega)
      have w2 : IntKind.i64.wrap ((n : Int) + 1000000000 * (y : Int)) = ((n + 1000000000 * y : Nat) : Int) := by rw [IntWalk.i64_in _ (by omega)]; omega
      refine wpAnyH_take (i := 9) (v := .int .i64 (1000000000 * (y : Int))) rfl (by kernel_rfl) (by kernel_rfl) (by kernel_rfl) (fun _ _ _ h => h) (Or.inl ⟨by kernel_rfl, by (intro w hSw; (try dsimp only at hSw); go_simp)⟩) hHeld ?_
      simp only [Act.put, List.getElem_toArray, List.getElem_cons_succ, List.getElem_cons_zero, List.setIfInBounds_toArray, List.set_cons_zero, List.set_cons_succ]
      refine wpAnyH_take (i := 10) (v := .int .i64 ((n + 1000000000 * y : Nat) : Int)) rfl (by kernel_rfl) (by kernel_rfl) (by kernel_rfl) (fun _ _ _ h => h) (Or.inl ⟨by kernel_rfl, by (intro w hSw; (try dsimp only at hSw); go_simp)⟩) hHeld ?_
      simp only [Act.put, List.getElem_toArray, List.getElem_cons_succ, List.getElem_cons_zero, List.setIfInBounds_toArray, List.set_cons_zero, List.set_cons_succ]
      refine wpAnyH_take (i := 11) (v := .int .i64 ((n + 1000000000 * y : Nat) : Int)) rfl (by kernel_rfl) (by kernel_rfl) (by kernel_rfl) (fun _ _ _ h => h) (Or.inl ⟨by kernel_rfl, by (intro w hSw; (try dsimp only at hSw); go_simp)⟩) hHeld ?_
      simp only [Act.put, List.getElem_toArray, List.getElem_cons_succ, List.getElem_cons_zero, List.setIfInBounds_toArray, List.set_cons_zero, List.set_cons_succ]
      refine wpAnyH_done (by kernel_rfl) ?_ _
      obtain ⟨z, hz⟩ : ∃ z, n + 1000000000 * y = z := ⟨_, rfl⟩
      have hz2 : z ≤ (0 + 1) * 1000000000000 := by omega
      rw [hz] at hs ⊢
      have hz := Lib.hid hz
      go_wp2
      go_roundw
      case rel => exact ⟨0 + 1, z, us, _, rfl, by go_num, rfl, by decide, hz2, hs.out, hP4, hU5⟩
      case measure => simp [intOf]
    · have hBk := Blk.new wr 153 #[.int .i64 1000000, .string ⟨#[109, 105, 108, 108, 105, 111, 110]⟩]
      have hPa := hP.alloc (.cells #[.int .i64 1000000, .string ⟨#[109, 105, 108, 108, 105, 111, 110]⟩] 153)
      have hUa := hU.alloc (.cells #[.int .i64 1000000, .string ⟨#[109, 105, 108, 108, 105, 111, 110]⟩] 153)
      have hs := Lib.hid (show powF powL 0 ws = powF (powL.drop (1 + 1)) (n + 1000000 * (beforeF [109, 105, 108, 108, 105, 111, 110] groupF vs).1) (beforeF [109, 105, 108, 108, 105, 111, 110] groupF vs).2 by rw [hq.out]; rfl)
      have hle := befF_le (F := groupF) (m := 999) (x := [109, 105, 108, 108, 105, 111, 110]) (ws := vs) (groupF_le vs)
      have hc := Lib.hid (fun (W : World) (hW : PW W g vs) => before_any 217 groupF (fun g ws w h => group_any g ws w h) (fun _ _ => rfl) [109, 105, 108, 108, 105, 111, 110] g vs W hW)
      generalize beforeF [109, 105, 108, 108, 105, 111, 110] groupF vs = r at *
      obtain ⟨y, us⟩ := r
      simp only at hle
      have hgl : g < wr.heap.size := hP.lt
      have hix : ∀ w9 : World, (Instr.index 154 (.agg #[.int .i64 1000000000, .string ⟨#[98, 105, 108, 108, 105, 111, 110]⟩, .int .i64 1000000, .string ⟨#[109, 105, 108, 108, 105, 111, 110]⟩, .int .i64 1000, .string ⟨#[116, 104, 111, 117, 115, 97, 110, 100]⟩]) (.int .i64 1)).run Tryz.prog w9 = .ok (.agg #[.int .i64 1000000, .string ⟨#[109, 105, 108, 108, 105, 111, 110]⟩]) w9 := fun _ => by kernel_rfl
      go_wp2_with fail
      have hHd : (fun wx : World => wx.cell? ⟨wr.heap.size, 0, none⟩ = some (.int .i64 1000000) ∧ wx.cell? ⟨wr.heap.size, 1, none⟩ = some (.string ⟨#[109, 105, 108, 108, 105, 111, 110]⟩)) (wr.alloc (.cells #[.int .i64 1000000, .string ⟨#[109, 105, 108, 108, 105, 111, 110]⟩] 153)).drew := ⟨(hBk.drewN 1).cell 0, (hBk.drewN 1).cell 1⟩
      refine wp_region_held_drew (S := (fun wx => wx.cell? ⟨wr.heap.size, 0, none⟩ = some (.int .i64 1000000) ∧ wx.cell? ⟨wr.heap.size, 1, none⟩ = some (.string ⟨#[109, 105, 108, 108, 105, 111, 110]⟩))) (by kernel_rfl) hHd (fun hHeld => ?_)
      refine wpAnyH_take (i := 0) (v := .int .i64 (n : Int)) rfl (by kernel_rfl) (by kernel_rfl) (by kernel_rfl) (fun _ _ _ h => h) (Or.inl ⟨by kernel_rfl, by (intro w hSw; (try dsimp only at hSw); go_simp)⟩) hHeld ?_
      simp only [Act.put, List.getElem_toArray, List.getElem_cons_succ, List.getElem_cons_zero, List.setIfInBounds_toArray, List.set_cons_zero, List.set_cons_succ]
      refine wpAnyH_take (i := 1) (v := .pointer (some ⟨wr.heap.size, 0, none⟩)) rfl (by kernel_rfl) (by kernel_rfl) (by kernel_rfl) (fun _ _ _ h => h) (Or.inl ⟨by kernel_rfl, by (intro w hSw; (try dsimp only at hSw); go_simp)⟩) hHeld ?_
      simp only [Act.put, List.getElem_toArray, List.getElem_cons_succ, List.getElem_cons_zero, List.setIfInBounds_toArray, List.set_cons_zero, List.set_cons_succ]
      refine wpAnyH_take (i := 2) (v := .int .i64 1000000) rfl (by kernel_rfl) (by kernel_rfl) (by kernel_rfl) (fun _ _ _ h => h) (Or.inl ⟨by kernel_rfl, by (intro w hSw; (try dsimp only at hSw); go_simp)⟩) hHeld ?_
      simp only [Act.put, List.getElem_toArray, List.getElem_cons_succ, List.getElem_cons_zero, List.setIfInBounds_toArray, List.set_cons_zero, List.set_cons_succ]
      refine wpAnyH_take (i := 3) (v := .pointer (some ⟨g, 0, none⟩)) rfl (by kernel_rfl) (by kernel_rfl) (by kernel_rfl) (fun _ _ _ h => h) (Or.inl ⟨by kernel_rfl, by (intro w hSw; (try dsimp only at hSw); go_simp)⟩) hHeld ?_
      simp only [Act.put, List.getElem_toArray, List.getElem_cons_succ, List.getElem_cons_zero, List.setIfInBounds_toArray, List.set_cons_zero, List.set_cons_succ]
      refine wpAnyH_take (i := 4) (v := .pointer (some ⟨wr.heap.size, 1, none⟩)) rfl (by kernel_rfl) (by kernel_rfl) (by kernel_rfl) (fun _ _ _ h => h) (Or.inl ⟨by kernel_rfl, by (intro w hSw; (try dsimp only at hSw); go_simp)⟩) hHeld ?_
      simp only [Act.put, List.getElem_toArray, List.getElem_cons_succ, List.getElem_cons_zero, List.setIfInBounds_toArray, List.set_cons_zero, List.set_cons_succ]
      refine wpAnyH_take (i := 5) (v := .string ⟨#[109, 105, 108, 108, 105, 111, 110]⟩) rfl (by kernel_rfl) (by kernel_rfl) (by kernel_rfl) (fun _ _ _ h => h) (Or.inl ⟨by kernel_rfl, by (intro w hSw; (try dsimp only at hSw); go_simp)⟩) hHeld ?_
      simp only [Act.put, List.getElem_toArray, List.getElem_cons_succ, List.getElem_cons_zero, List.setIfInBounds_toArray, List.set_cons_zero, List.set_cons_succ]
      refine wpAnyH_take (i := 6) (v := .pointer (some ⟨g, 0, none⟩)) rfl (by kernel_rfl) (by kernel_rfl) (by kernel_rfl) (fun _ _ _ h => h) (Or.inl ⟨by kernel_rfl, by (intro w hSw; (try dsimp only at hSw); go_simp)⟩) hHeld ?_
      simp only [Act.put, List.getElem_toArray, List.getElem_cons_succ, List.getElem_cons_zero, List.setIfInBounds_toArray, List.set_cons_zero, List.set_cons_succ]
      refine wpAnyH_take (i := 7) (v := .func (.func 217) #[.pointer (some ⟨g, 0, none⟩)] #[]) rfl (by kernel_rfl) (by kernel_rfl) (by kernel_rfl) (fun _ _ _ h => h) (Or.inl ⟨by kernel_rfl, by (intro w hSw; (try dsimp only at hSw); go_simp)⟩) hHeld ?_
      simp only [Act.put, List.getElem_toArray, List.getElem_cons_succ, List.getElem_cons_zero, List.setIfInBounds_toArray, List.set_cons_zero, List.set_cons_succ]
      refine wpAnyH_ready (rs := [8]) (by kernel_rfl) (by simp) ?_
      refine AllReadyH.cons rfl (fun K hK => ?_) AllReadyH.nil
      go_simp
      refine (hc.out _ (hPa.drewN 1)).mono ?_
      rintro e w4 ⟨rfl, hP4, hU4⟩
      have hU5 := (hUa.drewN 1).trans hU4
      have hB5 := hU4.blk (hBk.drewN 1) (by omega)
      go_wp2_with fail
      refine hK.out _ _ ⟨hB5.cell 0, hB5.cell 1⟩ (fun hHeld => ?_)
      clear hK K
      try simp only [Act.put, List.getElem_toArray, List.getElem_cons_succ, List.getElem_cons_zero, List.setIfInBounds_toArray, List.set_cons_zero, List.set_cons_succ]
      have w1 : IntKind.i64.wrap (1000000 * (y : Int)) = 1000000 * (y : Int) := IntWalk.i64_in _ (by omega)
      have w2 : IntKind.i64.wrap ((n : Int) + 1000000 * (y : Int)) = ((n + 1000000 * y : Nat) : Int) := by rw [IntWalk.i64_in _ (by omega)]; omega
      refine wpAnyH_take (i := 9) (v := .int .i64 (1000000 * (y : Int))) rfl (by kernel_rfl) (by kernel_rfl) (by kernel_rfl) (fun _ _ _ h => h) (Or.inl ⟨by kernel_rfl, by (intro w hSw; (try dsimp only at hSw); go_simp)⟩) hHeld ?_
      simp only [Act.put, List.getElem_toArray, List.getElem_cons_succ, List.getElem_cons_zero, List.setIfInBounds_toArray, List.set_cons_zero, List.set_cons_succ]
      refine wpAnyH_take (i := 10) (v := .int .i64 ((n + 1000000 * y : Nat) : Int)) rfl (by kernel_rfl) (by kernel_rfl) (by kernel_rfl) (fun _ _ _ h => h) (Or.inl ⟨by kernel_rfl, by (intro w hSw; (try dsimp only at hSw); go_simp)⟩) hHeld ?_
      simp only [Act.put, List.getElem_toArray, List.getElem_cons_succ, List.getElem_cons_zero, List.setIfInBounds_toArray, List.set_cons_zero, List.set_cons_succ]
      refine wpAnyH_take (i := 11) (v := .int .i64 ((n + 1000000 * y : Nat) : Int)) rfl (by kernel_rfl) (by kernel_rfl) (by kernel_rfl) (fun _ _ _ h => h) (Or.inl ⟨by kernel_rfl, by (intro w hSw; (try dsimp only at hSw); go_simp)⟩) hHeld ?_
      simp only [Act.put, List.getElem_toArray, List.getElem_cons_succ, List.getElem_cons_zero, List.setIfInBounds_toArray, List.set_cons_zero, List.set_cons_succ]
      refine wpAnyH_done (by kernel_rfl) ?_ _
      obtain ⟨z, hz⟩ : ∃ z, n + 1000000 * y = z := ⟨_, rfl⟩
      have hz2 : z ≤ (1 + 1) * 1000000000000 := by omega
      rw [hz] at hs ⊢
      have hz := Lib.hid hz
      go_wp2
      go_roundw
      case rel => exact ⟨1 + 1, z, us, _, rfl, by go_num, rfl, by decide, hz2, hs.out, hP4, hU5⟩
      case measure => simp [intOf]
    · have hBk := Blk.new wr 153 #[.int .i64 1000, .string ⟨#[116, 104, 111, 117, 115, 97, 110, 100]⟩]
      have hPa := hP.alloc (.cells #[.int .i64 1000, .string ⟨#[116, 104, 111, 117, 115, 97, 110, 100]⟩] 153)
      have hUa := hU.alloc (.cells #[.int .i64 1000, .string ⟨#[116, 104, 111, 117, 115, 97, 110, 100]⟩] 153)
      have hs := Lib.hid (show powF powL 0 ws = powF (powL.drop (2 + 1)) (n + 1000 * (beforeF [116, 104, 111, 117, 115, 97, 110, 100] groupF vs).1) (beforeF [116, 104, 111, 117, 115, 97, 110, 100] groupF vs).2 by rw [hq.out]; rfl)
      have hle := befF_le (F := groupF) (m := 999) (x := [116, 104, 111, 117, 115, 97, 110, 100]) (ws := vs) (groupF_le vs)
      have hc := Lib.hid (fun (W : World) (hW : PW W g vs) => before_any 217 groupF (fun g ws w h => group_any g ws w h) (fun _ _ => rfl) [116, 104, 111, 117, 115, 97, 110, 100] g vs W hW)
      generalize beforeF [116, 104, 111, 117, 115, 97, 110, 100] groupF vs = r at *
      obtain ⟨y, us⟩ := r
      simp only at hle
      have hgl : g < wr.heap.size := hP.lt
      have hix : ∀ w9 : World, (Instr.index 154 (.agg #[.int .i64 1000000000, .string ⟨#[98, 105, 108, 108, 105, 111, 110]⟩, .int .i64 1000000, .string ⟨#[109, 105, 108, 108, 105, 111, 110]⟩, .int .i64 1000, .string ⟨#[116, 104, 111, 117, 115, 97, 110, 100]⟩]) (.int .i64 2)).run Tryz.prog w9 = .ok (.agg #[.int .i64 1000, .string ⟨#[116, 104, 111, 117, 115, 97, 110, 100]⟩]) w9 := fun _ => by kernel_rfl
      go_wp2_with fail
      have hHd : (fun wx : World => wx.cell? ⟨wr.heap.size, 0, none⟩ = some (.int .i64 1000) ∧ wx.cell? ⟨wr.heap.size, 1, none⟩ = some (.string ⟨#[116, 104, 111, 117, 115, 97, 110, 100]⟩)) (wr.alloc (.cells #[.int .i64 1000, .string ⟨#[116, 104, 111, 117, 115, 97, 110, 100]⟩] 153)).drew := ⟨(hBk.drewN 1).cell 0, (hBk.drewN 1).cell 1⟩
      refine wp_region_held_drew (S := (fun wx => wx.cell? ⟨wr.heap.size, 0, none⟩ = some (.int .i64 1000) ∧ wx.cell? ⟨wr.heap.size, 1, none⟩ = some (.string ⟨#[116, 104, 111, 117, 115, 97, 110, 100]⟩))) (by kernel_rfl) hHd (fun hHeld => ?_)
      refine wpAnyH_take (i := 0) (v := .int .i64 (n : Int)) rfl (by kernel_rfl) (by kernel_rfl) (by kernel_rfl) (fun _ _ _ h => h) (Or.inl ⟨by kernel_rfl, by (intro w hSw; (try dsimp only at hSw); go_simp)⟩) hHeld ?_
      simp only [Act.put, List.getElem_toArray, List.getElem_cons_succ, List.getElem_cons_zero, List.setIfInBounds_toArray, List.set_cons_zero, List.set_cons_succ]
      refine wpAnyH_take (i := 1) (v := .pointer (some ⟨wr.heap.size, 0, none⟩)) rfl (by kernel_rfl) (by kernel_rfl) (by kernel_rfl) (fun _ _ _ h => h) (Or.inl ⟨by kernel_rfl, by (intro w hSw; (try dsimp only at hSw); go_simp)⟩) hHeld ?_
      simp only [Act.put, List.getElem_toArray, List.getElem_cons_succ, List.getElem_cons_zero, List.setIfInBounds_toArray, List.set_cons_zero, List.set_cons_succ]
      refine wpAnyH_take (i := 2) (v := .int .i64 1000) rfl (by kernel_rfl) (by kernel_rfl) (by kernel_rfl) (fun _ _ _ h => h) (Or.inl ⟨by kernel_rfl, by (intro w hSw; (try dsimp only at hSw); go_simp)⟩) hHeld ?_
      simp only [Act.put, List.getElem_toArray, List.getElem_cons_succ, List.getElem_cons_zero, List.setIfInBounds_toArray, List.set_cons_zero, List.set_cons_succ]
      refine wpAnyH_take (i := 3) (v := .pointer (some ⟨g, 0, none⟩)) rfl (by kernel_rfl) (by kernel_rfl) (by kernel_rfl) (fun _ _ _ h => h) (Or.inl ⟨by kernel_rfl, by (intro w hSw; (try dsimp only at hSw); go_simp)⟩) hHeld ?_
      simp only [Act.put, List.getElem_toArray, List.getElem_cons_succ, List.getElem_cons_zero, List.setIfInBounds_toArray, List.set_cons_zero, List.set_cons_succ]
      refine wpAnyH_take (i := 4) (v := .pointer (some ⟨wr.heap.size, 1, none⟩)) rfl (by kernel_rfl) (by kernel_rfl) (by kernel_rfl) (fun _ _ _ h => h) (Or.inl ⟨by kernel_rfl, by (intro w hSw; (try dsimp only at hSw); go_simp)⟩) hHeld ?_
      simp only [Act.put, List.getElem_toArray, List.getElem_cons_succ, List.getElem_cons_zero, List.setIfInBounds_toArray, List.set_cons_zero, List.set_cons_succ]
      refine wpAnyH_take (i := 5) (v := .string ⟨#[116, 104, 111, 117, 115, 97, 110, 100]⟩) rfl (by kernel_rfl) (by kernel_rfl) (by kernel_rfl) (fun _ _ _ h => h) (Or.inl ⟨by kernel_rfl, by (intro w hSw; (try dsimp only at hSw); go_simp)⟩) hHeld ?_
      simp only [Act.put, List.getElem_toArray, List.getElem_cons_succ, List.getElem_cons_zero, List.setIfInBounds_toArray, List.set_cons_zero, List.set_cons_succ]
      refine wpAnyH_take (i := 6) (v := .pointer (some ⟨g, 0, none⟩)) rfl (by kernel_rfl) (by kernel_rfl) (by kernel_rfl) (fun _ _ _ h => h) (Or.inl ⟨by kernel_rfl, by (intro w hSw; (try dsimp only at hSw); go_simp)⟩) hHeld ?_
      simp only [Act.put, List.getElem_toArray, List.getElem_cons_succ, List.getElem_cons_zero, List.setIfInBounds_toArray, List.set_cons_zero, List.set_cons_succ]
      refine wpAnyH_take (i := 7) (v := .func (.func 217) #[.pointer (some ⟨g, 0, none⟩)] #[]) rfl (by kernel_rfl) (by kernel_rfl) (by kernel_rfl) (fun _ _ _ h => h) (Or.inl ⟨by kernel_rfl, by (intro w hSw; (try dsimp only at hSw); go_simp)⟩) hHeld ?_
      simp only [Act.put, List.getElem_toArray, List.getElem_cons_succ, List.getElem_cons_zero, List.setIfInBounds_toArray, List.set_cons_zero, List.set_cons_succ]
      refine wpAnyH_ready (rs := [8]) (by kernel_rfl) (by simp) ?_
      refine AllReadyH.cons rfl (fun K hK => ?_) AllReadyH.nil
      go_simp
      refine (hc.out _ (hPa.drewN 1)).mono ?_
      rintro e w4 ⟨rfl, hP4, hU4⟩
      have hU5 := (hUa.drewN 1).trans hU4
      have hB5 := hU4.blk (hBk.drewN 1) (by omega)
      go_wp2_with fail
      refine hK.out _ _ ⟨hB5.cell 0, hB5.cell 1⟩ (fun hHeld => ?_)
      clear hK K
      try simp only [Act.put, List.getElem_toArray, List.getElem_cons_succ, List.getElem_cons_zero, List.setIfInBounds_toArray, List.set_cons_zero, List.set_cons_succ]
      have w1 : IntKind.i64.wrap (1000 * (y : Int)) = 1000 * (y : Int) := IntWalk.i64_in _ (by omega)
      have w2 : IntKind.i64.wrap ((n : Int) + 1000 * (y : Int)) = ((n + 1000 * y : Nat) : Int) := by rw [IntWalk.i64_in _ (by omega)]; omega
      refine wpAnyH_take (i := 9) (v := .int .i64 (1000 * (y : Int))) rfl (by kernel_rfl) (by kernel_rfl) (by kernel_rfl) (fun _ _ _ h => h) (Or.inl ⟨by kernel_rfl, by (intro w hSw; (try dsimp only at hSw); go_simp)⟩) hHeld ?_
      simp only [Act.put, List.getElem_toArray, List.getElem_cons_succ, List.getElem_cons_zero, List.setIfInBounds_toArray, List.set_cons_zero, List.set_cons_succ]
      refine wpAnyH_take (i := 10) (v := .int .i64 ((n + 1000 * y : Nat) : Int)) rfl (by kernel_rfl) (by kernel_rfl) (by kernel_rfl) (fun _ _ _ h => h) (Or.inl ⟨by kernel_rfl, by (intro w hSw; (try dsimp only at hSw); go_simp)⟩) hHeld ?_
      simp only [Act.put, List.getElem_toArray, List.getElem_cons_succ, List.getElem_cons_zero, List.setIfInBounds_toArray, List.set_cons_zero, List.set_cons_succ]
      refine wpAnyH_take (i := 11) (v := .int .i64 ((n + 1000 * y : Nat) : Int)) rfl (by kernel_rfl) (by kernel_rfl) (by kernel_rfl) (fun _ _ _ h => h) (Or.inl ⟨by kernel_rfl, by (intro w hSw; (try dsimp only at hSw); go_simp)⟩) hHeld ?_
      simp only [Act.put, List.getElem_toArray, List.getElem_cons_succ, List.getElem_cons_zero, List.setIfInBounds_toArray, List.set_cons_zero, List.set_cons_succ]
      refine wpAnyH_done (by kernel_rfl) ?_ _
      obtain ⟨z, hz⟩ : ∃ z, n + 1000 * y = z := ⟨_, rfl⟩
      have hz2 : z ≤ (2 + 1) * 1000000000000 := by omega
      rw [hz] at hs ⊢
      have hz := Lib.hid hz
      go_wp2
      go_roundw
      case rel => exact ⟨2 + 1, z, us, _, rfl, by go_num, rfl, by decide, hz2, hs.out, hP4, hU5⟩
      case measure => simp [intOf]
    · have hs := Lib.hid (show countF ws = lastF n vs by unfold countF; rw [hq.out]; rfl)
      have hc := Lib.hid (last_any n (by omega) g vs wr hP)
      go_wp2_with fail
      refine hc.out.mono ?_
      rintro e w4 ⟨rfl, hP4, hU4⟩
      go_wp2
      go_ret
      exact ⟨ret_nat (by rw [hs.out]), by rw [hs.out]; exact hP4, hU.trans hU4⟩
end Go.Proofs.YtpdfjlbfhnapkaaGreatDoor

/- A parser's other readers: zero too, signs, digits, years, cents. -/
namespace Go.Proofs.YtpdfjlbfhnapkaaGreatDoor
open Go.RowKit
set_option linter.unusedSimpArgs false

/-- a number that is not negative, and whether there is one -/
def wholeF (ws : List Str) : (Nat × Bool) × List Str := if tkB [122, 101, 114, 111] ws then ((0, true), tkR [122, 101, 114, 111] ws) else (((countF ws).1, decide (0 < (countF ws).1)), (countF ws).2)
theorem powF_le {ps : List (Nat × Str)} {n b : Nat} {ws : List Str} (hp : ∀ p ∈ ps, p.1 ≤ 1000000000) (hn : n ≤ b) : (powF ps n ws).1 ≤ b + ps.length * 999000000000 := by
  induction ps generalizing n b ws with
  | nil => show n ≤ _; omega
  | cons p ps ih =>
    have h1 := befF_le (F := groupF) (m := 999) (x := p.2) (ws := ws) (groupF_le ws)
    have h2 := hp p List.mem_cons_self
    have h3 : p.1 * (beforeF p.2 groupF ws).1 ≤ 1000000000 * 999 := Nat.mul_le_mul h2 h1
    have := ih (n := n + p.1 * (beforeF p.2 groupF ws).1) (b := b + 999000000000) (ws := (beforeF p.2 groupF ws).2) (fun q hq => hp q (List.mem_cons_of_mem _ hq)) (by omega)
    show (powF ps _ _).1 ≤ _
    rw [List.length_cons, Nat.add_mul]
    omega
theorem countF_le (ws : List Str) : (countF ws).1 ≤ 3000000000000 := by
  have h1 := powF_le (ps := powL) (n := 0) (b := 0) (ws := ws) (by decide) (Nat.le_refl _)
  have h2 := lastF_le (powF powL 0 ws).1 (powF powL 0 ws).2
  have h3 : powL.length = 3 := rfl
  unfold countF
  omega
set_option maxRecDepth 100000 in
set_option maxHeartbeats 1600000 in
theorem whole_any (g : Nat) (ws : List Str) (w : World) (h : PW w g ws) :
    Calls Tryz.prog 211 #[.pointer (some ⟨g, 0, none⟩)] w fun e w' => e = .returned (.tuple #[.int .i64 ((wholeF ws).1.1 : Nat), .bool (wholeF ws).1.2]) ∧ PW w' g (wholeF ws).2 ∧ Upto g w w' := by
  go_enter Tryz.func211, Tryz.ntmps211
  go_wp2_with fail
  refine (takeW g [122, 101, 114, 111] ws w h).mono ?_
  rintro e w2 ⟨rfl, hP, hU⟩
  cases htk : tkB [122, 101, 114, 111] ws with
  | true =>
    have hw := Lib.hid (show wholeF ws = ((0, true), tkR [122, 101, 114, 111] ws) by unfold wholeF; rw [htk]; rfl)
    clear htk
    go_wp2
    go_ret2
    exact ⟨by rw [hw.out]; rfl, by rw [hw.out]; exact hP, hU⟩
  | false =>
    have hr := Lib.hid (show tkR [122, 101, 114, 111] ws = ws by unfold tkR; rw [htk]; rfl)
    rw [hr.out] at hP
    have hw := Lib.hid (show wholeF ws = (((countF ws).1, decide (0 < (countF ws).1)), (countF ws).2) by unfold wholeF; rw [htk]; rfl)
    have hc := Lib.hid (count_any g ws w2 hP)
    clear htk
    generalize countF ws = r at *
    obtain ⟨x, vs⟩ := r
    go_wp2_with fail
    refine hc.out.mono ?_
    rintro e w3 ⟨rfl, hP3, hU3⟩
    have hU4 := hU.trans hU3
    by_cases hx : 0 < x
    · have h1 : (0 : Int) < (x : Int) := by omega
      have h2 : decide (0 < x) = true := decide_eq_true hx
      have h3 : decide ((0 : Int) < (x : Int)) = true := decide_eq_true h1
      rw [h2] at hw
      go_wp2
      go_ret2
      exact ⟨by rw [hw.out]; rfl, by rw [hw.out]; exact hP3, hU4⟩
    · obtain rfl : x = 0 := by omega
      have hw2 := Lib.hid (show wholeF ws = ((0, false), vs) from hw.out)
      go_wp2
      go_ret2
      exact ⟨by rw [hw2.out]; rfl, by rw [hw2.out]; exact hP3, hU4⟩

def signF (ws : List Str) : Str × List Str := if tkB [109, 105, 110, 117, 115] ws then ([45], tkR [109, 105, 110, 117, 115] ws) else ([], ws)
/-- a reader returned a string, and left words -/
def RetSP (g : Nat) (r : Str × List Str) (w : World) (e : Ending) (w' : World) : Prop := e = .returned (.string ⟨r.1.toArray⟩) ∧ PW w' g r.2 ∧ Upto g w w'
set_option maxRecDepth 100000 in
theorem sign_any (g : Nat) (ws : List Str) (w : World) (h : PW w g ws) :
    Calls Tryz.prog 210 #[.pointer (some ⟨g, 0, none⟩)] w (RetSP g (signF ws) w) := by
  go_enter Tryz.func210, Tryz.ntmps210
  go_wp2_with fail
  refine (takeW g [109, 105, 110, 117, 115] ws w h).mono ?_
  rintro e w2 ⟨rfl, hP, hU⟩
  cases htk : tkB [109, 105, 110, 117, 115] ws with
  | true =>
    have hw := Lib.hid (show signF ws = ([45], tkR [109, 105, 110, 117, 115] ws) by unfold signF; rw [htk]; rfl)
    clear htk
    go_wp2
    go_ret
    exact ⟨by rw [hw.out]; rfl, by rw [hw.out]; exact hP, hU⟩
  | false =>
    have hr := Lib.hid (show tkR [109, 105, 110, 117, 115] ws = ws by unfold tkR; rw [htk]; rfl)
    rw [hr.out] at hP
    have hw := Lib.hid (show signF ws = ([], ws) by unfold signF; rw [htk]; rfl)
    clear htk
    go_wp2
    go_ret
    exact ⟨by rw [hw.out]; rfl, by rw [hw.out]; exact hP, hU⟩

/-- the last two of four digits, which are not both 0 -/
def pairF (ws : List Str) : Nat × List Str :=
  if 0 < (afterF [111, 104] unitF ws).1 then afterF [111, 104] unitF ws
  else if 9 < (belowF (afterF [111, 104] unitF ws).2).1 then belowF (afterF [111, 104] unitF ws).2 else (0, (belowF (afterF [111, 104] unitF ws).2).2)
theorem pairF_le (ws : List Str) : (pairF ws).1 ≤ 99 := by
  have h1 := aftF_le (F := unitF) (m := 9) (x := [111, 104]) (ws := ws) (unitF_le _)
  have h2 := belowF_le (afterF [111, 104] unitF ws).2
  unfold pairF
  split
  · omega
  · split
    · exact h2
    · exact Nat.zero_le _
set_option maxRecDepth 100000 in
set_option maxHeartbeats 1600000 in
theorem readPair_any (g : Nat) (ws : List Str) (w : World) (h : PW w g ws) :
    Calls Tryz.prog 247 #[.pointer (some ⟨g, 0, none⟩)] w (RetP g (pairF ws) w) := by
  have hmf : ∀ (fn : Fn) (first cap : Array Value) (w : World), (Instr.makeFunc fn first cap).run Tryz.prog w = .ok (.func fn first cap) w := fun _ _ _ _ => rfl
  have hc := Lib.hid (after_any 176 unitF (fun g ws w h => unit_any g ws w h) (fun _ _ => rfl) [111, 104] g ws w h)
  have hL := Lib.hid (show pairF ws = if 0 < (afterF [111, 104] unitF ws).1 then afterF [111, 104] unitF ws
  else if 9 < (belowF (afterF [111, 104] unitF ws).2).1 then belowF (afterF [111, 104] unitF ws).2 else (0, (belowF (afterF [111, 104] unitF ws).2).2) from rfl)
  generalize afterF [111, 104] unitF ws = r at *
  obtain ⟨y, vs⟩ := r
  go_enter Tryz.func247, Tryz.ntmps247
  go_wp2_with fail
  refine hc.out.mono ?_
  rintro e w2 ⟨rfl, hP, hU⟩
  by_cases hy : 0 < y
  · have h1 : (0 : Int) < (y : Int) := by omega
    have hL2 := Lib.hid (show pairF ws = (y, vs) by rw [hL.out, if_pos hy])
    go_wp2
    go_ret
    exact ⟨ret_nat (by rw [hL2.out]), by rw [hL2.out]; exact hP, hU⟩
  · have h1 : ¬ (0 : Int) < (y : Int) := by omega
    have h2 : decide ((0 : Int) < (y : Int)) = false := decide_eq_false h1
    have hL2 := Lib.hid (show pairF ws = if 9 < (belowF vs).1 then belowF vs else (0, (belowF vs).2) by rw [hL.out, if_neg hy])
    have hb := Lib.hid (below_any g vs w2 hP)
    generalize belowF vs = r at *
    obtain ⟨z, us⟩ := r
    go_wp2_with fail
    refine hb.out.mono ?_
    rintro e w3 ⟨rfl, hP3, hU3⟩
    have hU4 := hU.trans hU3
    by_cases hz : 9 < z
    · have h3 : (9 : Int) < (z : Int) := by omega
      have hL3 := Lib.hid (show pairF ws = (z, us) by rw [hL2.out, if_pos hz])
      go_wp2
      go_ret
      exact ⟨ret_nat (by rw [hL3.out]), by rw [hL3.out]; exact hP3, hU4⟩
    · have h3 : ¬ (9 : Int) < (z : Int) := by omega
      have h4 : decide ((9 : Int) < (z : Int)) = false := decide_eq_false h3
      have hL3 := Lib.hid (show pairF ws = (0, us) by rw [hL2.out, if_neg hz])
      go_wp2
      go_ret
      exact ⟨ret_int (by rw [hL3.out]; rfl), by rw [hL3.out]; exact hP3, hU4⟩

/-- the word of so many things -/
def countedN (n : Nat) (x : Str) : Str := if n = 1 then x else x ++ [115]
theorem ret_bs {a b : ByteArray} (h : a.data.toList = b.data.toList) : Ending.returned (.string a) = .returned (.string b) := by
  have : a = b := by
    cases a; cases b; congr 1; exact Array.ext' h
  rw [this]
theorem counted_any (n : Nat) (x : Str) (w : World) (hx : x.length ≤ 1000000) : Calls Tryz.prog 260 #[.int .i64 (n : Int), .string ⟨x.toArray⟩] w fun e w' => e = .returned (.string ⟨(countedN n x).toArray⟩) ∧ w = w' := by
  by_cases hn : n = 1
  · have h1 : ((n : Int) == 1) = true := by rw [hn]; rfl
    have h2 := Lib.hid (show countedN n x = x from if_pos hn)
    clear hn
    go_enter Tryz.func260, Tryz.ntmps260
    go_wp2
    go_ret
    exact ⟨by rw [h2.out]; rfl, rfl⟩
  · have h1 : ((n : Int) == 1) = false := by rw [beq_eq_false_iff_ne]; omega
    have h2 := Lib.hid (show countedN n x = x ++ [115] from if_neg hn)
    go_enter Tryz.func260, Tryz.ntmps260
    go_wp2
    go_ret
    exact ⟨ret_bs (by rw [h2.out]; simp), rfl⟩
theorem isRound_any (n : Nat) (w : World) : Calls Tryz.prog 253 #[.int .i64 (n : Int)] w fun e w' => e = .returned (.bool (decide (n % 1000 < 10))) ∧ w = w' := by
  obtain ⟨m, hm⟩ : ∃ m, n % 1000 = m := ⟨_, rfl⟩
  have hmi : (n : Int) % 1000 = (m : Int) := by omega
  have hmt : (n : Int).tmod 1000 = (m : Int) := by rw [Int.tmod_eq_emod_of_nonneg (by omega)]; exact hmi
  rw [hm]
  clear hm
  by_cases h : m < 10
  · have h1 : (m : Int) < 10 := by omega
    have h2 : decide (m < 10) = true := decide_eq_true h
    go_enter Tryz.func253, Tryz.ntmps253
    go_wp2
    go_ret
    exact ⟨by first | rfl | exact ret_bool h2.symm, rfl⟩
  · have h1 : ¬ (m : Int) < 10 := by omega
    have h2 : decide (m < 10) = false := decide_eq_false h
    have h3 : decide ((m : Int) < 10) = false := decide_eq_false h1
    go_enter Tryz.func253, Tryz.ntmps253
    go_wp2
    go_ret
    exact ⟨by first | rfl | exact ret_bool h2.symm, rfl⟩

/-- so many cents -/
def centsF (ws : List Str) : Nat × List Str := if tkB (countedN (belowF ws).1 [99, 101, 110, 116]) (belowF ws).2 then ((belowF ws).1, tkR (countedN (belowF ws).1 [99, 101, 110, 116]) (belowF ws).2) else (0, (belowF ws).2)
set_option maxRecDepth 100000 in
set_option maxHeartbeats 1600000 in
theorem cents_any (g : Nat) (ws : List Str) (w : World) (h : PW w g ws) :
    Calls Tryz.prog 259 #[.pointer (some ⟨g, 0, none⟩)] w (RetP g (centsF ws) w) := by
  have hc := Lib.hid (below_any g ws w h)
  have hL := Lib.hid (show centsF ws = if tkB (countedN (belowF ws).1 [99, 101, 110, 116]) (belowF ws).2 then ((belowF ws).1, tkR (countedN (belowF ws).1 [99, 101, 110, 116]) (belowF ws).2) else (0, (belowF ws).2) from rfl)
  generalize belowF ws = r at *
  obtain ⟨y, vs⟩ := r
  simp only at hL
  have hq := Lib.hid (fun w => counted_any y [99, 101, 110, 116] w (by decide))
  generalize countedN y [99, 101, 110, 116] = X at *
  go_enter Tryz.func259, Tryz.ntmps259
  go_wp2_with fail
  refine hc.out.mono ?_
  rintro e w2 ⟨rfl, hP, hU⟩
  go_wp2_with fail
  refine (hq.out w2).mono ?_
  rintro e w' ⟨rfl, rfl⟩
  go_wp2_with fail
  refine (takeW g X vs w2 hP).mono ?_
  rintro e w3 ⟨rfl, hP3, hU3⟩
  have hU4 := hU.trans hU3
  cases htk : tkB X vs with
  | true =>
    have hw := Lib.hid (show centsF ws = (y, tkR X vs) by rw [hL.out, htk]; rfl)
    clear htk
    go_wp2
    go_ret
    exact ⟨ret_nat (by rw [hw.out]), by rw [hw.out]; exact hP3, hU4⟩
  | false =>
    have hr := Lib.hid (show tkR X vs = vs by unfold tkR; rw [htk]; rfl)
    rw [hr.out] at hP3
    have hw := Lib.hid (show centsF ws = (0, vs) by rw [hL.out, htk]; rfl)
    clear htk
    go_wp2
    go_ret
    exact ⟨ret_int (by rw [hw.out]; rfl), by rw [hw.out]; exact hP3, hU4⟩

def roundYearF (ws : List Str) : Nat × List Str := if (countF ws).1 % 1000 < 10 then countF ws else (0, (countF ws).2)
set_option maxRecDepth 100000 in
set_option maxHeartbeats 1600000 in
theorem roundYear_any (g : Nat) (ws : List Str) (w : World) (h : PW w g ws) :
    Calls Tryz.prog 254 #[.pointer (some ⟨g, 0, none⟩)] w (RetP g (roundYearF ws) w) := by
  have hc := Lib.hid (count_any g ws w h)
  have hL := Lib.hid (show roundYearF ws = if (countF ws).1 % 1000 < 10 then countF ws else (0, (countF ws).2) from rfl)
  generalize countF ws = r at *
  obtain ⟨y, vs⟩ := r
  simp only at hL
  go_enter Tryz.func254, Tryz.ntmps254
  go_wp2_with fail
  refine hc.out.mono ?_
  rintro e w2 ⟨rfl, hP, hU⟩
  go_wp2_with fail
  refine (isRound_any y w2).mono ?_
  rintro e w' ⟨rfl, rfl⟩
  by_cases hy : y % 1000 < 10
  · have h1 : decide (y % 1000 < 10) = true := decide_eq_true hy
    rw [h1]
    have hw := Lib.hid (show roundYearF ws = (y, vs) by rw [hL.out, if_pos hy])
    go_wp2
    go_ret
    exact ⟨ret_nat (by rw [hw.out]), by rw [hw.out]; exact hP, hU⟩
  · have h1 : decide (y % 1000 < 10) = false := decide_eq_false hy
    rw [h1]
    have hw := Lib.hid (show roundYearF ws = (0, vs) by rw [hL.out, if_neg hy])
    go_wp2
    go_ret
    exact ⟨ret_int (by rw [hw.out]; rfl), by rw [hw.out]; exact hP, hU⟩
end Go.Proofs.YtpdfjlbfhnapkaaGreatDoor
