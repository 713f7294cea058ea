/- What a parser of numbers takes: its closures, and the numbers below a thousand. -/
import Derived.Test.YtpdfjlbfhnapkaaGreatDoorVMem
import Derived.Deep.LoopGhost
import Derived.WalkMore
namespace Go.Proofs.YtpdfjlbfhnapkaaGreatDoor
open Go.RowKit

/-- the first of k names from n on that is the next word -/
def oneF (nm : Nat → Str) : Nat → Nat → List Str → Nat × List Str
  | _, 0, ws => (0, ws)
  | n, k + 1, ws => if tkB (nm n) ws then (n, ws.tail) else oneF nm (n + 1) k ws
def unitF (ws : List Str) : Nat × List Str := oneF smallN 1 9 ws
def monthF (ws : List Str) : Nat × List Str := oneF monthN 1 12 ws
def belowF (ws : List Str) : Nat × List Str :=
  if (oneF tensN 2 8 ws).1 = 0 then oneF smallN 1 19 (oneF tensN 2 8 ws).2 else (10 * (oneF tensN 2 8 ws).1 + (unitF (oneF tensN 2 8 ws).2).1, (unitF (oneF tensN 2 8 ws).2).2)
/-- what a reader takes, or no word -/
def attF (F : List Str → Nat × List Str) (ws : List Str) : Nat × List Str := if (F ws).1 = 0 then (0, ws) else F ws
def befF (x : Str) (F : List Str → Nat × List Str) (ws : List Str) : Nat × List Str := if tkB x (F ws).2 then ((F ws).1, tkR x (F ws).2) else (0, (F ws).2)
def aftF (x : Str) (F : List Str → Nat × List Str) (ws : List Str) : Nat × List Str := if tkB x ws then F (tkR x ws) else (0, ws)
def beforeF (x : Str) (F : List Str → Nat × List Str) : List Str → Nat × List Str := attF (befF x F)
def afterF (x : Str) (F : List Str → Nat × List Str) : List Str → Nat × List Str := attF (aftF x F)

theorem oneF_le {nm : Nat → Str} {n k : Nat} {ws : List Str} : (oneF nm n k ws).1 < n + k ∨ (oneF nm n k ws).1 = 0 := by
  induction k generalizing n with
  | zero => exact .inr rfl
  | succ k ih =>
    unfold oneF
    split
    · exact .inl (by show n < _; omega)
    · have := ih (n := n + 1)
      omega
theorem unitF_le (ws : List Str) : (unitF ws).1 ≤ 9 := by
  have := oneF_le (nm := smallN) (n := 1) (k := 9) (ws := ws)
  unfold unitF; omega
theorem belowF_le (ws : List Str) : (belowF ws).1 ≤ 99 := by
  unfold belowF
  split
  · have := oneF_le (nm := smallN) (n := 1) (k := 19) (ws := (oneF tensN 2 8 ws).2)
    omega
  · have h1 := oneF_le (nm := tensN) (n := 2) (k := 8) (ws := ws)
    have h2 := unitF_le (oneF tensN 2 8 ws).2
    show 10 * _ + _ ≤ _
    omega
theorem attF_le {F : List Str → Nat × List Str} {m : Nat} {ws : List Str} (h : (F ws).1 ≤ m) : (attF F ws).1 ≤ m := by
  unfold attF; split
  · exact Nat.zero_le _
  · exact h
theorem befF_le {F : List Str → Nat × List Str} {m : Nat} {x : Str} {ws : List Str} (h : (F ws).1 ≤ m) : (beforeF x F ws).1 ≤ m := attF_le (by
  unfold befF; split
  · exact h
  · exact Nat.zero_le _)
theorem aftF_le {F : List Str → Nat × List Str} {m : Nat} {x : Str} {ws : List Str} (h : (F (tkR x ws)).1 ≤ m) : (afterF x F ws).1 ≤ m := attF_le (by
  unfold aftF; split
  · exact h
  · exact Nat.zero_le _)

/-- a reader returned a number, and left words -/
def RetP (g : Nat) (r : Nat × List Str) (w : World) (e : Ending) (w' : World) : Prop := e = .returned (.int .i64 ((r.1 : Nat) : Int)) ∧ PW w' g r.2 ∧ Upto g w w'
theorem ret_nat {a b : Nat} (h : a = b) : Ending.returned (.int .i64 (a : Int)) = .returned (.int .i64 (b : Int)) := by rw [h]

set_option maxHeartbeats 1600000 in
theorem one_any (fid : Nat) (nm : Nat → Str) (lo k hi : Nat) (hhi : lo + k = hi + 1) (hn0 : Nm fid nm lo hi) (hcf : ∀ (a : Array Value) (w : World), (callFunc fid a).run Tryz.prog w = .ok (.enter fid a) w) (hlk : hi ≤ 1000) (g : Nat) (ws : List Str) (w : World) (h : PW w g ws) :
    Calls Tryz.prog 148 #[.pointer (some ⟨g, 0, none⟩), .func (.func fid) #[] #[], .int .i64 (lo : Int), .int .i64 (hi : Int)] w (RetP g (oneF nm lo k ws) w) := by
  have hn := Lib.hid hn0
  clear hn0
  go_enter Tryz.func148, Tryz.ntmps148
  go_wp2
  go_loopw [9] (fun iv wr => ∃ j : Nat, iv = .int .i64 ((lo + j : Nat) : Int) ∧ j ≤ k ∧ Hid (oneF nm lo k ws = oneF nm (lo + j) (k - j) ws) ∧ PW wr g ws ∧ Upto g w wr) (fun iv _ => hi + 1 - (intOf iv).toNat)
  case atStart => exact ⟨0, rfl, Nat.zero_le _, rfl, h, Upto.refl _ _⟩
  case round =>
    obtain ⟨j, rfl, hj, hq, hP, hU⟩ := hrel
    obtain ⟨m, hm⟩ : ∃ m, lo + j = m := ⟨_, rfl⟩
    rw [hm] at hq ⊢
    rcases Nat.lt_or_ge j k with hlt | hge
    · have h1 : (m : Int) ≤ (hi : Int) := by omega
      have h2 : m ≤ hi := by omega
      have hx := Lib.hid (hn.out m (by omega) h2)
      have hs := Lib.hid (show oneF nm m (k - j) ws = if tkB (nm m) ws then (m, ws.tail) else oneF nm (m + 1) (k - j - 1) ws by rw [show k - j = (k - j - 1) + 1 by omega]; rfl)
      generalize hxx : nm m = x at *
      go_wp2_with fail
      refine (hx.out _ hP.2.1).mono ?_
      rintro e w' ⟨rfl, rfl⟩
      go_wp2_with fail
      refine (takeW _ _ _ _ hP).mono ?_
      rintro e w2 ⟨rfl, hP2, hU2⟩
      have hU3 := hU.trans hU2
      cases htk : tkB x ws with
      | true =>
        have hr := Lib.hid (show tkR x ws = ws.tail by unfold tkR; rw [if_pos htk])
        rw [hr.out] at hP2
        have hq2 := Lib.hid (show oneF nm lo k ws = (m, ws.tail) by rw [hq.out, hs.out, if_pos htk])
        clear htk
        go_wp2
        go_ret
        exact ⟨ret_nat (by rw [hq2.out]), by rw [hq2.out]; exact hP2, hU3⟩
      | false =>
        have hr := Lib.hid (show tkR x ws = ws by unfold tkR; rw [htk]; rfl)
        rw [hr.out] at hP2
        have hq2 := Lib.hid (show oneF nm lo k ws = oneF nm (m + 1) (k - j - 1) ws by rw [hq.out, hs.out, htk]; rfl)
        clear htk
        go_wp2
        go_roundw
        case rel => exact ⟨j + 1, by go_num, by omega, by rw [hq2.out, show lo + (j + 1) = m + 1 by omega, show k - (j + 1) = k - j - 1 by omega]; rfl, hP2, hU3⟩
        case measure => simp [intOf]; omega
    · have h1 : ¬ (m : Int) ≤ (hi : Int) := by omega
      have h2 : decide ((m : Int) ≤ (hi : Int)) = false := decide_eq_false h1
      have h3 : ¬ m ≤ hi := by omega
      have hq2 := Lib.hid (show oneF nm lo k ws = (0, ws) by rw [hq.out, show k - j = 0 by omega]; rfl)
      go_wp2
      go_ret
      exact ⟨ret_int (by rw [hq2.out]; rfl), by rw [hq2.out]; exact hP, hU⟩

set_option maxRecDepth 100000 in
theorem unit_any (g : Nat) (ws : List Str) (w : World) (h : PW w g ws) :
    Calls Tryz.prog 176 #[.pointer (some ⟨g, 0, none⟩)] w (RetP g (unitF ws) w) := by
  have hc := Lib.hid (one_any 177 smallN 1 9 9 rfl (fun n _ h2 => small_any n (by omega) (by omega)) (fun _ _ => rfl) (by decide) g ws w h)
  go_enter Tryz.func176, Tryz.ntmps176
  go_wp2_with fail
  refine hc.out.mono ?_
  rintro e w2 ⟨rfl, hP, hU⟩
  go_wp2
  go_ret
  exact ⟨rfl, hP, hU⟩
set_option maxRecDepth 100000 in
theorem month_read (g : Nat) (ws : List Str) (w : World) (h : PW w g ws) :
    Calls Tryz.prog 128 #[.pointer (some ⟨g, 0, none⟩)] w (RetP g (monthF ws) w) := by
  have hc := Lib.hid (one_any 149 monthN 1 12 12 rfl month_any (fun _ _ => rfl) (by decide) g ws w h)
  go_enter Tryz.func128, Tryz.ntmps128
  go_wp2_with fail
  refine hc.out.mono ?_
  rintro e w2 ⟨rfl, hP, hU⟩
  go_wp2
  go_ret
  exact ⟨rfl, hP, hU⟩
set_option maxRecDepth 100000 in
set_option maxHeartbeats 1600000 in
theorem below_any (g : Nat) (ws : List Str) (w : World) (h : PW w g ws) :
    Calls Tryz.prog 150 #[.pointer (some ⟨g, 0, none⟩)] w (RetP g (belowF ws) w) := by
  have hc := Lib.hid (one_any 175 tensN 2 8 9 rfl tens_any (fun _ _ => rfl) (by decide) g ws w h)
  have hle := oneF_le (nm := tensN) (n := 2) (k := 8) (ws := ws)
  have hb := Lib.hid (show belowF ws = if (oneF tensN 2 8 ws).1 = 0 then oneF smallN 1 19 (oneF tensN 2 8 ws).2 else (10 * (oneF tensN 2 8 ws).1 + (unitF (oneF tensN 2 8 ws).2).1, (unitF (oneF tensN 2 8 ws).2).2) from rfl)
  generalize hr : oneF tensN 2 8 ws = r at *
  obtain ⟨x, vs⟩ := r
  simp only at hle
  have hu := unitF_le vs
  go_enter Tryz.func150, Tryz.ntmps150
  go_wp2_with fail
  refine hc.out.mono ?_
  rintro e w2 ⟨rfl, hP, hU⟩
  clear hr
  by_cases hx : x = 0
  · subst hx
    have hb2 := Lib.hid (show belowF ws = oneF smallN 1 19 vs by rw [hb.out, if_pos rfl])
    have hc2 := Lib.hid (one_any 177 smallN 1 19 19 rfl (fun n _ h2 => small_any n (by omega) (by omega)) (fun _ _ => rfl) (by decide) g vs w2 hP)
    go_wp2_with fail
    refine hc2.out.mono ?_
    rintro e w3 ⟨rfl, hP3, hU3⟩
    go_wp2
    go_ret
    exact ⟨ret_nat (by rw [hb2.out]), by rw [hb2.out]; exact hP3, hU.trans hU3⟩
  · have hb2 := Lib.hid (show belowF ws = (10 * x + (unitF vs).1, (unitF vs).2) by rw [hb.out, if_neg hx])
    have hx1 : 0 < x := by omega
    have hx2 : (0 : Int) < (x : Int) := by omega
    generalize hur : unitF vs = r2 at *
    obtain ⟨y, us⟩ := r2
    simp only at hu
    have hc2 := Lib.hid (unit_any g vs w2 hP)
    rw [hur] at hc2
    clear hur
    go_wp2_with fail
    refine hc2.out.mono ?_
    rintro e w3 ⟨rfl, hP3, hU3⟩
    have w1 : IntKind.i64.wrap (10 * (x : Int)) = 10 * (x : Int) := IntWalk.i64_in _ (by omega)
    have w4 : IntKind.i64.wrap (10 * (x : Int) + (y : Int)) = ((10 * x + y : Nat) : Int) := by rw [IntWalk.i64_in _ (by omega)]; omega
    generalize 10 * x + y = z at *
    go_wp2
    go_ret
    exact ⟨ret_nat (by rw [hb2.out]), by rw [hb2.out]; exact hP3, hU.trans hU3⟩
end Go.Proofs.YtpdfjlbfhnapkaaGreatDoor

/- A reader that takes a number or no word: attempt, before, after. -/
namespace Go.Proofs.YtpdfjlbfhnapkaaGreatDoor
open Go.RowKit

/-- a method that reads a number -/
def RdM (fid : Nat) (F : List Str → Nat × List Str) : Prop := ∀ (g : Nat) (ws : List Str) (w : World), PW w g ws → Calls Tryz.prog fid #[.pointer (some ⟨g, 0, none⟩)] w (RetP g (F ws) w)

theorem Pz.slice {w : World} {g : Nat} {ws : List Str} (h : Pz w g ws) : ∃ A n c, Blk w g 107 #[.slice A n c] ∧ Ss w A n c ws ∧ ∀ ad, A = some ad → ad.block ≠ g := h

set_option maxRecDepth 100000 in
set_option maxHeartbeats 1600000 in
theorem attempt_c (fid : Nat) (v1 v2 v3 : Value) (F : List Str → Nat × List Str) (hcf : ∀ (a : Array Value) (w : World), (callFunc fid a).run Tryz.prog w = .ok (.enter fid a) w) (g : Nat) (ws : List Str) (w : World) (h : PW w g ws)
    (hR0 : Calls Tryz.prog fid #[v1, v2, v3] w (RetP g (F ws) w)) :
    Calls Tryz.prog 219 #[.pointer (some ⟨g, 0, none⟩), .func (.func fid) #[] #[v1, v2, v3]] w (RetP g (attF F ws) w) := by
  have hR := Lib.hid hR0
  clear hR0
  obtain ⟨A, n, c, hB, hS, hne⟩ := h.1
  have k0 : w.cell? ⟨g, 0, none⟩ = some (.slice A n c) := hB.cell 0
  have ha := Lib.hid (show attF F ws = if (F ws).1 = 0 then (0, ws) else F ws from rfl)
  generalize F ws = r at *
  obtain ⟨x, vs⟩ := r
  go_enter Tryz.func219, Tryz.ntmps219
  go_wp2_with fail
  refine hR.out.mono ?_
  rintro e w2 ⟨rfl, hP, hU⟩
  obtain ⟨A2, n2, c2, hB2, hS2, hne2⟩ := hP.1
  have f0 := hB2.frozen 0
  have k2 : w2.cell? ⟨g, 0, none⟩ = some (.slice A2 n2 c2) := hB2.cell 0
  by_cases hx : x = 0
  · subst hx
    have ha2 := Lib.hid (show attF F ws = (0, ws) by rw [ha.out, if_pos rfl])
    have hP3 := Lib.hid (show PW (w2.setCell ⟨g, 0, none⟩ (.slice A n c)) g ws from ⟨⟨A, n, c, hB2.set_ 0 _, (hU.set_ 0 _).ss hS hne, hne⟩, hP.2.1.upto hP.2.2 ((Upto.refl g w2).set_ 0 _), hP.2.2⟩)
    have hU3 := Lib.hid (hU.set_ 0 (.slice A n c))
    go_wp2
    go_ret
    exact ⟨ret_nat (b := (attF F ws).1) (by rw [ha2.out]), by rw [ha2.out]; exact hP3.out, hU3.out⟩
  · have ha2 := Lib.hid (show attF F ws = (x, vs) by rw [ha.out, if_neg hx])
    have hx2 : ((x : Int) == 0) = false := by rw [beq_eq_false_iff_ne]; omega
    go_wp2
    go_ret
    exact ⟨ret_nat (by rw [ha2.out]), by rw [ha2.out]; exact hP, hU⟩

set_option maxRecDepth 100000 in
set_option maxHeartbeats 1600000 in
theorem attempt_m (fid : Nat) (F : List Str → Nat × List Str) (hcf : ∀ (a : Array Value) (w : World), (callFunc fid a).run Tryz.prog w = .ok (.enter fid a) w) (g : Nat) (ws : List Str) (w : World) (h : PW w g ws)
    (hR0 : Calls Tryz.prog fid #[.pointer (some ⟨g, 0, none⟩)] w (RetP g (F ws) w)) :
    Calls Tryz.prog 219 #[.pointer (some ⟨g, 0, none⟩), .func (.func fid) #[.pointer (some ⟨g, 0, none⟩)] #[]] w (RetP g (attF F ws) w) := by
  have hR := Lib.hid hR0
  clear hR0
  obtain ⟨A, n, c, hB, hS, hne⟩ := h.1
  have k0 : w.cell? ⟨g, 0, none⟩ = some (.slice A n c) := hB.cell 0
  have ha := Lib.hid (show attF F ws = if (F ws).1 = 0 then (0, ws) else F ws from rfl)
  generalize F ws = r at *
  obtain ⟨x, vs⟩ := r
  go_enter Tryz.func219, Tryz.ntmps219
  go_wp2_with fail
  refine hR.out.mono ?_
  rintro e w2 ⟨rfl, hP, hU⟩
  obtain ⟨A2, n2, c2, hB2, hS2, hne2⟩ := hP.1
  have f0 := hB2.frozen 0
  have k2 : w2.cell? ⟨g, 0, none⟩ = some (.slice A2 n2 c2) := hB2.cell 0
  by_cases hx : x = 0
  · subst hx
    have ha2 := Lib.hid (show attF F ws = (0, ws) by rw [ha.out, if_pos rfl])
    have hP3 := Lib.hid (show PW (w2.setCell ⟨g, 0, none⟩ (.slice A n c)) g ws from ⟨⟨A, n, c, hB2.set_ 0 _, (hU.set_ 0 _).ss hS hne, hne⟩, hP.2.1.upto hP.2.2 ((Upto.refl g w2).set_ 0 _), hP.2.2⟩)
    have hU3 := Lib.hid (hU.set_ 0 (.slice A n c))
    go_wp2
    go_ret
    exact ⟨ret_nat (b := (attF F ws).1) (by rw [ha2.out]), by rw [ha2.out]; exact hP3.out, hU3.out⟩
  · have ha2 := Lib.hid (show attF F ws = (x, vs) by rw [ha.out, if_neg hx])
    have hx2 : ((x : Int) == 0) = false := by rw [beq_eq_false_iff_ne]; omega
    go_wp2
    go_ret
    exact ⟨ret_nat (by rw [ha2.out]), by rw [ha2.out]; exact hP, hU⟩

set_option maxRecDepth 100000 in
set_option maxHeartbeats 1600000 in
theorem before1_any (fid : Nat) (F : List Str → Nat × List Str) (hF0 : RdM fid F) (hcf : ∀ (a : Array Value) (w : World), (callFunc fid a).run Tryz.prog w = .ok (.enter fid a) w) (x : Str) (g b1 b2 b3 : Nat) (ws : List Str) (w : World) (h : PW w g ws)
    (k1 : w.cell? ⟨b1, 0, none⟩ = some (.pointer (some ⟨g, 0, none⟩))) (k2 : w.cell? ⟨b2, 0, none⟩ = some (.string ⟨x.toArray⟩)) (k3 : w.cell? ⟨b3, 0, none⟩ = some (.func (.func fid) #[.pointer (some ⟨g, 0, none⟩)] #[])) (n1 : b1 ≠ g) (n2 : b2 ≠ g) :
    Calls Tryz.prog 220 #[.pointer (some ⟨b3, 0, none⟩), .pointer (some ⟨b1, 0, none⟩), .pointer (some ⟨b2, 0, none⟩)] w (RetP g (befF x F ws) w) := by
  have hF := Lib.hid hF0
  clear hF0
  have hb := Lib.hid (show befF x F ws = if tkB x (F ws).2 then ((F ws).1, tkR x (F ws).2) else (0, (F ws).2) from rfl)
  have hR := Lib.hid (hF.out g ws w h)
  generalize F ws = r at *
  obtain ⟨y, vs⟩ := r
  go_enter Tryz.func220, Tryz.ntmps220
  go_wp2_with fail
  refine hR.out.mono ?_
  rintro e w2 ⟨rfl, hP, hU⟩
  have k1 := hU.cell k1 n1
  have k2 := hU.cell k2 n2
  go_wp2_with fail
  refine (takeW _ _ _ _ hP).mono ?_
  rintro e w3 ⟨rfl, hP3, hU3⟩
  have hU4 := hU.trans hU3
  cases htk : tkB x vs with
  | true =>
    have hb2 := Lib.hid (show befF x F ws = (y, tkR x vs) by rw [hb.out, htk]; rfl)
    clear htk
    go_wp2
    go_ret
    exact ⟨ret_nat (by rw [hb2.out]), by rw [hb2.out]; exact hP3, hU4⟩
  | false =>
    have hr := Lib.hid (show tkR x vs = vs by unfold tkR; rw [htk]; rfl)
    rw [hr.out] at hP3
    have hb2 := Lib.hid (show befF x F ws = (0, vs) by rw [hb.out, htk]; rfl)
    clear htk
    go_wp2
    go_ret
    exact ⟨ret_int (by rw [hb2.out]; rfl), by rw [hb2.out]; exact hP3, hU4⟩

set_option maxRecDepth 100000 in
set_option maxHeartbeats 1600000 in
theorem before_any (fid : Nat) (F : List Str → Nat × List Str) (hF0 : RdM fid F) (hcf : ∀ (a : Array Value) (w : World), (callFunc fid a).run Tryz.prog w = .ok (.enter fid a) w) (x : Str) (g : Nat) (ws : List Str) (w : World) (h : PW w g ws) :
    Calls Tryz.prog 216 #[.pointer (some ⟨g, 0, none⟩), .string ⟨x.toArray⟩, .func (.func fid) #[.pointer (some ⟨g, 0, none⟩)] #[]] w (RetP g (beforeF x F ws) w) := by
  have hF := Lib.hid hF0
  clear hF0
  have hmf : ∀ (fn : Fn) (first cap : Array Value) (w : World), (Instr.makeFunc fn first cap).run Tryz.prog w = .ok (.func fn first cap) w := fun _ _ _ _ => rfl
  have hgl := h.lt
  have hb3 := (((Upto.refl g w).alloc (.cells #[.pointer (some ⟨g, 0, none⟩)] 105)).alloc (.cells #[.string ⟨x.toArray⟩] 9)).alloc (.cells #[.func (.func fid) #[.pointer (some ⟨g, 0, none⟩)] #[]] 131)
  have hP := ((h.alloc (.cells #[.pointer (some ⟨g, 0, none⟩)] 105)).alloc (.cells #[.string ⟨x.toArray⟩] 9)).alloc (.cells #[.func (.func fid) #[.pointer (some ⟨g, 0, none⟩)] #[]] 131)
  have e1 : (w.alloc (.cells #[.pointer (some ⟨g, 0, none⟩)] 105)).heap.size = w.heap.size + 1 := World.size_alloc _ _
  have e2 : ((w.alloc (.cells #[.pointer (some ⟨g, 0, none⟩)] 105)).alloc (.cells #[.string ⟨x.toArray⟩] 9)).heap.size = w.heap.size + 1 + 1 := by rw [World.size_alloc, World.size_alloc]
  have B1 := ((Blk.new w 105 #[.pointer (some ⟨g, 0, none⟩)]).alloc (.cells #[.string ⟨x.toArray⟩] 9)).alloc (.cells #[.func (.func fid) #[.pointer (some ⟨g, 0, none⟩)] #[]] 131)
  have B2 := (Blk.new (w.alloc (.cells #[.pointer (some ⟨g, 0, none⟩)] 105)) 9 #[.string ⟨x.toArray⟩]).alloc (.cells #[.func (.func fid) #[.pointer (some ⟨g, 0, none⟩)] #[]] 131)
  have B3 := Blk.new ((w.alloc (.cells #[.pointer (some ⟨g, 0, none⟩)] 105)).alloc (.cells #[.string ⟨x.toArray⟩] 9)) 131 #[.func (.func fid) #[.pointer (some ⟨g, 0, none⟩)] #[]]
  rw [e1] at B2
  rw [e2] at B3
  clear e1 e2
  have k1 : (((w.alloc (.cells #[.pointer (some ⟨g, 0, none⟩)] 105)).alloc (.cells #[.string ⟨x.toArray⟩] 9)).alloc (.cells #[.func (.func fid) #[.pointer (some ⟨g, 0, none⟩)] #[]] 131)).cell? ⟨w.heap.size, 0, none⟩ = some (.pointer (some ⟨g, 0, none⟩)) := B1.cell 0
  have k2 : (((w.alloc (.cells #[.pointer (some ⟨g, 0, none⟩)] 105)).alloc (.cells #[.string ⟨x.toArray⟩] 9)).alloc (.cells #[.func (.func fid) #[.pointer (some ⟨g, 0, none⟩)] #[]] 131)).cell? ⟨w.heap.size + 1, 0, none⟩ = some (.string ⟨x.toArray⟩) := B2.cell 0
  have k3 : (((w.alloc (.cells #[.pointer (some ⟨g, 0, none⟩)] 105)).alloc (.cells #[.string ⟨x.toArray⟩] 9)).alloc (.cells #[.func (.func fid) #[.pointer (some ⟨g, 0, none⟩)] #[]] 131)).cell? ⟨w.heap.size + 1 + 1, 0, none⟩ = some (.func (.func fid) #[.pointer (some ⟨g, 0, none⟩)] #[]) := B3.cell 0
  have hA := Lib.hid (attempt_c 220 (.pointer (some ⟨w.heap.size + 1 + 1, 0, none⟩)) (.pointer (some ⟨w.heap.size, 0, none⟩)) (.pointer (some ⟨w.heap.size + 1, 0, none⟩)) (befF x F) (fun _ _ => rfl) g ws _ hP (before1_any fid F hF.out hcf x g w.heap.size (w.heap.size + 1) (w.heap.size + 1 + 1) ws _ hP k1 k2 k3 (by omega) (by omega)))
  go_enter Tryz.func216, Tryz.ntmps216
  go_wp2_with fail
  refine hA.out.mono ?_
  rintro e w2 ⟨rfl, hP2, hU2⟩
  have hU4 := hb3.trans hU2
  go_wp2
  go_ret
  exact ⟨rfl, hP2, hU4⟩

set_option maxRecDepth 100000 in
set_option maxHeartbeats 1600000 in
theorem after1_any (fid : Nat) (F : List Str → Nat × List Str) (hcf : ∀ (a : Array Value) (w : World), (callFunc fid a).run Tryz.prog w = .ok (.enter fid a) w) (x : Str) (g b1 b2 b3 : Nat) (ws : List Str) (hF0 : ∀ w : World, PW w g (tkR x ws) → Calls Tryz.prog fid #[.pointer (some ⟨g, 0, none⟩)] w (RetP g (F (tkR x ws)) w)) (w : World) (h : PW w g ws)
    (k1 : w.cell? ⟨b1, 0, none⟩ = some (.pointer (some ⟨g, 0, none⟩))) (k2 : w.cell? ⟨b2, 0, none⟩ = some (.string ⟨x.toArray⟩)) (k3 : w.cell? ⟨b3, 0, none⟩ = some (.func (.func fid) #[.pointer (some ⟨g, 0, none⟩)] #[])) (n3 : b3 ≠ g) :
    Calls Tryz.prog 222 #[.pointer (some ⟨b1, 0, none⟩), .pointer (some ⟨b2, 0, none⟩), .pointer (some ⟨b3, 0, none⟩)] w (RetP g (aftF x F ws) w) := by
  have hF := Lib.hid hF0
  clear hF0
  go_enter Tryz.func222, Tryz.ntmps222
  go_wp2_with fail
  refine (takeW _ _ _ _ h).mono ?_
  rintro e w2 ⟨rfl, hP, hU⟩
  have k3 := hU.cell k3 n3
  cases htk : tkB x ws with
  | true =>
    have hb2 := Lib.hid (show aftF x F ws = F (tkR x ws) by unfold aftF; rw [htk]; rfl)
    have hR := Lib.hid (hF.out w2 hP)
    clear htk
    go_wp2_with fail
    refine hR.out.mono ?_
    rintro e w3 ⟨rfl, hP3, hU3⟩
    have hU4 := hU.trans hU3
    go_wp2
    go_ret
    exact ⟨ret_nat (by rw [hb2.out]), by rw [hb2.out]; exact hP3, hU4⟩
  | false =>
    have hr := Lib.hid (show tkR x ws = ws by unfold tkR; rw [htk]; rfl)
    rw [hr.out] at hP
    have hb2 := Lib.hid (show aftF x F ws = (0, ws) by unfold aftF; rw [htk]; rfl)
    clear htk
    go_wp2
    go_ret
    exact ⟨ret_int (by rw [hb2.out]; rfl), by rw [hb2.out]; exact hP, hU⟩

set_option maxRecDepth 100000 in
set_option maxHeartbeats 1600000 in
theorem after_at (fid : Nat) (F : List Str → Nat × List Str) (hcf : ∀ (a : Array Value) (w : World), (callFunc fid a).run Tryz.prog w = .ok (.enter fid a) w) (x : Str) (g : Nat) (ws : List Str) (hF0 : ∀ w : World, PW w g (tkR x ws) → Calls Tryz.prog fid #[.pointer (some ⟨g, 0, none⟩)] w (RetP g (F (tkR x ws)) w)) (w : World) (h : PW w g ws) :
    Calls Tryz.prog 221 #[.pointer (some ⟨g, 0, none⟩), .string ⟨x.toArray⟩, .func (.func fid) #[.pointer (some ⟨g, 0, none⟩)] #[]] w (RetP g (afterF x F ws) w) := by
  have hF := Lib.hid hF0
  clear hF0
  have hmf : ∀ (fn : Fn) (first cap : Array Value) (w : World), (Instr.makeFunc fn first cap).run Tryz.prog w = .ok (.func fn first cap) w := fun _ _ _ _ => rfl
  have hgl := h.lt
  have hb3 := (((Upto.refl g w).alloc (.cells #[.pointer (some ⟨g, 0, none⟩)] 105)).alloc (.cells #[.string ⟨x.toArray⟩] 9)).alloc (.cells #[.func (.func fid) #[.pointer (some ⟨g, 0, none⟩)] #[]] 131)
  have hP := ((h.alloc (.cells #[.pointer (some ⟨g, 0, none⟩)] 105)).alloc (.cells #[.string ⟨x.toArray⟩] 9)).alloc (.cells #[.func (.func fid) #[.pointer (some ⟨g, 0, none⟩)] #[]] 131)
  have e1 : (w.alloc (.cells #[.pointer (some ⟨g, 0, none⟩)] 105)).heap.size = w.heap.size + 1 := World.size_alloc _ _
  have e2 : ((w.alloc (.cells #[.pointer (some ⟨g, 0, none⟩)] 105)).alloc (.cells #[.string ⟨x.toArray⟩] 9)).heap.size = w.heap.size + 1 + 1 := by rw [World.size_alloc, World.size_alloc]
  have B1 := ((Blk.new w 105 #[.pointer (some ⟨g, 0, none⟩)]).alloc (.cells #[.string ⟨x.toArray⟩] 9)).alloc (.cells #[.func (.func fid) #[.pointer (some ⟨g, 0, none⟩)] #[]] 131)
  have B2 := (Blk.new (w.alloc (.cells #[.pointer (some ⟨g, 0, none⟩)] 105)) 9 #[.string ⟨x.toArray⟩]).alloc (.cells #[.func (.func fid) #[.pointer (some ⟨g, 0, none⟩)] #[]] 131)
  have B3 := Blk.new ((w.alloc (.cells #[.pointer (some ⟨g, 0, none⟩)] 105)).alloc (.cells #[.string ⟨x.toArray⟩] 9)) 131 #[.func (.func fid) #[.pointer (some ⟨g, 0, none⟩)] #[]]
  rw [e1] at B2
  rw [e2] at B3
  clear e1 e2
  have k1 : (((w.alloc (.cells #[.pointer (some ⟨g, 0, none⟩)] 105)).alloc (.cells #[.string ⟨x.toArray⟩] 9)).alloc (.cells #[.func (.func fid) #[.pointer (some ⟨g, 0, none⟩)] #[]] 131)).cell? ⟨w.heap.size, 0, none⟩ = some (.pointer (some ⟨g, 0, none⟩)) := B1.cell 0
  have k2 : (((w.alloc (.cells #[.pointer (some ⟨g, 0, none⟩)] 105)).alloc (.cells #[.string ⟨x.toArray⟩] 9)).alloc (.cells #[.func (.func fid) #[.pointer (some ⟨g, 0, none⟩)] #[]] 131)).cell? ⟨w.heap.size + 1, 0, none⟩ = some (.string ⟨x.toArray⟩) := B2.cell 0
  have k3 : (((w.alloc (.cells #[.pointer (some ⟨g, 0, none⟩)] 105)).alloc (.cells #[.string ⟨x.toArray⟩] 9)).alloc (.cells #[.func (.func fid) #[.pointer (some ⟨g, 0, none⟩)] #[]] 131)).cell? ⟨w.heap.size + 1 + 1, 0, none⟩ = some (.func (.func fid) #[.pointer (some ⟨g, 0, none⟩)] #[]) := B3.cell 0
  have hA := Lib.hid (attempt_c 222 (.pointer (some ⟨w.heap.size, 0, none⟩)) (.pointer (some ⟨w.heap.size + 1, 0, none⟩)) (.pointer (some ⟨w.heap.size + 1 + 1, 0, none⟩)) (aftF x F) (fun _ _ => rfl) g ws _ hP (after1_any fid F hcf x g w.heap.size (w.heap.size + 1) (w.heap.size + 1 + 1) ws hF.out _ hP k1 k2 k3 (by omega)))
  go_enter Tryz.func221, Tryz.ntmps221
  go_wp2_with fail
  refine hA.out.mono ?_
  rintro e w2 ⟨rfl, hP2, hU2⟩
  have hU4 := hb3.trans hU2
  go_wp2
  go_ret
  exact ⟨rfl, hP2, hU4⟩
theorem after_any (fid : Nat) (F : List Str → Nat × List Str) (hF0 : RdM fid F) (hcf : ∀ (a : Array Value) (w : World), (callFunc fid a).run Tryz.prog w = .ok (.enter fid a) w) (x : Str) (g : Nat) (ws : List Str) (w : World) (h : PW w g ws) :
    Calls Tryz.prog 221 #[.pointer (some ⟨g, 0, none⟩), .string ⟨x.toArray⟩, .func (.func fid) #[.pointer (some ⟨g, 0, none⟩)] #[]] w (RetP g (afterF x F ws) w) :=
  after_at fid F hcf x g ws (fun w h => hF0 g _ w h) w h
end Go.Proofs.YtpdfjlbfhnapkaaGreatDoor
