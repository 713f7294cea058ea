/- A range over a function whose rounds always go on: the law that serves where the body is told, in each round, what lies behind the value that it is handed. -/
import Derived.Test.YtoljffghaklpdaaGreatDoorHM
import Derived.Test.YtoljffghaklpdaaGreatDoorJA
import Derived.RangeFuncNested
import Derived.RangeFuncLeaves
import Derived.RangeFuncBound
import Derived.Test.YtoljffghaklpdaaGreatDoorVMem
import Derived.Test.YtoljffghaklpdaaGreatDoorChecked
import Derived.WalkSpells
namespace Go.Proofs.YtoljffghaklpdaaGreatDoor
open Go.RowKit

/-- Between two rounds I t holds, t rounds being over; a round is handed a value x of which Arg t x says what lies behind it; the iterator's contract is asked for with whatever J abides new blocks. -/
theorem range_through {P : Program} {n : Nat} {g : Operand} {p0 : Tmp} {assign body : Code} {Q : Exit → Act → World → Prop} {a : Act} {w : World}
    {gf : Nat} {lb : Array Value} (hg : a.eval g = .func (.func gf) #[] lb) (eg : ∀ args w, (callFunc gf args).run P w = .ok (.enter gf args) w)
    (N : Nat) (Arg : Nat → Value → World → Prop) (hArg : ∀ x, OwnFrom w.heap.size (fun t W => Arg t x W)) (I : Nat → World → Prop) (hI : OwnFrom w.heap.size I) (h0 : I 0 w) (d : Tmp)
    (hassign : ∀ (l : Nat) (x : Value) (W : World) (K : Act → World → Prop), K { tmps := (a.tmps.setIfInBounds p0 x).setIfInBounds d x, defers := [] } W →
      assign.wpIn (Fence.wide.inRound l) n P (Exit.then K (fun _ _ _ => False)) { tmps := a.tmps.setIfInBounds p0 x, defers := [] } W)
    (hbody : ∀ (l t : Nat) (x : Value) (W : World), t < N → I t W → Arg t x W → body.wpIn (Fence.wide.inRound l) n P (fun e _ W' => e = .normal ∧ KeepsOthers W W' ∧ I (t + 1) W') { tmps := (a.tmps.setIfInBounds p0 x).setIfInBounds d x, defers := [] } W)
    (hit : ∀ (l : Nat) (W1 : World) (J : Nat → World → Prop), w.grownBy W1 none → (∀ t A B, J t A → A.grownBy B none → J t B) → (∀ t W, J t W → I t W) →
      (∀ t x W, t < N → J t W → Arg t x W → YieldAt Fence.wide n P l #[x] W fun e W' => e = .returned (.bool true) ∧ J (t + 1) W') → J 0 W1 →
      CallsIn Fence.wide n P gf (#[.func (.yield l) #[] #[]] ++ lb) W1 fun e W' => (∃ v, e = .returned v) ∧ J N W')
    (hdone : ∀ (W : World), I N W → W.heap[w.heap.size]? = some (.deferred (some [])) → Q .normal { a with defers := { target := .collected w.heap.size, args := #[] } :: a.defers } W) :
    (Code.rangeFunc g #[p0] assign body).wpIn Fence.wide (n + 1) P Q a w := by
  refine wpIn_rangeFunc ?_
  intro fn hfn
  rw [show Fence.wide.round = none from rfl]
  obtain ⟨rec, hrec⟩ : ∃ rec : LoopState → Loop, rec = fun st => { state := st, pending := none, fn, tmps := a.tmps, params := #[p0], assign, body, defers := w.heap.size } := ⟨_, rfl⟩
  obtain ⟨W1, hW1⟩ : ∃ W1, (w.alloc (.deferred (some []))).alloc (.loop (rec .ready)) = W1 := ⟨_, rfl⟩
  have hL1 : W1.heap[w.heap.size + 1]? = some (.loop (rec .ready)) := by
    rw [← hW1]; have := World.alloc_heap_new (w.alloc (.deferred (some []))) (.loop (rec .ready)); rwa [World.size_alloc] at this
  have hK1 : W1.heap[w.heap.size]? = some (.deferred (some [])) := by
    rw [← hW1]; exact (Below.heap_alloc _ _ _ (by simp)).trans (World.alloc_heap_new w _)
  have hI1 : I 0 W1 := by rw [← hW1]; exact hI.alloc _ (hI.alloc _ h0)
  have hb1 : w.grownBy W1 none := by
    rw [← hW1]; exact grown_none (((Below.refl _ w).alloc (Nat.le_refl _) _).alloc (by simp) _)
  refine ⟨w.heap.size + 1, [{ target := .collected w.heap.size, args := #[] }], W1, { target := .fn (.func gf) lb, args := #[.func (.yield (w.heap.size + 1)) #[] #[]] }, W1, gf,
    #[.func (.yield (w.heap.size + 1)) #[] #[]] ++ lb, W1, ?_, ?_, fun _ _ => trivial, ?_, fun h => absurd h (by decide), ?_⟩
  · rw [← hW1, hrec]; exact run_enterLoop_outer _ _ _ _ _
  · simp only [resolve, hg]
    simp [go_sem]
  · simp [invoke, go_sem, eg]
  · refine (hit (w.heap.size + 1) W1 (fun t W => I t W ∧ W.heap[w.heap.size + 1]? = some (.loop (rec .ready)) ∧ W.heap[w.heap.size]? = some (.deferred (some []))) hb1 ?_ (fun t W h => h.1) ?_ ⟨hI1, hL1, hK1⟩).mono ?_
    · rintro t A B ⟨hi, hl, hk⟩ hgr
      have hlt := (Array.getElem?_eq_some_iff.1 hl).1
      exact ⟨hI t A B none hi hgr (fun r e => by cases e), (hgr.block _ hlt (by simp)).trans hl, (hgr.block _ (by omega) (by simp)).trans hk⟩
    · -- one round
      rintro t x W ht ⟨hi, hl, hk⟩ hx
      have hlt : w.heap.size + 1 < W.heap.size := (Array.getElem?_eq_some_iff.1 hl).1
      have hy := run_yield (P := P) (args := #[x]) hl (by rw [hrec]; rfl)
      rw [hrec] at hy
      refine ⟨fn, _, assign, body, hy, roundIn_of_wpIn hfn ?_⟩
      rw [show ((#[p0] : Array Tmp).zip #[x]).foldl (fun tmps (t, a) => tmps.setIfInBounds t a) a.tmps = a.tmps.setIfInBounds p0 x by simp]
      refine hassign _ x W _ ?_
      refine ⟨_, run_beginRound hl (by rw [hrec]), ?_⟩
      have hl2 : (W.putObj (w.heap.size + 1) (.loop { rec .ready with state := .busy })).heap[w.heap.size + 1]? = some (.loop { rec .ready with state := .busy }) := World.putObj_heap_same hlt
      have hk2 : (W.putObj (w.heap.size + 1) (.loop { rec .ready with state := .busy })).heap[w.heap.size]? = some (.deferred (some [])) := (World.putObj_heap_other (by omega)).trans hk
      refine wpIn_mono (hbody _ t x _ ht (hI.putObj _ hi (by omega) hl rfl) ((hArg x).putObj _ hx (by omega) hl rfl)) ?_
      rintro e a3 W3 ⟨rfl, hk3, hi3⟩
      have hl3 := hk3.same _ _ hl2 rfl
      have hr := run_endRound (P := P) none hl3
      rw [hrec] at hr hl3
      refine ⟨_, _, hr, rfl, hI.putObj _ hi3 (by omega) hl3 rfl, ?_, (World.putObj_heap_other (by omega)).trans (hk3.same _ _ hk2 rfl)⟩
      rw [hrec]
      exact World.putObj_heap_same (Array.getElem?_eq_some_iff.1 hl3).1
    · rintro e W2 ⟨⟨v, rfl⟩, hi, hl, hk⟩
      refine ⟨none, _, by have := run_endLoop (P := P) hl (by rw [hrec]; simp); rw [hrec] at this; exact this, hdone _ (hI.putObj _ hi (by omega) hl rfl) ((World.putObj_heap_other (by omega)).trans hk)⟩
end Go.Proofs.YtoljffghaklpdaaGreatDoor


/- The checks of lists, and division with rounding. -/
namespace Go.Proofs.YtoljffghaklpdaaGreatDoor
open Go.RowKit

/-- the error of a list whose elements have to be from lo to hi -/
def chk (lo hi : Int) (xs : List Int) : Int := if 200000 < xs.length then 5 else if allB lo hi xs then 0 else 2
theorem chk_cases (lo hi : Int) (xs : List Int) : (200000 < xs.length ∧ chk lo hi xs = 5) ∨ (xs.length ≤ 200000 ∧ allB lo hi xs = true ∧ chk lo hi xs = 0) ∨ (xs.length ≤ 200000 ∧ allB lo hi xs = false ∧ chk lo hi xs = 2) := by
  unfold chk
  by_cases h : 200000 < xs.length
  · exact .inl ⟨h, if_pos h⟩
  · rw [if_neg h]
    cases ha : allB lo hi xs with
    | true => exact .inr (.inl ⟨by omega, rfl, rfl⟩)
    | false => exact .inr (.inr ⟨by omega, rfl, rfl⟩)

theorem checkList_any (A : Option Addr) (n c : Nat) (xs : List Int) (lo hi : Int) (w : World) (h : Sl .i64 w A n c xs) :
    Calls Tryz.prog 178 #[.slice A n c, .int .i64 lo, .int .i64 hi] w fun e w' => e = .returned (.int .i64 (chk lo hi xs)) ∧ w = w' := by
  have hl := Lib.hid h.len
  have hcap := h.cap
  have htop := h.top
  rcases chk_cases lo hi xs with ⟨h1, h2⟩ | ⟨h1, ha, h2⟩ | ⟨h1, ha, h2⟩
  all_goals
    rw [hl.out] at h1
    have h2 := Lib.hid h2
    go_enter Tryz.func178, Tryz.ntmps178
    go_wp2_with (go_at_call 129; refine (allWithin_any _ _ _ _ _ _ _ h).mono ?_; rintro e w' ⟨rfl, rfl⟩)
    go_ret
    exact ⟨ret_int h2.out.symm, rfl⟩

theorem checkValues_any (A : Option Addr) (n c : Nat) (xs : List Int) (w : World) (h : Sl .i64 w A n c xs) :
    Calls Tryz.prog 177 #[.slice A n c] w fun e w' => e = .returned (.int .i64 (chk (-2147483647) 2147483647 xs)) ∧ w = w' := by
  go_enter Tryz.func177, Tryz.ntmps177
  go_wp2_with (go_at_call 178; refine (checkList_any _ _ _ _ _ _ _ h).mono ?_; rintro e w' ⟨rfl, rfl⟩)
  go_ret
  exact ⟨rfl, rfl⟩
theorem checkSamples_any (A : Option Addr) (n c : Nat) (xs : List Int) (w : World) (h : Sl .i64 w A n c xs) :
    Calls Tryz.prog 142 #[.slice A n c] w fun e w' => e = .returned (.int .i64 (chk (-32768) 32767 xs)) ∧ w = w' := by
  go_enter Tryz.func142, Tryz.ntmps142
  go_wp2_with (go_at_call 178; refine (checkList_any _ _ _ _ _ _ _ h).mono ?_; rintro e w' ⟨rfl, rfl⟩)
  go_ret
  exact ⟨rfl, rfl⟩

end Go.Proofs.YtoljffghaklpdaaGreatDoor


/- The checks of recordings and of emphases; emphasis, and what restores it. -/
namespace Go.Proofs.YtoljffghaklpdaaGreatDoor
open Go.RowKit

/-- the error of a recording -/
def chkR (rate : Int) (xs : List Int) : Int := if chk (-32768) 32767 xs = 0 then (if okB 1 192000 rate then 0 else 2) else chk (-32768) 32767 xs
theorem checkRecording_any (rate : Int) (A : Option Addr) (n c : Nat) (xs : List Int) (w : World) (h : Sl .i64 w A n c xs) :
    Calls Tryz.prog 86 #[.agg #[.int .i64 rate, .slice A n c]] w fun e w' => e = .returned (.int .i64 (chkR rate xs)) ∧ Below w.heap.size w w' := by
  have h1 := h.alloc (.cells #[.int .i64 rate, .slice A n c] 30)
  have hb := (Below.refl w.heap.size w).alloc (Nat.le_refl _) (.cells #[.int .i64 rate, .slice A n c] 30)
  rcases chk_cases (-32768) 32767 xs with ⟨_, h2⟩ | ⟨_, _, h2⟩ | ⟨_, _, h2⟩
  · have hr := Lib.hid (show chkR rate xs = 5 by unfold chkR; rw [h2]; rfl)
    go_enter Tryz.func86, Tryz.ntmps86
    go_wp2_with (go_at_call 142; refine (checkSamples_any _ _ _ _ _ h1).mono ?_; rintro e w' ⟨rfl, rfl⟩)
    go_ret
    exact ⟨ret_int hr.out.symm, hb⟩
  · cases hk : okB 1 192000 rate with
    | true =>
      have hr := Lib.hid (show chkR rate xs = 0 by unfold chkR; rw [h2, hk]; rfl)
      go_enter Tryz.func86, Tryz.ntmps86
      go_wp2_with (first | (go_at_call 142; refine (checkSamples_any _ _ _ _ _ h1).mono ?_; rintro e w' ⟨rfl, rfl⟩) | (go_at_call 51; refine (within_any _ _ _ _).mono ?_; rintro e w' ⟨rfl, rfl⟩))
      go_ret
      exact ⟨ret_int hr.out.symm, hb⟩
    | false =>
      have hr := Lib.hid (show chkR rate xs = 2 by unfold chkR; rw [h2, hk]; rfl)
      go_enter Tryz.func86, Tryz.ntmps86
      go_wp2_with (first | (go_at_call 142; refine (checkSamples_any _ _ _ _ _ h1).mono ?_; rintro e w' ⟨rfl, rfl⟩) | (go_at_call 51; refine (within_any _ _ _ _).mono ?_; rintro e w' ⟨rfl, rfl⟩))
      go_ret
      exact ⟨ret_int hr.out.symm, hb⟩
  · have hr := Lib.hid (show chkR rate xs = 2 by unfold chkR; rw [h2]; rfl)
    go_enter Tryz.func86, Tryz.ntmps86
    go_wp2_with (go_at_call 142; refine (checkSamples_any _ _ _ _ _ h1).mono ?_; rintro e w' ⟨rfl, rfl⟩)
    go_ret
    exact ⟨ret_int hr.out.symm, hb⟩

/-- the error of the arguments of an emphasis -/
def chkV_w (xs : List Int) : Int := chk (-2147483647) 2147483647 xs
def chkE (xs : List Int) (num den : Int) : Int := if chkV_w xs = 0 then (if okB 1 1024 den && okB 0 den num then 0 else 2) else chkV_w xs
theorem checkEmphasis_any (A : Option Addr) (n c : Nat) (xs : List Int) (num den : Int) (w : World) (h : Sl .i64 w A n c xs) :
    Calls Tryz.prog 140 #[.slice A n c, .int .i64 num, .int .i64 den] w fun e w' => e = .returned (.int .i64 (chkE xs num den)) ∧ w = w' := by
  rcases chk_cases (-2147483647) 2147483647 xs with ⟨_, h2⟩ | ⟨_, _, h2⟩ | ⟨_, _, h2⟩
  · have hr := Lib.hid (show chkE xs num den = 5 by unfold chkE chkV_w; rw [h2]; rfl)
    go_enter Tryz.func140, Tryz.ntmps140
    go_wp2_with (go_at_call 177; refine (checkValues_any _ _ _ _ _ h).mono ?_; rintro e w' ⟨rfl, rfl⟩)
    go_ret
    exact ⟨ret_int hr.out.symm, rfl⟩
  · cases hk : okB 1 1024 den with
    | true =>
      cases hk2 : okB 0 den num with
      | true =>
        have hr := Lib.hid (show chkE xs num den = 0 by unfold chkE chkV_w; rw [h2, hk, hk2]; rfl)
        go_enter Tryz.func140, Tryz.ntmps140
        go_wp2_with (first | (go_at_call 177; refine (checkValues_any _ _ _ _ _ h).mono ?_; rintro e w' ⟨rfl, rfl⟩) | (go_at_call 51; refine (within_any _ _ _ _).mono ?_; rintro e w' ⟨rfl, rfl⟩))
        go_ret
        exact ⟨ret_int hr.out.symm, rfl⟩
      | false =>
        have hr := Lib.hid (show chkE xs num den = 2 by unfold chkE chkV_w; rw [h2, hk, hk2]; rfl)
        go_enter Tryz.func140, Tryz.ntmps140
        go_wp2_with (first | (go_at_call 177; refine (checkValues_any _ _ _ _ _ h).mono ?_; rintro e w' ⟨rfl, rfl⟩) | (go_at_call 51; refine (within_any _ _ _ _).mono ?_; rintro e w' ⟨rfl, rfl⟩))
        go_ret
        exact ⟨ret_int hr.out.symm, rfl⟩
    | false =>
      have hr := Lib.hid (show chkE xs num den = 2 by unfold chkE chkV_w; rw [h2, hk]; rfl)
      go_enter Tryz.func140, Tryz.ntmps140
      go_wp2_with (first | (go_at_call 177; refine (checkValues_any _ _ _ _ _ h).mono ?_; rintro e w' ⟨rfl, rfl⟩) | (go_at_call 51; refine (within_any _ _ _ _).mono ?_; rintro e w' ⟨rfl, rfl⟩))
      go_ret
      exact ⟨ret_int hr.out.symm, rfl⟩
  · have hr := Lib.hid (show chkE xs num den = 2 by unfold chkE chkV_w; rw [h2]; rfl)
    go_enter Tryz.func140, Tryz.ntmps140
    go_wp2_with (go_at_call 177; refine (checkValues_any _ _ _ _ _ h).mono ?_; rintro e w' ⟨rfl, rfl⟩)
    go_ret
    exact ⟨ret_int hr.out.symm, rfl⟩

def valsB (ys : List Int) : Bool := allB (-2147483647) 2147483647 ys
/-- only values are handed back -/
def oL (ys : List Int) : List Int := if valsB ys then ys else []
def oC (ys : List Int) : Int := if valsB ys then 0 else 2
theorem oL_yes {ys : List Int} (h : valsB ys = true) : oL ys = ys := if_pos h
theorem oL_no {ys : List Int} (h : valsB ys = false) : oL ys = [] := by unfold oL; rw [h]; rfl
theorem oC_yes {ys : List Int} (h : valsB ys = true) : oC ys = 0 := if_pos h
theorem oC_no {ys : List Int} (h : valsB ys = false) : oC ys = 2 := by unfold oC; rw [h]; rfl
theorem onlyValues_any (A : Option Addr) (n c : Nat) (ys : List Int) (w : World) (h : Sl .i64 w A n c ys) :
    Calls Tryz.prog 141 #[.slice A n c] w (RetL2 .i64 w (oL ys) (oC ys)) := by
  cases hv : allB (-2147483647) 2147483647 ys with
  | true =>
    have hh := Lib.hid (show valsB ys = true from hv)
    go_enter Tryz.func141, Tryz.ntmps141
    go_wp2_with (go_at_call 129; refine (allWithin_any _ _ _ _ _ _ _ h).mono ?_; rintro e w' ⟨rfl, rfl⟩)
    go_ret2
    exact ⟨A, n, c, by rw [oC_yes hh.out]; rfl, by rw [oL_yes hh.out]; exact h, Below.refl _ _⟩
  | false =>
    have hh := Lib.hid (show valsB ys = false from hv)
    go_enter Tryz.func141, Tryz.ntmps141
    go_wp2_with (go_at_call 129; refine (allWithin_any _ _ _ _ _ _ _ h).mono ?_; rintro e w' ⟨rfl, rfl⟩)
    go_ret2
    exact ⟨none, 0, 0, by rw [oC_no hh.out]; rfl, by rw [oL_no hh.out]; exact Sl.nil _ _, Below.refl _ _⟩

theorem mul_bd {a b m q : Int} (ha : 0 ≤ a) (hm : a ≤ m) (h1 : -q ≤ b) (h2 : b ≤ q) (hq : 0 ≤ q) : -(m * q) ≤ a * b ∧ a * b ≤ m * q := by
  have e1 : a * b ≤ a * q := Int.mul_le_mul_of_nonneg_left h2 ha
  have e2 : a * -q ≤ a * b := Int.mul_le_mul_of_nonneg_left h1 ha
  have e3 : a * q ≤ m * q := Int.mul_le_mul_of_nonneg_right hm hq
  rw [Int.mul_neg] at e2
  omega
/-- a part of a number, rounded, is not greater than the number -/
theorem rnd_part {num den r m : Int} (h0 : 0 ≤ num) (h1 : num ≤ den) (hd : 1 ≤ den) (hr : -m ≤ r) (hr2 : r ≤ m) : -m ≤ rnd (num * r) den ∧ rnd (num * r) den ≤ m := by
  have key : ∀ a : Int, 0 ≤ a → rnd (num * a) den ≤ a := fun a ha => by
    have e1 : num * a ≤ den * a := Int.mul_le_mul_of_nonneg_right h1 ha
    have e0 : 0 ≤ num * a := Int.mul_nonneg h0 ha
    rw [rnd_pos e0]
    have : (2 * (num * a) + den) / (2 * den) < a + 1 := Int.ediv_lt_of_lt_mul (by omega) (by
      rw [Int.add_mul, Int.mul_left_comm a 2 den, Int.mul_comm a den]; omega)
    omega
  by_cases hp : 0 ≤ r
  · have := key r hp
    have := (rnd_bd (a := num * r) (b := den) (Int.mul_nonneg h0 hp) hd).1
    omega
  · have h2 := key (-r) (by omega)
    have h3 := (rnd_bd (a := num * -r) (b := den) (Int.mul_nonneg h0 (by omega)) hd).1
    by_cases hz : num * r < 0
    · rw [rnd_opp hz, ← Int.mul_neg]; omega
    · have e : num * r = 0 := by
        have := Int.mul_nonneg h0 (show 0 ≤ -r by omega)
        rw [Int.mul_neg] at this
        omega
      rw [Int.mul_neg, e] at h2 h3
      rw [e]
      rw [show (-0 : Int) = 0 from rfl] at h2 h3
      omega
theorem rnd_zero {b : Int} (hb : 1 ≤ b) : rnd 0 b = 0 := by have := rnd_bd (a := 0) (by omega) hb; omega

/-- the element before, 0 ahead of the first -/
def prev (f : Nat → Int) : Nat → Int
  | 0 => 0
  | k + 1 => f k
/-- emphasis -/
def emAt (num den : Int) (xs : List Int) (i : Nat) : Int := xs.getD i 0 - rnd (num * prev (fun j => xs.getD j 0) i) den
def reAt (num den : Int) (xs : List Int) : Nat → Int
  | 0 => xs.getD 0 0 + rnd (num * 0) den
  | k + 1 => xs.getD (k + 1) 0 + rnd (num * reAt num den xs k) den
theorem reAt_prev (num den : Int) (xs : List Int) (i : Nat) : reAt num den xs i = xs.getD i 0 + rnd (num * prev (reAt num den xs) i) den := by cases i <;> rfl
theorem reAt_bd {num den : Int} {xs : List Int} (h0 : 0 ≤ num) (h1 : num ≤ den) (hd : 1 ≤ den) (hx : allB (-2147483647) 2147483647 xs = true) :
    ∀ i, i < xs.length → -(2147483647 * ((i : Int) + 1)) ≤ reAt num den xs i ∧ reAt num den xs i ≤ 2147483647 * ((i : Int) + 1) := by
  intro i
  induction i with
  | zero =>
    intro hi
    have h2 := allB_get hx hi rfl
    show _ ≤ _ + _ ∧ _ + _ ≤ _
    rw [Int.mul_zero, rnd_zero hd]
    omega
  | succ k ih =>
    intro hi
    have h2 := allB_get hx hi rfl
    have h3 := ih (by omega)
    have h4 := rnd_part h0 h1 hd h3.1 h3.2
    show _ ≤ _ + _ ∧ _ + _ ≤ _
    omega

/-- what emphasis returns -/
def emL (back : Bool) (xs : List Int) (num den : Int) : List Int := if chkE xs num den = 0 then oL (tab xs.length (if back then reAt num den xs else emAt num den xs)) else []
def emC (back : Bool) (xs : List Int) (num den : Int) : Int := if chkE xs num den = 0 then oC (tab xs.length (if back then reAt num den xs else emAt num den xs)) else chkE xs num den

theorem chkE_cases (xs : List Int) (num den : Int) : (chkE xs num den = 0 ∧ xs.length ≤ 200000 ∧ allB (-2147483647) 2147483647 xs = true ∧ 1 ≤ den ∧ den ≤ 1024 ∧ 0 ≤ num ∧ num ≤ den) ∨ chkE xs num den = 2 ∨ chkE xs num den = 5 := by
  unfold chkE chkV_w
  rcases chk_cases (-2147483647) 2147483647 xs with ⟨_, h2⟩ | ⟨h1, ha, h2⟩ | ⟨_, _, h2⟩ <;> rw [h2]
  · exact .inr (.inr rfl)
  · cases h3 : okB 1 1024 den && okB 0 den num with
    | true =>
      rw [Bool.and_eq_true, okB_iff, okB_iff] at h3
      exact .inl ⟨rfl, h1, ha, h3.1.1, h3.1.2, h3.2.1, h3.2.2⟩
    | false => exact .inr (.inl rfl)
  · exact .inr (.inl rfl)

set_option maxHeartbeats 800000 in
theorem Emphasize_any (A : Option Addr) (n c : Nat) (xs : List Int) (num den : Int) (w : World) (h : Sl .i64 w A n c xs) :
    Calls Tryz.prog 85 #[.slice A n c, .int .i64 num, .int .i64 den] w (RetL2 .i64 w (emL false xs num den) (emC false xs num den)) := by
  rcases chkE_cases xs num den with ⟨hk, hn, hall, hd1, hd2, hn1, hn2⟩ | hk | hk
  · have hL := Lib.hid (show emL false xs num den = oL (tab xs.length (emAt num den xs)) by unfold emL; rw [if_pos hk]; rfl)
    have hC := Lib.hid (show emC false xs num den = oC (tab xs.length (emAt num den xs)) by unfold emC; rw [if_pos hk]; rfl)
    have hl := Lib.hid h.len
    rw [hl.out] at hn
    have hcap := h.cap
    have htop := h.top
    have hmk := make_int n (by omega)
    have hall := Lib.hid hall
    go_enter Tryz.func85, Tryz.ntmps85
    go_wp2_with (go_at_call 140; refine (checkEmphasis_any _ _ _ _ _ _ _ h).mono ?_; rintro e w' ⟨rfl, rfl⟩)
    clear hk hmk
    go_loopw [10, 25] (fun bv iv wr => ∃ k : Nat, iv = .int .i64 k ∧ bv = .int .i64 (prev (fun j => xs.getD j 0) k) ∧ k ≤ n ∧ Fill w wr w.heap.size 3 n k (emAt num den xs)) (fun _ iv _ => n - (intOf iv).toNat)
    case atStart => exact ⟨0, rfl, rfl, Nat.zero_le _, Fill.start (Below.refl _ _) rfl⟩
    case round =>
      obtain ⟨k, rfl, rfl, hkn, hF⟩ := hrel
      have hr := h.below hF.bel
      rcases Nat.lt_or_ge k n with hlt | hge
      · obtain ⟨ad, x, rfl, hcx, hx⟩ := hr.at_ hlt
        obtain ⟨y, hcy⟩ := hF.cell hlt
        have hcf := hF.frozen k
        have hv := Lib.hid (show x - rnd (num * prev (fun j => xs.getD j 0) k) den = emAt num den xs k by unfold emAt; rw [hx.out])
        have hpv := Lib.hid (show prev (fun j => xs.getD j 0) (k + 1) = x from hx.out)
        have hxb := allB_get hall.out (by rw [hl.out]; exact hlt) hx.out
        have hx1 := hxb.1
        have hx2 := hxb.2
        have hpb : -2147483647 ≤ prev (fun j => xs.getD j 0) k ∧ prev (fun j => xs.getD j 0) k ≤ 2147483647 := by
          cases k with
          | zero => show _ ≤ (0 : Int) ∧ (0 : Int) ≤ _; omega
          | succ j => exact allB_get hall.out (by rw [hl.out]; omega) rfl
        generalize prev (fun j => xs.getD j 0) k = p at *
        have hp1 := hpb.1
        have hp2 := hpb.2
        have hm := mul_bd hn1 (show num ≤ 1024 by omega) hp1 hp2 (by omega)
        have hm1 := hm.1
        have hm2 := hm.2
        have hq := rnd_part hn1 hn2 hd1 hp1 hp2
        have hq1 := hq.1
        have hq2 := hq.2
        clear hxb hpb hm hq
        go_wp2_with (go_at_call 106; refine (divide_any _ _ _ (by omega) (by omega) hd1 (by omega)).mono ?_; rintro e w' ⟨rfl, rfl⟩)
        go_roundw
        case rel => exact ⟨k + 1, by go_num, by rw [hpv.out], hlt, hF.next hlt hv.out⟩
        case measure => simp [intOf]; omega
      · have hkn' : k = n := by omega
        subst hkn'
        have hD := hF.done (by omega)
        go_wp2_with (go_at_call 141; refine (onlyValues_any _ _ _ _ _ hD).mono ?_; rintro e w' ⟨A2, m2, c2, rfl, h2, hb2⟩)
        go_ret2
        exact ⟨A2, m2, c2, by rw [hC.out, hl.out]; rfl, by rw [hL.out, hl.out]; exact h2, hF.bel.trans (hb2.mono hF.bel.size)⟩
  all_goals
    have hL := Lib.hid (show emL false xs num den = [] by unfold emL; rw [hk]; rfl)
    have hC := Lib.hid (show emC false xs num den = chkE xs num den by unfold emC; rw [hk]; rfl)
    have hk' := Lib.hid hk
    go_enter Tryz.func85, Tryz.ntmps85
    go_wp2_with (go_at_call 140; refine (checkEmphasis_any _ _ _ _ _ _ _ h).mono ?_; rintro e w' ⟨rfl, rfl⟩)
    go_ret2
    exact ⟨none, 0, 0, by rw [hC.out, hk'.out]; rfl, by rw [hL.out]; exact Sl.nil _ _, Below.refl _ _⟩
end Go.Proofs.YtoljffghaklpdaaGreatDoor


/- The listener as a machine on lists: no word here of a program. -/
namespace Go.Proofs.YtoljffghaklpdaaGreatDoor

/-- a gate -/
structure Gt where
  B : Nat
  H : Int
  L : Int
  R : Int
  F : Int
  D : Int
  X : Int
structure Gt.Ok (G : Gt) : Prop where
  b1 : 1 ≤ G.B
  b2 : G.B ≤ 4096
  h1 : 0 ≤ G.H
  h2 : G.H ≤ 1073741824
  l1 : 0 ≤ G.L
  l2 : G.L ≤ G.H
  r1 : 1 ≤ G.R
  r2 : G.R ≤ 1000
  f1 : 1 ≤ G.F
  f2 : G.F ≤ 1000
  d1 : 0 ≤ G.D
  d2 : G.D ≤ 1000
  x1 : G.R + G.F + G.D ≤ G.X
  x2 : G.X ≤ 100000

/-- the state: in speech, the run, the first block of the segment, the first block behind the segment before -/
structure Ms where
  sp : Bool
  run : Int
  first : Int
  last : Int
def Ms.start : Ms := ⟨false, 0, 0, 0⟩
def Ms.st (m : Ms) : Int := if m.sp then 2 else 1

/-- a block b while waiting -/
def awt (G : Gt) (b : Int) (loud : Bool) (m : Ms) : Ms :=
  if loud then (if m.run + 1 = G.R then ⟨true, 0, max (b - G.R + 1 - G.D) m.last, m.last⟩ else ⟨m.sp, m.run + 1, m.first, m.last⟩) else ⟨m.sp, 0, m.first, m.last⟩
/-- the run behind a block in speech -/
def frun (quiet : Bool) (m : Ms) : Int := if quiet then m.run + 1 else 0
/-- where the segment ends with block b, -1 if it does not -/
def fend (G : Gt) (b : Int) (quiet : Bool) (m : Ms) : Int :=
  if frun quiet m = G.F then b - G.F + 1 else if b + 1 - m.first = G.X then b + 1 else -1
/-- block b with the energy E -/
def hearM (G : Gt) (b E : Int) (m : Ms) : Ms :=
  if m.sp then (if fend G b (decide (E < G.L * G.B)) m = -1 then ⟨true, frun (decide (E < G.L * G.B)) m, m.first, m.last⟩ else ⟨false, 0, m.first, fend G b (decide (E < G.L * G.B)) m⟩)
  else awt G b (decide (G.H * G.B ≤ E)) m
def hearS (G : Gt) (b E : Int) (m : Ms) : List (Int × Int) :=
  if m.sp then (if fend G b (decide (E < G.L * G.B)) m = -1 then [] else [(m.first * G.B, fend G b (decide (E < G.L * G.B)) m * G.B)]) else []

/-- the sum of the squares -/
def eng (xs : List Int) : Int := (xs.map fun x => x * x).sum
theorem eng_nil : eng [] = 0 := rfl
theorem eng_snoc (xs : List Int) (x : Int) : eng (xs ++ [x]) = eng xs + x * x := by simp [eng]

/-- block b of a list -/
def blk (G : Gt) (xs : List Int) (b : Nat) : List Int := (xs.drop (b * G.B)).take G.B
/-- the state behind b blocks -/
def runM (G : Gt) (xs : List Int) : Nat → Ms
  | 0 => Ms.start
  | b + 1 => hearM G b (eng (blk G xs b)) (runM G xs b)
/-- the segments that have ended behind b blocks -/
def runS (G : Gt) (xs : List Int) : Nat → List (Int × Int)
  | 0 => []
  | b + 1 => runS G xs b ++ hearS G b (eng (blk G xs b)) (runM G xs b)

theorem blk_app {G : Gt} {xs ys : List Int} {b : Nat} (h : (b + 1) * G.B ≤ xs.length) : blk G (xs ++ ys) b = blk G xs b := by
  unfold blk
  rw [Nat.add_mul, Nat.one_mul] at h
  rw [List.drop_append_of_le_length (by omega), List.take_append_of_le_length (by rw [List.length_drop]; omega)]
theorem runM_app {G : Gt} {xs ys : List Int} : ∀ b : Nat, b * G.B ≤ xs.length → runM G (xs ++ ys) b = runM G xs b
  | 0, _ => rfl
  | b + 1, h => by
    have h2 := h
    rw [Nat.add_mul, Nat.one_mul] at h2
    show hearM G b (eng (blk G (xs ++ ys) b)) (runM G (xs ++ ys) b) = hearM G b (eng (blk G xs b)) (runM G xs b)
    rw [blk_app h, runM_app b (by omega)]
theorem runS_app {G : Gt} {xs ys : List Int} : ∀ b : Nat, b * G.B ≤ xs.length → runS G (xs ++ ys) b = runS G xs b
  | 0, _ => rfl
  | b + 1, h => by
    have h2 := h
    rw [Nat.add_mul, Nat.one_mul] at h2
    show runS G (xs ++ ys) b ++ hearS G b (eng (blk G (xs ++ ys) b)) (runM G (xs ++ ys) b) = runS G xs b ++ hearS G b (eng (blk G xs b)) (runM G xs b)
    rw [blk_app h, runM_app b (by omega), runS_app b (by omega)]

/-- numbers of a state stay below the number of blocks -/
structure Ms.Bd (m : Ms) (b : Int) : Prop where
  r1 : 0 ≤ m.run
  r2 : m.run ≤ b
  f1 : 0 ≤ m.first
  f2 : m.first ≤ b
  l1 : 0 ≤ m.last
  l2 : m.last ≤ b
theorem Ms.Bd.start : Ms.start.Bd 0 := ⟨by decide, by decide, by decide, by decide, by decide, by decide⟩
theorem awt_bd {G : Gt} (hG : G.Ok) {m : Ms} {b : Int} {l : Bool} (h : m.Bd b) : (awt G b l m).Bd (b + 1) := by
  obtain ⟨h1, h2, h3, h4, h5, h6⟩ := h
  have := hG.r1
  have := hG.d1
  unfold awt
  split
  · split
    · exact ⟨by dsimp only; omega, by dsimp only; omega, by dsimp only; omega, by dsimp only; omega, by dsimp only; omega, by dsimp only; omega⟩
    · exact ⟨by dsimp only; omega, by dsimp only; omega, by dsimp only; omega, by dsimp only; omega, by dsimp only; omega, by dsimp only; omega⟩
  · exact ⟨by dsimp only; omega, by dsimp only; omega, by dsimp only; omega, by dsimp only; omega, by dsimp only; omega, by dsimp only; omega⟩
theorem frun_bd {m : Ms} {b : Int} {q : Bool} (h : m.Bd b) : 0 ≤ frun q m ∧ frun q m ≤ b + 1 := by
  obtain ⟨h1, h2, h3, h4, h5, h6⟩ := h
  unfold frun
  split <;> omega
/-- the end of a segment is none, or from 0 to b + 1 -/
theorem fend_bd {G : Gt} (hG : G.Ok) {m : Ms} {b : Int} {q : Bool} (h : m.Bd b) : fend G b q m = -1 ∨ (0 ≤ fend G b q m ∧ fend G b q m ≤ b + 1) := by
  have h7 := frun_bd (q := q) h
  obtain ⟨h1, h2, h3, h4, h5, h6⟩ := h
  have := hG.f1
  unfold fend
  split
  · omega
  · split <;> omega
theorem hearM_bd {G : Gt} (hG : G.Ok) {m : Ms} {b E : Int} (h : m.Bd b) : (hearM G b E m).Bd (b + 1) := by
  have h7 := fun q => frun_bd (q := q) h
  have h8 := fun q => fend_bd (q := q) hG h
  obtain ⟨h1, h2, h3, h4, h5, h6⟩ := h
  unfold hearM
  split
  · split
    · have := h7 (decide (E < G.L * G.B))
      exact ⟨by dsimp only; omega, by dsimp only; omega, by dsimp only; omega, by dsimp only; omega, by dsimp only; omega, by dsimp only; omega⟩
    · have := h8 (decide (E < G.L * G.B))
      exact ⟨by dsimp only; omega, by dsimp only; omega, by dsimp only; omega, by dsimp only; omega, by dsimp only; omega, by dsimp only; omega⟩
  · exact awt_bd hG ⟨h1, h2, h3, h4, h5, h6⟩
theorem runM_bd {G : Gt} (hG : G.Ok) (xs : List Int) : ∀ b : Nat, (runM G xs b).Bd (b : Int)
  | 0 => Ms.Bd.start
  | b + 1 => by
    have := hearM_bd (E := eng (blk G xs b)) hG (runM_bd hG xs b)
    rw [Int.natCast_succ]
    exact this

/-- ys put into xs from place o on -/
def spl (xs : List Int) (o : Nat) (ys : List Int) : List Int := xs.take o ++ ys ++ xs.drop (o + ys.length)
theorem spl_len {xs : List Int} {o : Nat} {ys : List Int} (h : o + ys.length ≤ xs.length) : (spl xs o ys).length = xs.length := by
  unfold spl
  simp
  omega
/-- what was filled in from o on, and the new elements behind it -/
theorem spl_part {xs ys : List Int} {o p : Nat} (h : o + p + ys.length ≤ xs.length) : ((spl xs (o + p) ys).drop o).take (p + ys.length) = (xs.drop o).take p ++ ys := by
  unfold spl
  rw [List.append_assoc, List.drop_append_of_le_length (by simp; omega), List.drop_take, show o + p - o = p by omega]
  have hl : (List.take p (List.drop o xs)).length = p := by simp; omega
  rw [List.take_append, List.take_of_length_le (by omega), hl, show p + ys.length - p = ys.length by omega, List.take_append_of_le_length (Nat.le_refl _), List.take_of_length_le (Nat.le_refl _)]

/-- the segments of a list; with what has not ended when the listener is closed -/
def segs (G : Gt) (xs : List Int) : List (Int × Int) := runS G xs (xs.length / G.B)
def endM (G : Gt) (xs : List Int) : Ms := runM G xs (xs.length / G.B)
def lastS (G : Gt) (xs : List Int) : List (Int × Int) := if (endM G xs).sp then [((endM G xs).first * G.B, (xs.length : Int))] else []

/-- one block has just become complete -/
theorem seg_step {G : Gt} (hG : G.Ok) {xs ys : List Int} {b : Nat} (hb : b = xs.length / G.B) (h : xs.length + ys.length = (b + 1) * G.B) :
    endM G (xs ++ ys) = hearM G b (eng (blk G (xs ++ ys) b)) (endM G xs) ∧ segs G (xs ++ ys) = segs G xs ++ hearS G b (eng (blk G (xs ++ ys) b)) (endM G xs) := by
  have hB := hG.b1
  have h1 : b * G.B ≤ xs.length := by rw [hb]; exact Nat.div_mul_le_self _ _
  have h2 : (xs ++ ys).length / G.B = b + 1 := by
    rw [List.length_append, h]; exact Nat.mul_div_cancel _ (by omega)
  constructor
  · show runM G (xs ++ ys) ((xs ++ ys).length / G.B) = hearM G b (eng (blk G (xs ++ ys) b)) (runM G xs (xs.length / G.B))
    rw [h2, ← hb, ← runM_app (ys := ys) b h1]; rfl
  · show runS G (xs ++ ys) ((xs ++ ys).length / G.B) = runS G xs (xs.length / G.B) ++ hearS G b (eng (blk G (xs ++ ys) b)) (runM G xs (xs.length / G.B))
    rw [h2, ← hb, ← runM_app (ys := ys) b h1, ← runS_app (ys := ys) b h1]; rfl
/-- no block has become complete -/
theorem seg_same {G : Gt} {xs ys : List Int} (h : (xs.length + ys.length) / G.B = xs.length / G.B) : endM G (xs ++ ys) = endM G xs ∧ segs G (xs ++ ys) = segs G xs := by
  have h1 : xs.length / G.B * G.B ≤ xs.length := Nat.div_mul_le_self _ _
  constructor
  · show runM G (xs ++ ys) ((xs ++ ys).length / G.B) = _
    rw [List.length_append, h, runM_app _ h1]; rfl
  · show runS G (xs ++ ys) ((xs ++ ys).length / G.B) = _
    rw [List.length_append, h, runS_app _ h1]; rfl
end Go.Proofs.YtoljffghaklpdaaGreatDoor


/- What restores a list from its emphasis; energies, changes of sign, peaks. -/
namespace Go.Proofs.YtoljffghaklpdaaGreatDoor
open Go.RowKit


theorem sq_bd {x m : Int} (h1 : -m ≤ x) (h2 : x ≤ m) : 0 ≤ x * x ∧ x * x ≤ m * m := by
  by_cases h : 0 ≤ x
  · exact ⟨Int.mul_nonneg h h, Int.mul_le_mul h2 h2 h (by omega)⟩
  · have e : x * x = -x * -x := by rw [Int.neg_mul_neg]
    rw [e]
    exact ⟨Int.mul_nonneg (by omega) (by omega), Int.mul_le_mul (by omega) (by omega) (by omega) (by omega)⟩
theorem eng_bd {m : Int} : ∀ xs : List Int, (∀ x ∈ xs, -m ≤ x ∧ x ≤ m) → 0 ≤ eng xs ∧ eng xs ≤ xs.length * (m * m) := by
  intro xs
  induction xs with
  | nil => intro _; simp [eng]
  | cons x xs ih =>
    intro h
    have h1 := ih (fun y hy => h y (List.mem_cons_of_mem _ hy))
    have h2 := sq_bd (h x (List.mem_cons_self)).1 (h x (List.mem_cons_self)).2
    have e : eng (x :: xs) = x * x + eng xs := by simp [eng]
    rw [e, List.length_cons, Int.natCast_succ, Int.add_mul]
    omega

set_option maxHeartbeats 400000 in
theorem energy_any (A : Option Addr) (n c : Nat) (xs : List Int) (w : World) (h : Sl .i64 w A n c xs) (hn : n ≤ 250000) (hx : ∀ x ∈ xs, -70000 ≤ x ∧ x ≤ 70000) :
    Calls Tryz.prog 180 #[.slice A n c] w fun e w' => e = .returned (.int .i64 (eng xs)) ∧ w = w' := by
  have hl := Lib.hid h.len
  have hcap := h.cap
  have htop := h.top
  have hx := Lib.hid hx
  go_enter Tryz.func180, Tryz.ntmps180
  go_wp2
  go_loop [3, 8] (fun sv iv => ∃ k : Nat, k ≤ n ∧ iv = .int .i64 k ∧ sv = .int .i64 (eng (xs.take k))) (fun _ iv => n - (intOf iv).toNat)
  case atStart => exact ⟨0, Nat.zero_le _, rfl, rfl⟩
  case round =>
    obtain ⟨k, hk, rfl, rfl⟩ := hrel
    rcases Nat.lt_or_ge k n with hlt | hge
    · obtain ⟨ad, x, rfl, hc, hxk⟩ := h.at_ hlt
      have hmem := hx.out x (by have := hxk.out; rw [getD_in (by rw [hl.out]; exact hlt)] at this; rw [← this]; exact List.getElem_mem _)
      have hs := sq_bd (m := 70000) hmem.1 hmem.2
      have hs1 := hs.1
      have hs2 := hs.2
      have he := eng_bd (m := 70000) (xs.take k) (fun y hy => hx.out y (List.mem_of_mem_take hy))
      have hlk : (xs.take k).length ≤ 250000 := by rw [List.length_take]; omega
      have he1 := he.1
      have he2 : eng (xs.take k) ≤ 1225000000000000 := by have := he.2; omega
      have hn2 := Lib.hid (show eng (xs.take (k + 1)) = eng (xs.take k) + x * x by rw [take_snocD (by rw [hl.out]; exact hlt) hxk.out, eng_snoc])
      clear hmem hs he
      generalize eng (xs.take k) = E at *
      go_wp2
      go_round
      case rel => exact ⟨k + 1, by omega, by go_num, by rw [hn2.out]⟩
      case measure => simp [intOf]; omega
    · have hkn : k = n := by omega
      subst hkn
      go_wp2
      go_ret
      exact ⟨ret_int (by rw [List.take_of_length_le (by rw [hl.out]; exact Nat.le_refl _)]), rfl⟩
end Go.Proofs.YtoljffghaklpdaaGreatDoor
