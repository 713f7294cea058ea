/- The segments of a list of samples. -/
import Derived.Test.YtobobbhifajhmaaK1
import Derived.Laws.AppendOwnNone
namespace Go.Proofs.Ytobobbhifajhmaa
open Go.RowKit

def RetS (w : World) (ps : List (Int × Int)) (code : Int) (e : Ending) (w' : World) : Prop :=
  ∃ A n c, e = .returned (.tuple #[.slice A n c, .int .i64 code]) ∧ Sg w' A n c ps ∧ Below w.heap.size w w'

theorem Sg.own {w : World} {base n : Nat} {v : Value} {ps : List (Int × Int)} (h : w.ownsRow base 84 2 v n (sgv ps)) : ∃ A c, v = .slice A n c ∧ Sg w A n c ps := Sg.of_own h

theorem runS_len (G : Gt) (xs : List Int) : ∀ b : Nat, (runS G xs b).length ≤ b
  | 0 => Nat.le_refl _
  | b + 1 => by
    have := runS_len G xs b
    show (runS G xs b ++ hearS G b (eng (blk G xs b)) (runM G xs b)).length ≤ b + 1
    rw [List.length_append]
    rcases hearS_cases G b (eng (blk G xs b)) (runM G xs b) with h | ⟨s, t, h⟩ <;> rw [h] <;> simp <;> omega
theorem segs_len (G : Gt) (xs : List Int) : (segs G xs).length ≤ xs.length := Nat.le_trans (runS_len G xs _) (Nat.div_le_self _ _)

set_option maxHeartbeats 1600000 in
theorem Segments_long (G : Value) (b h l r f d x : Int) (hGv : G = gtV b h l r f d x) (A : Option Addr) (n c : Nat) (xs : List Int) (w : World) (hS : Sl .i64 w A n c xs) (hn : 200000 < n) :
    Calls Try.prog 51 #[.slice A n c, G] w (RetS w [] 5) := by
  subst hGv
  have hcap := hS.cap
  have htop := hS.top
  unfold gtV
  go_enter Try.func51, Try.ntmps51
  go_wp2
  go_ret2
  exact ⟨none, 0, 0, rfl, Sg.nil _, (Below.refl _ _).alloc (Nat.le_refl _) _⟩

set_option maxHeartbeats 1600000 in
theorem Segments_gate (b h l r f d x : Int) (hv : gtB b h l r f d x = false) (A : Option Addr) (n c : Nat) (xs : List Int) (w : World) (hS : Sl .i64 w A n c xs) (hn : n ≤ 200000) :
    Calls Try.prog 51 #[.slice A n c, gtV b h l r f d x] w (RetS w [] 2) := by
  have hcap := hS.cap
  have htop := hS.top
  have hLi := Lib.hid (fun w => Listen_bad b h l r f d x w hv)
  unfold gtV at hLi ⊢
  have hb0 := (Below.refl w.heap.size w).alloc (Nat.le_refl _) (.cells #[.int .i64 b, .int .i64 h, .int .i64 l, .int .i64 r, .int .i64 f, .int .i64 d, .int .i64 x] 65)
  go_enter Try.func51, Try.ntmps51
  go_wp2_with (go_at_call 55; refine (hLi.out _).mono ?_; rintro e w1 ⟨rfl, hb1⟩)
  go_ret2
  exact ⟨none, 0, 0, rfl, Sg.nil _, hb0.trans (hb1.mono hb0.size)⟩

set_option maxHeartbeats 1600000 in
theorem Segments_bad (G : Gt) (hG : G.Ok) (A : Option Addr) (n c : Nat) (xs : List Int) (w : World) (hS : Sl .i64 w A n c xs) (hn : n ≤ 200000) (hx : allB (-32768) 32767 xs = false) :
    Calls Try.prog 51 #[.slice A n c, gval G] w (RetS w [] 2) := by
  have hcap := hS.cap
  have htop := hS.top
  have hl := Lib.hid hS.len
  have hck := Lib.hid (show chk (-32768) 32767 xs = 2 by unfold chk; rw [if_neg (by rw [hl.out]; omega), hx]; rfl)
  have hLi := Lib.hid (fun w => Listen_any G hG w)
  unfold gval gtV at hLi ⊢
  have hb0 := (Below.refl w.heap.size w).alloc (Nat.le_refl _) (.cells #[.int .i64 G.B, .int .i64 G.H, .int .i64 G.L, .int .i64 G.R, .int .i64 G.F, .int .i64 G.D, .int .i64 G.X] 65)
  have hS0 := hS.alloc (.cells #[.int .i64 G.B, .int .i64 G.H, .int .i64 G.L, .int .i64 G.R, .int .i64 G.F, .int .i64 G.D, .int .i64 G.X] 65)
  clear hx
  go_enter Try.func51, Try.ntmps51
  go_wp2_with (first | (go_at_call 55; refine (hLi.out _).mono ?_; rintro e w1 ⟨g, gr, rfl, hL1, hb1, hg1, hg2⟩) | (go_at_call 56; refine (Feed_bad g gr _ _ _ _ _ _ G hL1 (hS0.below hb1) 2 hck.out rfl).mono ?_; rintro e w2 ⟨rfl, rfl⟩))
  go_ret2
  exact ⟨none, 0, 0, rfl, Sg.nil _, hb0.trans (hb1.mono hb0.size)⟩

set_option maxHeartbeats 1600000 in
theorem Segments_ok (G : Gt) (hG : G.Ok) (A : Option Addr) (n c : Nat) (xs : List Int) (w : World) (hS : Sl .i64 w A n c xs) (hn : n ≤ 200000) (hx : allB (-32768) 32767 xs = true) :
    Calls Try.prog 51 #[.slice A n c, gval G] w (RetS w (segs G xs ++ lastS G xs) 0) := by
  have hcap := hS.cap
  have htop := hS.top
  have hLi := Lib.hid (fun w => Listen_any G hG w)
  unfold gval gtV at hLi ⊢
  have hb0 := (Below.refl w.heap.size w).alloc (Nat.le_refl _) (.cells #[.int .i64 G.B, .int .i64 G.H, .int .i64 G.L, .int .i64 G.R, .int .i64 G.F, .int .i64 G.D, .int .i64 G.X] 65)
  have hS0 := hS.alloc (.cells #[.int .i64 G.B, .int .i64 G.H, .int .i64 G.L, .int .i64 G.R, .int .i64 G.F, .int .i64 G.D, .int .i64 G.X] 65)
  have hblt := Lib.hid hS0.blt
  have hx := Lib.hid hx
  go_enter Try.func51, Try.ntmps51
  go_wp2_with (go_at_call 55; refine (hLi.out _).mono ?_; rintro e w1 ⟨g, gr, rfl, hL1, hb1, hg1, hg2⟩)
  refine (Feed_any g gr _ _ _ _ _ _ G hG hL1 (hS0.below hb1) hn hx.out (by simp; omega) (fun h ad he => by have := hblt.out h ad he; omega)).mono ?_
  rintro e w2 ⟨v, new, rfl, hown, hseg, hL2, hT2⟩
  rw [List.nil_append] at hseg hL2
  have hnew : new = segs G xs := by have := hseg.out; rw [show segs G [] = [] by unfold segs; rw [show ([] : List Int).length / G.B = 0 from Nat.zero_div _]; rfl, List.nil_append] at this; exact this.symm
  subst hnew
  clear hseg
  have hln := segs_len G xs
  rw [hS.len] at hln
  have hw1 := hb0.trans (hb1.mono hb0.size)
  have hw2 := hw1.trans (hT2.below (B := w.heap.size) (by have := hb0.size; omega) (by have := hb0.size; omega) hw1.size)
  obtain ⟨i0, hi, hz0, hz1, hz2⟩ := info_parts info_seg
  have hsz0 := hb0.size
  cases hs : (endM G xs).sp with
  | false =>
    have hla := Lib.hid (lastS_wait hs)
    have hs' := Lib.hid hs
    clear hs
    go_wp2_with fail
    refine (Close_wait g gr xs _ G hL2 hs'.out).mono ?_
    rintro e w3 ⟨rfl, hC, hT3⟩
    have hown3 := own_two hown hT3 (by have := Blk.lt hL1.lb; omega) (by obtain ⟨rs, hR, _⟩ := hL1.ring; exact hR.lt)
    have hw3 := hw2.trans (hT3.below (B := w.heap.size) (by omega) (by omega) hw2.size)
    go_wp2_with (at_builtin; refine wpList_append_own_none rfl (.tmp 35) (.tmp 36) 66 rfl w1.heap.size 84 i0 2 Try.underlying66 hi v (segs G xs).length (sgv (segs G xs)) rfl hown3 rfl ?_)
    obtain ⟨A3, c3, rfl, hSg⟩ := Sg.own hown3
    go_ret2
    exact ⟨A3, _, c3, rfl, by rw [hla.out, List.append_nil]; exact hSg, hw3⟩
  | true =>
    have hla := Lib.hid (lastS_speech hs)
    have hs' := Lib.hid hs
    clear hs
    go_wp2_with fail
    refine (Close_speech g gr xs _ G hG hL2 hs'.out).mono ?_
    rintro e w3 ⟨gl, rfl, hBl, hgl, hC, hT3⟩
    have hown3 := own_two hown hT3 (by have := Blk.lt hL1.lb; omega) (by obtain ⟨rs, hR, _⟩ := hL1.ring; exact hR.lt)
    have hw3 := hw2.trans (hT3.below (B := w.heap.size) (by omega) (by omega) hw2.size)
    generalize (endM G xs).first * (G.B : Int) = q1 at *
    generalize hq2 : (xs.length : Int) = q2 at *
    have hq2' := Lib.hid hq2
    clear hq2
    have hnews : ∀ j u, ([.int .i64 q1, .int .i64 q2] : List Value)[j]? = some u → w3.cell? ((⟨gl, 0, none⟩ : Addr).add j) = some u := fun j u hu => by
      rw [add_new, hBl.cell j]; simpa using hu
    have hnews := Lib.hid hnews
    go_wp2_with (at_builtin; refine wpList_append_own _ rfl (.tmp 35) (.tmp 36) 66 rfl w1.heap.size 84 i0 (.agg #[.int .i64 0, .int .i64 0]) 2 16 Try.underlying66 hi hz0 hz1 hz2 rfl (by decide) v (segs G xs).length (sgv (segs G xs)) rfl hown3 ⟨gl, 0, none⟩ 1 1 [.int .i64 q1, .int .i64 q2] rfl rfl hnews.out ?k2 ?k3 ?k4 ?k5 ?_)
    case k2 => intro u hu; simp at hu; rcases hu with rfl | rfl <;> rfl
    case k3 => unfold maxLen; omega
    case k4 => omega
    case k5 => have := hw3.size; have := hT2.size; have := hT3.size; omega
    intro v5 w5 hown5 hg5 _
    have hlen5 : (segs G xs ++ [(q1, q2)]).length = (segs G xs).length + 1 := by simp
    have hown6 : w5.ownsRow w1.heap.size 84 2 v5 (segs G xs ++ [(q1, q2)]).length (sgv (segs G xs ++ [(q1, q2)])) := by rw [hlen5, sgv_app]; exact hown5
    have hb5 : Below w.heap.size w w5 := hw3.grown hg5 hw3.size (fun k hk => Nat.le_trans hw1.size (hown3.lt k hk).1)
    obtain ⟨A5, c5, rfl, hSg⟩ := Sg.own hown6
    have hres : segs G xs ++ lastS G xs = segs G xs ++ [(q1, q2)] := by rw [hla.out]
    have hres := Lib.hid hres
    clear hown5 hlen5
    go_wp2
    go_ret2
    exact ⟨A5, _, c5, rfl, by rw [hres.out]; exact hSg, hb5⟩
end Go.Proofs.Ytobobbhifajhmaa
