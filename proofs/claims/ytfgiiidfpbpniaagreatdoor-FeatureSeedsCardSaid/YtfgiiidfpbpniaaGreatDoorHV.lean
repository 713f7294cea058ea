/- Centered vectors: the program's. -/
import Derived.Test.YtfgiiidfpbpniaaGreatDoorHM
namespace Go.Proofs.YtfgiiidfpbpniaaGreatDoor
open Go.RowKit

/-- a vector less the mean -/
def cenR (m : Nat) (vs : List (List Int)) (t : Nat) : List Int := tab m fun c => (vs.getD t []).getD c 0 - (meanL m vs).getD c 0
def cenL (vs : List (List Int)) : List (List Int) := (List.range vs.length).map (cenR (vs.headD []).length vs)
def cenC (vs : List (List Int)) : Int := if chk1 vs = 0 then (if chk1 (cenL vs) = 0 then 0 else 2) else chk1 vs
theorem meanL_bd {m : Nat} {vs : List (List Int)} (h : VecS m vs) (hn : 1 ≤ vs.length) (hn2 : vs.length ≤ 10000) (c : Nat) : -10485760000 ≤ (meanL m vs).getD c 0 ∧ (meanL m vs).getD c 0 ≤ 10485760000 := by
  rcases Nat.lt_or_ge c m with hc | hc
  · unfold meanL
    rw [tab_getD hc]
    have h1 := colS_bd (M := 1048576) (by decide) (fun x hx => (h x hx).2) c vs.length
    exact rnd_abs (b := (vs.length : Int)) (m := 10485760000) (by omega) (by omega) (by omega)
  · rw [getD_out (by unfold meanL; rw [tab_len]; exact hc)]
    omega

end Go.Proofs.YtfgiiidfpbpniaaGreatDoor


/- Centered vectors: the document's mean. -/
namespace Go.Proofs.YtfgiiidfpbpniaaGreatDoor
open Go.RowKit

set_option maxHeartbeats 1600000 in
set_option maxRecDepth 100000 in
theorem Rmean_any (A : Option Addr) (n c m : Nat) (vs : List (List Int)) (w : World) (h : Rr w A n c vs) (hn : 1 ≤ n) (hn2 : n ≤ 10000) (hm : m ≤ 64) (hu : VecS m vs) :
    Calls Tryz.prog 39 #[.slice A n c] w fun e w' =>
      ∃ g, e = .returned (.slice (some ⟨g, 0, none⟩) m m) ∧ Mk w' g 3 .i64 (meanL m vs) ∧ Below w.heap.size w w' ∧ w.heap.size ≤ g := by
  have hl := Lib.hid h.len
  have hcap := h.cap
  have htop := h.top
  have hbd := Lib.hid (fun c k => colS_bd (M := 1048576) (by decide) (fun x hx => (hu x hx).2) c k)
  have hu := Lib.hid hu
  obtain ⟨ad, B, L, C, x0, rfl, hc, hx0, hS0, _⟩ := h.at_ (i := 0) (by omega)
  have hLm : L = m := by rw [← hS0.len]; exact (hu.out x0 (List.mem_of_getElem? hx0.out)).1
  subst hLm
  have hc0 := hc
  rw [show ad.add 0 = ad from by unfold Addr.add; simp] at hc0
  have hmk := make_int L (by omega)
  have hR := Lib.hid (show meanL L vs = tab L fun c => rnd (colS vs c n) n by unfold meanL; rw [hl.out])
  have hn0 : 0 < n := by omega
  go_enter Tryz.func39, Tryz.ntmps39
  go_wp2
  clear hmk
  go_loopw [4] (fun iv wr => ∃ k : Nat, iv = .int .i64 k ∧ k ≤ L ∧ Fill w wr w.heap.size 3 L k fun c => rnd (colS vs c n) n) (fun iv _ => L - (intOf iv).toNat)
  case atStart => exact ⟨0, rfl, Nat.zero_le _, Fill.start (Below.refl _ _) rfl⟩
  case round =>
    obtain ⟨k, rfl, hkn, hF⟩ := hrel
    rcases Nat.lt_or_ge k L with hlt | hge
    · have hFA := hF.begin_ hlt
      go_wp2
      go_loopw [5] (fun iv w2 => ∃ i : Nat, iv = .int .i64 i ∧ i ≤ n ∧ FillA w w2 w.heap.size 3 L k (colS vs k i) fun c => rnd (colS vs c n) n) (fun iv _ => n - (intOf iv).toNat)
      case atStart => exact ⟨0, rfl, Nat.zero_le _, hFA⟩
      case round =>
        obtain ⟨i, rfl, hin, hG⟩ := hrel
        have hb1 := hbd.out k i
        rcases Nat.lt_or_ge i n with hil | hig
        · have hr := h.below hG.bel
          obtain ⟨ad2, B2, L2, C2, x, e2, hc2, hx, hS, _⟩ := hr.at_ hil
          injection e2 with e2
          subst e2
          have hum := hu.out x (List.mem_of_getElem? hx.out)
          have hL2 : L2 = L := by rw [← hS.len]; exact hum.1
          subst hL2
          obtain ⟨ax, y, rfl, hcy, hy⟩ := hS.at_ hlt
          have hyb := allB_get hum.2 (by rw [hum.1]; exact hlt) hy.out
          have hstep := Lib.hid (show colS vs k (i + 1) = colS vs k i + y by show sm i _ + (vs.getD i []).getD k 0 = _; rw [getD_some hx.out, hy.out]; rfl)
          generalize hS0 : colS vs k i = S at *
          clear hS0 hum
          have e3 : IntKind.i64.wrap (S + y) = S + y := IntWalk.i64_in _ (by omega)
          have hcell := hG.cell
          have i0 : (0 : Int) ≤ (k : Int) := by omega
          have i1 : (k : Int) < (L2 : Int) := by omega
          have i2 : (0 : Int) ≤ (i : Int) := by omega
          have i3 : (i : Int) < (n : Int) := by omega
          clear hb1 hyb
          go_wp2
          go_still_tail 14, (by kernel_rfl)
          change wpList _ _ _ _ _ (_ : World).drew
          have hG2 := hG.drewN 1
          change FillA w (_ : World).drew _ _ _ _ _ _ at hG2
          generalize (_ : World).drew = w3 at *
          have hcf := hG2.frozen k
          have hc3 := hG2.cell
          have hG4 := hG2.set_ (S + y)
          clear hcell hcy hc2
          go_wp2
          go_roundw
          case rel => exact ⟨i + 1, by go_num, hil, by rw [hstep.out]; exact hG4⟩
          case measure => simp [intOf]; omega
        · have hii : i = n := by omega
          subst hii
          have hcell := hG.cell
          have hcf := hG.frozen k
          have hF2 := Lib.hid ((hG.set_ (rnd (colS vs k i) i)).end_ rfl)
          generalize colS vs k i = S at *
          go_wp2_with fail
          refine (Round_any _ _ _ (by omega) (by omega) (by omega) (by omega)).mono ?_
          rintro e w' ⟨rfl, rfl⟩
          go_wp2
          go_roundw
          case rel => exact ⟨k + 1, by go_num, hlt, hF2.out⟩
          case measure => simp [intOf]; omega
    · have hkn' : k = L := by omega
      subst hkn'
      have hD := hF.whole
      go_wp2
      go_ret
      exact ⟨_, rfl, by rw [hR.out]; exact hD, hF.bel, Nat.le_refl _⟩
end Go.Proofs.YtfgiiidfpbpniaaGreatDoor


/- Lists of rows of the call's own; the document's centered vectors. -/
namespace Go.Proofs.YtfgiiidfpbpniaaGreatDoor
open Go.RowKit

theorem own_sep {W : World} {base base' e e' n m s s' : Nat} {v V : Value} {xs ys : List Value} (h : W.ownsRow base e s v n xs) (h' : W.ownsRow base' e' s' V m ys) (he : e ≠ e') : v.ownBlock = none ∨ v.ownBlock ≠ V.ownBlock := by
  rcases h.2 with ⟨rfl, _⟩ | ⟨g, cap, cur, rfl, h3, h4, _⟩
  · exact .inl rfl
  · rcases h'.2 with ⟨rfl, _⟩ | ⟨g', cap', cur', rfl, h3', h4', _⟩
    · exact .inr (by intro e9; cases e9)
    · refine .inr fun e9 => ?_
      injection e9 with e9
      subst e9
      exact blk_ne (cs := cur) (cs' := cur') h4 h4' he rfl
theorem own_nn {W : World} {base e n : Nat} {A : Option Addr} {c : Nat} {xs : List Value} (h : W.ownsRow base e 1 (.slice A n c) n xs) : A = none → c = 0 := by
  intro hA
  rcases h.2 with ⟨h2, _⟩ | ⟨g, cap, cur, h2, _⟩
  · injection h2 with _ _ h3
  · injection h2 with h3
    rw [hA] at h3
    cases h3
theorem Sl.cellAt {k : IntKind} {w : World} {ad : Addr} {n c : Nat} {xs : List Int} {j : Nat} {x : Int} (h : Sl k w (some ad) n c xs) (hj : j < n) (hx : xs.getD j 0 = x) : w.cell? (ad.add j) = some (.int k x) := by
  obtain ⟨ad2, y, e, hc, hy⟩ := h.at_ hj
  injection e with e
  subst e
  rw [hc, ← hx, hy.out]

/-- a list of the call's own; its rows are the call's own, too -/
structure OwnRr (W : World) (base : Nat) (V : Value) (k : Nat) (news : List Value) (vs : List (List Int)) : Prop where
  own : W.ownsRow base 44 1 V k news
  len : news.length = vs.length
  rows : ∀ (i : Nat) (v : Value), news[i]? = some v → ∃ x, vs[i]? = some (x : List Int) ∧ W.ownsRow base 3 1 v x.length (ivs .i64 x) ∧ x.length ≤ 17592186044416
theorem OwnRr.nil_ (W : World) (base : Nat) : OwnRr W base (.slice none 0 0) 0 [] [] := ⟨World.ownsRow_nil _ _ _ _, rfl, fun i v h => by simp at h⟩
theorem OwnRr.below {W W' : World} {base : Nat} {V : Value} {k : Nat} {news : List Value} {vs : List (List Int)} (h : OwnRr W base V k news vs) (hb : Below W.heap.size W W') : OwnRr W' base V k news vs :=
  ⟨own_bel h.own hb, h.len, fun i v hv => by
    obtain ⟨x, h1, h2, h3⟩ := h.rows i v hv
    exact ⟨x, h1, own_bel h2 hb, h3⟩⟩
theorem OwnRr.rr {W : World} {base : Nat} {V : Value} {k : Nat} {news : List Value} {vs : List (List Int)} (h : OwnRr W base V k news vs) : ∃ A c, V = .slice A k c ∧ Rr W A k c vs :=
  Rr.of_own h.own ⟨h.len, fun i v hv => by
    obtain ⟨x, h1, h2, h3⟩ := h.rows i v hv
    obtain ⟨A, c, rfl, hS⟩ := Sl.of_own h2
    exact ⟨A, x.length, c, x, rfl, h1, hS, own_nn h2, h3⟩⟩
/-- a row of the call's own is appended -/
theorem OwnRr.push {W w5 : World} {base : Nat} {V V1 s : Value} {k : Nat} {news : List Value} {vs : List (List Int)} {x : List Int} {o : Obj} (h : OwnRr W base V k news vs) (hs : W.ownsRow base 3 1 s x.length (ivs .i64 x)) (hx : x.length ≤ 17592186044416)
    (hown : w5.ownsRow base 44 1 V1 (k + 1) (news ++ [s])) (hgr : (W.alloc o).grownBy w5 V.ownBlock) : OwnRr w5 base V1 (k + 1) (news ++ [s]) (vs ++ [x]) :=
  ⟨hown, by simp [h.len], fun i v hv => by
    rcases Nat.lt_or_ge i news.length with hi | hi
    · rw [List.getElem?_append_left hi] at hv
      obtain ⟨y, h1, h2, h3⟩ := h.rows i v hv
      exact ⟨y, by rw [List.getElem?_append_left (by rw [← h.len]; exact hi)]; exact h1, (h2.alloc o).kept hgr (own_sep h2 h.own (by decide)), h3⟩
    · rw [List.getElem?_append_right hi] at hv
      have hlt := lt_of_some hv
      have hi0 : i - news.length = 0 := by simp at hlt; omega
      rw [hi0] at hv
      simp at hv
      subst hv
      refine ⟨x, ?_, (hs.alloc o).kept hgr (own_sep hs h.own (by decide)), hx⟩
      rw [List.getElem?_append_right (by rw [← h.len]; exact hi), ← h.len, hi0]
      rfl⟩

def RetRr (w : World) (n : Nat) (vs : List (List Int)) (e : Ending) (w' : World) : Prop := ∃ A c, e = .returned (.slice A n c) ∧ Rr w' A n c vs ∧ Below w.heap.size w w'
theorem own_mk {W : World} {g base : Nat} {xs : List Int} (h : Mk W g 3 .i64 xs) (hb : base ≤ g) (hx : xs.length ≤ 17592186044416) : W.ownsRow base 3 1 (.slice (some ⟨g, 0, none⟩) xs.length xs.length) xs.length (ivs .i64 xs) :=
  ⟨by rw [ivs_len]; omega, .inr ⟨g, xs.length, (ivs .i64 xs).toArray, rfl, hb, h, Nat.le_refl _, by unfold maxLen; omega, by rw [List.size_toArray, ivs_len]; omega, by
    rw [List.take_of_length_le]
    rw [ivs_len]; omega⟩⟩

end Go.Proofs.YtfgiiidfpbpniaaGreatDoor
