/- Centered vectors: the program's. -/
import Derived.Test.YtoljffghaklpdaaDoorHM
namespace Go.Proofs.YtoljffghaklpdaaDoor
open Go.RowKit

/-- a vector less the mean -/
def cenR (m : Nat) (vs : List (List Int)) (t : Nat) : List Int := tab m fun c => (vs.getD t []).getD c 0 - (meanL m vs).getD c 0
def cenL (vs : List (List Int)) : List (List Int) := (List.range vs.length).map (cenR (vs.headD []).length vs)
def cenC (vs : List (List Int)) : Int := if chk1 vs = 0 then (if chk1 (cenL vs) = 0 then 0 else 2) else chk1 vs
theorem meanL_bd {m : Nat} {vs : List (List Int)} (h : VecS m vs) (hn : 1 ≤ vs.length) (hn2 : vs.length ≤ 10000) (c : Nat) : -10485760000 ≤ (meanL m vs).getD c 0 ∧ (meanL m vs).getD c 0 ≤ 10485760000 := by
  rcases Nat.lt_or_ge c m with hc | hc
  · unfold meanL
    rw [tab_getD hc]
    have h1 := colS_bd (M := 1048576) (by decide) (fun x hx => (h x hx).2) c vs.length
    exact rnd_abs (b := (vs.length : Int)) (m := 10485760000) (by omega) (by omega) (by omega)
  · rw [getD_out (by unfold meanL; rw [tab_len]; exact hc)]
    omega

set_option maxHeartbeats 3200000 in
set_option maxRecDepth 100000 in
theorem Center_any (A : Option Addr) (n c : Nat) (vs : List (List Int)) (w : World) (h : Rr w A n c vs) :
    Calls Tryd.prog 41 #[.slice A n c] w fun e w' => (cenC vs = 0 ∧ Ret2B w n (cenL vs) e w') ∨ (cenC vs ≠ 0 ∧ RetN w (cenC vs) e w') := by
  have hl := Lib.hid h.len
  have hcap := h.cap
  have htop := h.top
  by_cases h0 : chk1 vs = 0
  · have hok := Lib.hid (chk1_ok h0)
    rw [hl.out] at hok
    have hC := Lib.hid (show cenC vs = if chk1 (cenL vs) = 0 then 0 else 2 by unfold cenC; rw [if_pos h0])
    have h0' := Lib.hid h0
    have hn := hok.out.1
    rcases Nat.eq_zero_or_pos n with hz | hpos
    · subst hz
      have hv0 : vs = [] := List.eq_nil_of_length_eq_zero hl.out
      have hc0 := Lib.hid (show cenC vs = 0 by rw [hv0]; rfl)
      have hcl := Lib.hid (show cenL vs = [] by rw [hv0]; rfl)
      clear h0 hv0
      go_enter Tryd.func41, Tryd.ntmps41
      go_wp2_with fail
      refine (check1_any w A 0 c vs h).mono ?_
      rintro e w1 ⟨rfl, hb1⟩
      rw [h0'.out]
      go_wp2
      go_ret2
      exact .inl ⟨hc0.out, none, 0, rfl, by rw [hcl.out]; exact Rr.nil _, hb1⟩
    have hmk := make_rows n (by omega)
    obtain ⟨m, hmm⟩ : ∃ m, (vs.headD []).length = m := ⟨_, rfl⟩
    have hcL := Lib.hid (show cenL vs = (List.range n).map (cenR m vs) by unfold cenL; rw [hl.out, hmm])
    have hm := hok.out.2.2 hpos
    have hvS := hok.out.2.1
    rw [hmm] at hm hvS
    have hmb := Lib.hid (fun c => meanL_bd hvS (by rw [hl.out]; exact hpos) (by rw [hl.out]; exact hn) c)
    have hvS := Lib.hid hvS
    have hn0 : ((n : Int) == 0) = false := by rw [beq_eq_false_iff_ne]; omega
    clear hok hmm
    go_enter Tryd.func41, Tryd.ntmps41
    go_wp2_with fail
    refine (check1_any w A n c vs h).mono ?_
    rintro e w1 ⟨rfl, hb1⟩
    rw [h0'.out]
    clear h0
    have h1 := h.below hb1
    go_wp2_with fail
    refine (mean_any A n c m vs w1 h1 hpos hn hm.2 (fun u hu => hvS.out u hu)).mono ?_
    rintro e w2 ⟨g2, rfl, hM2, hb12, hg2⟩
    have hb2 := hb1.trans (hb12.mono hb1.size)
    have h2 := h.below hb2
    have hml := Lib.hid (show (meanL m vs).length = m by unfold meanL; rw [tab_len])
    have hMS := hM2.sl hml.out (show m ≤ 140737488355328 by omega)
    go_wp2
    clear hmk
    have hst := RFill.start (n := n) (Below.refl w2.heap.size w2)
    go_loopw [27] (fun iv wr => ∃ t : Nat, iv = .int .i64 t ∧ t ≤ n ∧ RFill w2 wr w2.heap.size n t ((List.range t).map (cenR m vs))) (fun iv _ => n - (intOf iv).toNat)
    case atStart => exact ⟨0, rfl, Nat.zero_le _, hst⟩
    case round =>
      obtain ⟨t, rfl, ht, hF⟩ := hrel
      clear hst
      have hr := h2.below hF.bel
      rcases Nat.lt_or_ge t n with hlt | hge
      · have hMr := hMS.below hF.bel
        obtain ⟨ad, B, L, C, x, rfl, hc, hx, hS, hB0, hL0⟩ := hr.at_ hlt
        have hxv := Lib.hid (hvS.out x (List.mem_of_getElem? hx.out))
        have hLm : L = m := by rw [← hS.len]; exact hxv.out.1
        subst hLm
        have hcen := Lib.hid (show cenR L vs t = tab L fun i => x.getD i 0 - (meanL L vs).getD i 0 by unfold cenR; rw [getD_some hx.out])
        go_wp2_with fail
        refine (subtract_any _ _ _ _ _ _ _ _ hS hMr (by omega) (fun i hi => ?_)).mono ?_
        · have b1 := allB_get hxv.out.2 (j := i) (by rw [hxv.out.1]; exact hi) rfl
          have b2 := hmb.out i
          omega
        rintro e w4 ⟨g4, rfl, hM4, hb4, hg4⟩
        have hF4 := hF.below hb4
        have hd4 := hM4.sl (tab_len L _) (show L ≤ 140737488355328 by omega)
        have hcg := hF4.cell hlt
        have hfg := hF4.frozen t
        have hN := hF4.next hlt hd4 (fun e => by cases e) (by omega)
        have hN : RFill w2 (w4.setCell ⟨w2.heap.size, t, none⟩ (.slice (some ⟨g4, 0, none⟩) L L)) w2.heap.size n (t + 1) ((List.range (t + 1)).map (cenR L vs)) := by
          rw [List.range_succ, List.map_append]
          have : [t].map (cenR L vs) = [tab L fun i => x.getD i 0 - (meanL L vs).getD i 0] := by rw [List.map_cons, hcen.out]; rfl
          rw [this]
          exact hN
        have hN := Lib.hid hN
        go_wp2
        go_roundw
        case rel => exact ⟨t + 1, by go_num, hlt, hN.out⟩
        case measure => simp [intOf]; omega
      · have htn : t = n := by omega
        subst htn
        have hD := hF.done (by omega)
        rw [← hcL.out] at hD
        have hbw := hb2.trans (hF.bel.mono hb2.size)
        go_wp2_with fail
        refine (onlyVectors_any _ _ _ _ _ hD).mono ?_
        rintro e w7 (⟨hk, A7, c7, rfl, hR7, hb7⟩ | ⟨hk, rfl, hb7⟩)
        · have hk := Lib.hid hk
          have hb8 := hbw.trans (hb7.mono hbw.size)
          go_wp2
          go_ret2
          exact .inl ⟨by rw [hC.out, if_pos hk.out], _, _, rfl, hR7, hb8⟩
        · have hk := Lib.hid hk
          have hb8 := hbw.trans (hb7.mono hbw.size)
          go_wp2
          go_ret2
          exact .inr ⟨by rw [hC.out, if_neg hk.out]; decide, by rw [hC.out, if_neg hk.out]; rfl, hb8⟩
  · have h0' := Lib.hid h0
    have hC := Lib.hid (show cenC vs = chk1 vs by unfold cenC; rw [if_neg h0])
    have hne : (chk1 vs != 0) = true := by simp [h0]
    have hne2 : (chk1 vs == 0) = false := by simp [h0]
    go_enter Tryd.func41, Tryd.ntmps41
    go_wp2_with fail
    refine (check1_any w A n c vs h).mono ?_
    rintro e w1 ⟨rfl, hb1⟩
    go_wp2
    go_ret2
    exact .inr ⟨by rw [hC.out]; exact h0'.out, by rw [hC.out]; rfl, hb1⟩
end Go.Proofs.YtoljffghaklpdaaDoor


/- Centered vectors: the document's mean. -/
namespace Go.Proofs.YtoljffghaklpdaaDoor
open Go.RowKit

set_option maxHeartbeats 1600000 in
set_option maxRecDepth 100000 in
theorem Rmean_any (A : Option Addr) (n c m : Nat) (vs : List (List Int)) (w : World) (h : Rr w A n c vs) (hn : 1 ≤ n) (hn2 : n ≤ 10000) (hm : m ≤ 64) (hu : VecS m vs) :
    Calls Tryd.prog 81 #[.slice A n c] w fun e w' =>
      ∃ g, e = .returned (.slice (some ⟨g, 0, none⟩) m m) ∧ Mk w' g 3 .i64 (meanL m vs) ∧ Below w.heap.size w w' ∧ w.heap.size ≤ g := by
  have hl := Lib.hid h.len
  have hcap := h.cap
  have htop := h.top
  have hbd := Lib.hid (fun c k => colS_bd (M := 1048576) (by decide) (fun x hx => (hu x hx).2) c k)
  have hu := Lib.hid hu
  obtain ⟨ad, B, L, C, x0, rfl, hc, hx0, hS0, _⟩ := h.at_ (i := 0) (by omega)
  have hLm : L = m := by rw [← hS0.len]; exact (hu.out x0 (List.mem_of_getElem? hx0.out)).1
  subst hLm
  have hc0 := hc
  rw [show ad.add 0 = ad from by unfold Addr.add; simp] at hc0
  have hmk := make_int L (by omega)
  have hR := Lib.hid (show meanL L vs = tab L fun c => rnd (colS vs c n) n by unfold meanL; rw [hl.out])
  have hn0 : 0 < n := by omega
  go_enter Tryd.func81, Tryd.ntmps81
  go_wp2
  clear hmk
  go_loopw [4] (fun iv wr => ∃ k : Nat, iv = .int .i64 k ∧ k ≤ L ∧ Fill w wr w.heap.size 3 L k fun c => rnd (colS vs c n) n) (fun iv _ => L - (intOf iv).toNat)
  case atStart => exact ⟨0, rfl, Nat.zero_le _, Fill.start (Below.refl _ _) rfl⟩
  case round =>
    obtain ⟨k, rfl, hkn, hF⟩ := hrel
    rcases Nat.lt_or_ge k L with hlt | hge
    · have hFA := hF.begin_ hlt
      go_wp2
      go_loopw [5] (fun iv w2 => ∃ i : Nat, iv = .int .i64 i ∧ i ≤ n ∧ FillA w w2 w.heap.size 3 L k (colS vs k i) fun c => rnd (colS vs c n) n) (fun iv _ => n - (intOf iv).toNat)
      case atStart => exact ⟨0, rfl, Nat.zero_le _, hFA⟩
      case round =>
        obtain ⟨i, rfl, hin, hG⟩ := hrel
        have hb1 := hbd.out k i
        rcases Nat.lt_or_ge i n with hil | hig
        · have hr := h.below hG.bel
          obtain ⟨ad2, B2, L2, C2, x, e2, hc2, hx, hS, _⟩ := hr.at_ hil
          injection e2 with e2
          subst e2
          have hum := hu.out x (List.mem_of_getElem? hx.out)
          have hL2 : L2 = L := by rw [← hS.len]; exact hum.1
          subst hL2
          obtain ⟨ax, y, rfl, hcy, hy⟩ := hS.at_ hlt
          have hyb := allB_get hum.2 (by rw [hum.1]; exact hlt) hy.out
          have hstep := Lib.hid (show colS vs k (i + 1) = colS vs k i + y by show sm i _ + (vs.getD i []).getD k 0 = _; rw [getD_some hx.out, hy.out]; rfl)
          generalize hS0 : colS vs k i = S at *
          clear hS0 hum
          have e3 : IntKind.i64.wrap (S + y) = S + y := IntWalk.i64_in _ (by omega)
          have hcell := hG.cell
          have i0 : (0 : Int) ≤ (k : Int) := by omega
          have i1 : (k : Int) < (L2 : Int) := by omega
          have i2 : (0 : Int) ≤ (i : Int) := by omega
          have i3 : (i : Int) < (n : Int) := by omega
          clear hb1 hyb
          go_wp2
          go_still_tail 14, (by kernel_rfl)
          change wpList _ _ _ _ _ (_ : World).drew
          have hG2 := hG.drewN 1
          change FillA w (_ : World).drew _ _ _ _ _ _ at hG2
          generalize (_ : World).drew = w3 at *
          have hcf := hG2.frozen k
          have hc3 := hG2.cell
          have hG4 := hG2.set_ (S + y)
          clear hcell hcy hc2
          go_wp2
          go_roundw
          case rel => exact ⟨i + 1, by go_num, hil, by rw [hstep.out]; exact hG4⟩
          case measure => simp [intOf]; omega
        · have hii : i = n := by omega
          subst hii
          have hcell := hG.cell
          have hcf := hG.frozen k
          have hF2 := Lib.hid ((hG.set_ (rnd (colS vs k i) i)).end_ rfl)
          generalize colS vs k i = S at *
          go_wp2_with fail
          refine (Round_any _ _ _ (by omega) (by omega) (by omega) (by omega)).mono ?_
          rintro e w' ⟨rfl, rfl⟩
          go_wp2
          go_roundw
          case rel => exact ⟨k + 1, by go_num, hlt, hF2.out⟩
          case measure => simp [intOf]; omega
    · have hkn' : k = L := by omega
      subst hkn'
      have hD := hF.whole
      go_wp2
      go_ret
      exact ⟨_, rfl, by rw [hR.out]; exact hD, hF.bel, Nat.le_refl _⟩
end Go.Proofs.YtoljffghaklpdaaDoor


/- Lists of rows of the call's own; the document's centered vectors. -/
namespace Go.Proofs.YtoljffghaklpdaaDoor
open Go.RowKit

theorem own_sep {W : World} {base base' e e' n m s s' : Nat} {v V : Value} {xs ys : List Value} (h : W.ownsRow base e s v n xs) (h' : W.ownsRow base' e' s' V m ys) (he : e ≠ e') : v.ownBlock = none ∨ v.ownBlock ≠ V.ownBlock := by
  rcases h.2 with ⟨rfl, _⟩ | ⟨g, cap, cur, rfl, h3, h4, _⟩
  · exact .inl rfl
  · rcases h'.2 with ⟨rfl, _⟩ | ⟨g', cap', cur', rfl, h3', h4', _⟩
    · exact .inr (by intro e9; cases e9)
    · refine .inr fun e9 => ?_
      injection e9 with e9
      subst e9
      exact blk_ne (cs := cur) (cs' := cur') h4 h4' he rfl
theorem own_nn {W : World} {base e n : Nat} {A : Option Addr} {c : Nat} {xs : List Value} (h : W.ownsRow base e 1 (.slice A n c) n xs) : A = none → c = 0 := by
  intro hA
  rcases h.2 with ⟨h2, _⟩ | ⟨g, cap, cur, h2, _⟩
  · injection h2 with _ _ h3
  · injection h2 with h3
    rw [hA] at h3
    cases h3
theorem Sl.cellAt {k : IntKind} {w : World} {ad : Addr} {n c : Nat} {xs : List Int} {j : Nat} {x : Int} (h : Sl k w (some ad) n c xs) (hj : j < n) (hx : xs.getD j 0 = x) : w.cell? (ad.add j) = some (.int k x) := by
  obtain ⟨ad2, y, e, hc, hy⟩ := h.at_ hj
  injection e with e
  subst e
  rw [hc, ← hx, hy.out]

/-- a list of the call's own; its rows are the call's own, too -/
structure OwnRr (W : World) (base : Nat) (V : Value) (k : Nat) (news : List Value) (vs : List (List Int)) : Prop where
  own : W.ownsRow base 30 1 V k news
  len : news.length = vs.length
  rows : ∀ (i : Nat) (v : Value), news[i]? = some v → ∃ x, vs[i]? = some (x : List Int) ∧ W.ownsRow base 3 1 v x.length (ivs .i64 x) ∧ x.length ≤ 17592186044416
theorem OwnRr.nil_ (W : World) (base : Nat) : OwnRr W base (.slice none 0 0) 0 [] [] := ⟨World.ownsRow_nil _ _ _ _, rfl, fun i v h => by simp at h⟩
theorem OwnRr.below {W W' : World} {base : Nat} {V : Value} {k : Nat} {news : List Value} {vs : List (List Int)} (h : OwnRr W base V k news vs) (hb : Below W.heap.size W W') : OwnRr W' base V k news vs :=
  ⟨own_bel h.own hb, h.len, fun i v hv => by
    obtain ⟨x, h1, h2, h3⟩ := h.rows i v hv
    exact ⟨x, h1, own_bel h2 hb, h3⟩⟩
theorem OwnRr.rr {W : World} {base : Nat} {V : Value} {k : Nat} {news : List Value} {vs : List (List Int)} (h : OwnRr W base V k news vs) : ∃ A c, V = .slice A k c ∧ Rr W A k c vs :=
  Rr.of_own h.own ⟨h.len, fun i v hv => by
    obtain ⟨x, h1, h2, h3⟩ := h.rows i v hv
    obtain ⟨A, c, rfl, hS⟩ := Sl.of_own h2
    exact ⟨A, x.length, c, x, rfl, h1, hS, own_nn h2, h3⟩⟩
/-- a row of the call's own is appended -/
theorem OwnRr.push {W w5 : World} {base : Nat} {V V1 s : Value} {k : Nat} {news : List Value} {vs : List (List Int)} {x : List Int} {o : Obj} (h : OwnRr W base V k news vs) (hs : W.ownsRow base 3 1 s x.length (ivs .i64 x)) (hx : x.length ≤ 17592186044416)
    (hown : w5.ownsRow base 30 1 V1 (k + 1) (news ++ [s])) (hgr : (W.alloc o).grownBy w5 V.ownBlock) : OwnRr w5 base V1 (k + 1) (news ++ [s]) (vs ++ [x]) :=
  ⟨hown, by simp [h.len], fun i v hv => by
    rcases Nat.lt_or_ge i news.length with hi | hi
    · rw [List.getElem?_append_left hi] at hv
      obtain ⟨y, h1, h2, h3⟩ := h.rows i v hv
      exact ⟨y, by rw [List.getElem?_append_left (by rw [← h.len]; exact hi)]; exact h1, (h2.alloc o).kept hgr (own_sep h2 h.own (by decide)), h3⟩
    · rw [List.getElem?_append_right hi] at hv
      have hlt := lt_of_some hv
      have hi0 : i - news.length = 0 := by simp at hlt; omega
      rw [hi0] at hv
      simp at hv
      subst hv
      refine ⟨x, ?_, (hs.alloc o).kept hgr (own_sep hs h.own (by decide)), hx⟩
      rw [List.getElem?_append_right (by rw [← h.len]; exact hi), ← h.len, hi0]
      rfl⟩

def RetRr (w : World) (n : Nat) (vs : List (List Int)) (e : Ending) (w' : World) : Prop := ∃ A c, e = .returned (.slice A n c) ∧ Rr w' A n c vs ∧ Below w.heap.size w w'
theorem own_mk {W : World} {g base : Nat} {xs : List Int} (h : Mk W g 3 .i64 xs) (hb : base ≤ g) (hx : xs.length ≤ 17592186044416) : W.ownsRow base 3 1 (.slice (some ⟨g, 0, none⟩) xs.length xs.length) xs.length (ivs .i64 xs) :=
  ⟨by rw [ivs_len]; omega, .inr ⟨g, xs.length, (ivs .i64 xs).toArray, rfl, hb, h, Nat.le_refl _, by unfold maxLen; omega, by rw [List.size_toArray, ivs_len]; omega, by
    rw [List.take_of_length_le]
    rw [ivs_len]; omega⟩⟩

set_option maxHeartbeats 3200000 in
set_option maxRecDepth 100000 in
theorem RCenter_any (A : Option Addr) (n c m : Nat) (vs : List (List Int)) (w : World) (h : Rr w A n c vs) (hn : n ≤ 10000) (hm : m ≤ 64) (hu : VecS m vs) (hmm : 0 < n → (vs.headD []).length = m) :
    Calls Tryd.prog 44 #[.slice A n c] w (RetRr w n (cenL vs)) := by
  have hl := Lib.hid h.len
  have hcap := h.cap
  have htop := h.top
  have hcL := Lib.hid (show cenL vs = (List.range n).map (cenR m vs) by
    unfold cenL
    rw [hl.out]
    rcases Nat.eq_zero_or_pos n with e | e
    · subst e; rfl
    · rw [hmm e])
  have hmb := Lib.hid (fun (hp : 1 ≤ n) c => meanL_bd hu (by rw [hl.out]; exact hp) (by rw [hl.out]; exact hn) c)
  have hu := Lib.hid hu
  obtain ⟨i0, hi, hz0, hz1, hz2⟩ := info_parts info_sl
  clear hmm
  go_enter Tryd.func44, Tryd.ntmps44
  go_wp2
  go_loopw [3, 4] (fun ov iv wr => ∃ (t : Nat) (V : Value) (news : List Value), iv = .int .i64 t ∧ V = ov ∧ t ≤ n ∧ OwnRr wr w.heap.size V t news ((List.range t).map (cenR m vs)) ∧ Below w.heap.size w wr) (fun _ iv _ => n - (intOf iv).toNat)
  case atStart => exact ⟨0, _, [], rfl, rfl, Nat.zero_le _, OwnRr.nil_ _ _, Below.refl _ _⟩
  case round =>
    obtain ⟨t, V, news, rfl, rfl, htn, hO, hbel⟩ := hrel
    rcases Nat.lt_or_ge t n with hlt | hge
    · have hr := h.below hbel
      have hmb2 := Lib.hid (hmb.out (by omega))
      go_wp2_with fail
      refine (Rmean_any A n c m vs wr hr (by omega) hn hm hu.out).mono ?_
      rintro e w2 ⟨g, rfl, hM, hb2, hg⟩
      obtain ⟨ad, B, L, C, x, rfl, hc, hx, hS, hB0⟩ := hr.at_ hlt
      have hum := hu.out x (List.mem_of_getElem? hx.out)
      have hLm : L = m := by rw [← hS.len]; exact hum.1
      subst hLm
      have hxv := Lib.hid hum
      clear hum
      have e0 : meanL L vs = upd L 0 (fun i => (meanL L vs).getD i 0) (fun i => x.getD i 0 - (meanL L vs).getD i 0) := by
        rw [upd_zero]
        apply List.ext_getElem
        · unfold meanL; rw [tab_len, tab_len]
        · intro i a1 a2
          have := tab_getD (f := fun i => (meanL L vs).getD i 0) (i := i) (n := L) (by rw [tab_len] at a2; exact a2)
          rw [getD_in a2, getD_in a1] at this
          exact this.symm
      rw [e0] at hM
      clear e0
      have hcen := Lib.hid (show cenR L vs t = upd L L (fun i => (meanL L vs).getD i 0) (fun i => x.getD i 0 - (meanL L vs).getD i 0) by
        rw [upd_all]; unfold cenR; rw [getD_some hx.out])
      go_wp2
      go_loopw [6] (fun iv w3' => ∃ (k : Nat) (w3 : World), w3 = w3' ∧ iv = .int .i64 k ∧ k ≤ L ∧ Mk w3 g 3 .i64 (upd L k (fun i => (meanL L vs).getD i 0) (fun i => x.getD i 0 - (meanL L vs).getD i 0)) ∧ Below wr.heap.size wr w3) (fun iv _ => L - (intOf iv).toNat)
      case atStart => exact ⟨0, _, rfl, rfl, Nat.zero_le _, hM, hb2⟩
      case round =>
        obtain ⟨k, w3, rfl, rfl, hkn, hM3, hb3⟩ := hrel
        rcases Nat.lt_or_ge k L with hkl | hkg
        · have hc3 := (hb3.cell (World.block_lt_of_cell? _ _ hc)).trans hc
          have hS3 := hS.below hb3
          obtain ⟨ax, y, rfl, hcy, hy⟩ := hS3.at_ hkl
          have hcm := hM3.cell (i := k) (by rw [upd_len]; exact hkl)
          rw [upd_at hkl] at hcm
          have hyb := allB_get hxv.out.2 (by rw [hxv.out.1]; exact hkl) hy.out
          have hb9 := hmb2.out k
          obtain ⟨z, hz⟩ : ∃ z, (meanL L vs).getD k 0 = z := ⟨_, rfl⟩
          rw [hz] at hcm hb9
          have e3 : IntKind.i64.wrap (y - z) = y - z := IntWalk.i64_in _ (by omega)
          have j0 : (0 : Int) ≤ (k : Int) := by omega
          have j1 : (k : Int) < (L : Int) := by omega
          have j2 : (0 : Int) ≤ (t : Int) := by omega
          have j3 : (t : Int) < (n : Int) := by omega
          have hset := Lib.hid (show (upd L k (fun i => (meanL L vs).getD i 0) (fun i => x.getD i 0 - (meanL L vs).getD i 0)).set k (y - z) = upd L (k + 1) (fun i => (meanL L vs).getD i 0) (fun i => x.getD i 0 - (meanL L vs).getD i 0) by
            rw [← upd_set hkl, hy.out, hz])
          have hz := Lib.hid hz
          clear hyb hb9 hS hS3 hr
          go_wp2
          go_still_tail 14, (by kernel_rfl)
          change wpList _ _ _ _ _ (_ : World).drew
          have hM4 := hM3.drewN 1
          have hb4 := bel_drewN hb3 1
          change Mk (_ : World).drew _ _ _ _ at hM4
          change Below _ _ (_ : World).drew at hb4
          generalize (_ : World).drew = w4 at *
          have hcf := hM4.frozen k
          have hc4 := hM4.cell (i := k) (by rw [upd_len]; exact hkl)
          have hM5 := hM4.set_ k (y - z)
          rw [hset.out] at hM5
          have hb5 := hb4.setCell (p := ⟨g, k, none⟩) hg (.int .i64 (y - z))
          clear hcm hcy hc3 hM4
          go_wp2
          go_roundw
          case rel => exact ⟨k + 1, _, rfl, by go_num, hkl, hM5, hb5⟩
          case measure => simp [intOf]; omega
        · have hkn' : k = L := by omega
          subst hkn'
          have hc3 := (hb3.cell (World.block_lt_of_cell? _ _ hc)).trans hc
          rw [← hcen.out] at hM3
          have hcl : (cenR k vs t).length = k := by unfold cenR; exact tab_len _ _
          have hO3 := hO.below hb3
          obtain ⟨AV, cV, rfl⟩ := own_slice hO3.own
          have hs := own_mk (base := w.heap.size) hM3 (Nat.le_trans hbel.size hg) (by omega)
          rw [hcl] at hs
          have hb6 := hbel.trans (hb3.mono hbel.size)
          have hsrc := Lib.hid (src_lit w3 30 (some ⟨g, 0, none⟩) k k)
          have hbz : w.heap.size ≤ (w3.alloc (.cells #[.slice (some ⟨g, 0, none⟩) k k] 30)).heap.size := by have := hb6.size; simp; omega
          have hrow := Lib.hid (fun q (hq : (Value.slice AV t cV).ownBlock = some q) => (hO3.own.lt q hq).1)
          go_wp2_with (at_builtin; refine wpList_append_any rfl (.tmp 36) (.tmp 38) 46 rfl w.heap.size 30 i0 nilV 1 24 Tryd.underlying46 hi hz0 hz1 hz2 rfl (by decide) (.slice AV t cV) t news rfl (hO3.own.alloc _) (some ⟨w3.heap.size, 0, none⟩) 1 1 [.slice (some ⟨g, 0, none⟩) k k] rfl hsrc.out (by unfold maxLen; omega) (by omega) hbz ?_)
          intro V2 w5 h1 h2 h3
          have hO5 := OwnRr.push hO3 (x := cenR k vs t) (by rw [hcl]; exact hs) (by omega) h1 h2
          have hb7 : Below w.heap.size w w5 := (hb6.alloc hb6.size _).grown h2 hbz hrow.out
          clear h1 h2 h3 hsrc
          go_wp2
          go_roundw
          case rel => exact ⟨t + 1, V2, _, by go_num, rfl, hlt, by rw [List.range_succ, List.map_append]; exact hO5, hb7⟩
          case measure => simp [intOf]; omega
    · have htn' : t = n := by omega
      subst htn'
      obtain ⟨A2, c2, rfl, hR⟩ := hO.rr
      go_wp2
      go_ret
      exact ⟨A2, c2, rfl, by rw [hcL.out]; exact hR, hbel⟩
end Go.Proofs.YtoljffghaklpdaaDoor
