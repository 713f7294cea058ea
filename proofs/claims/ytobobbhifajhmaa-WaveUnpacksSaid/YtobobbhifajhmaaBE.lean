/- Bytes: the document's own recording whose bytes are given. -/
import Derived.Test.YtobobbhifajhmaaBB
import Derived.Test.YtobobbhifajhmaaB4
namespace Go.Proofs.Ytobobbhifajhmaa
open Go.RowKit

theorem le_sg (x : Int) (h0 : 0 ≤ x) (h1 : x < 65536) : le (sg x) 2 = le x 2 := by
  rcases Int.lt_or_le x 32768 with h | h
  · rw [show sg x = x by unfold sg; omega]
  · rw [show x = (x - 65536) + 65536 by omega, le_neg, show sg (x - 65536 + 65536) = x - 65536 by unfold sg; omega]
theorem smp_rd {bs : List Int} (hb : byB bs) : ∀ q, 12 + 2 * q ≤ bs.length → smp (tab q (spA bs)) = (bs.drop 12).take (2 * q) := by
  intro q
  induction q with
  | zero => intro _; rfl
  | succ q ih =>
    intro h
    rw [tab_succ, smp, List.flatMap_append, ← smp, ih (by omega)]
    have hr := rd_bd (byB_drop hb (12 + 2 * q)) 2 (by rw [List.length_drop]; omega)
    have h2 : le (spA bs q) 2 = (bs.drop (12 + 2 * q)).take 2 := by
      unfold spA
      rw [le_sg _ hr.1 hr.2, le_rd (byB_drop hb _) (by rw [List.length_drop]; omega)]
    simp only [List.flatMap_cons, List.flatMap_nil, List.append_nil]
    rw [h2, ← List.drop_drop, show 2 * (q + 1) = 2 * q + 2 by omega, List.take_add]
theorem pk_wf {bs : List Int} (hb : byB bs) (hw : wfB bs = true) : pkB (rd (bs.drop 4) 4) (spL bs) = bs := by
  obtain ⟨q, hq, hq8, hm, hc⟩ := wf_len hw
  have hsp : spL bs = tab q (spA bs) := by unfold spL; rw [hq, show (16 + 2 * q - 16) / 2 = q by omega]
  have hhd : hdB (rd (bs.drop 4) 4) (spL bs) = bs.take (bs.length - 4) := by
    unfold hdB
    rw [hsp, tab_len, ← hq8, le_rd (byB_drop hb 4) (by rw [List.length_drop]; omega), le_rd (byB_drop hb 8) (by rw [List.length_drop]; omega), smp_rd hb q (by omega)]
    rw [show ([69, 65, 82, 49] : List Int) = bs.take 4 from hm.symm]
    rw [show bs.length - 4 = 4 + 4 + 4 + 2 * q by omega, List.take_add, List.take_add, List.take_add]
  unfold pkB
  rw [hhd, ← hc, le_rd (byB_drop hb _) (by rw [List.length_drop]; omega)]
  rw [show (bs.drop (bs.length - 4)).take 4 = bs.drop (bs.length - 4) from List.take_of_length_le (by rw [List.length_drop]; omega), List.take_append_drop]
theorem wf_iff {bs : List Int} (hb : byB bs) (hk : chkR (rd (bs.drop 4) 4) (spL bs) = 0) : wfB bs = decide (pkB (rd (bs.drop 4) 4) (spL bs) = bs) := by
  by_cases h : pkB (rd (bs.drop 4) 4) (spL bs) = bs
  · rw [decide_eq_true h]
    have := (pk_up hk).1
    rw [h] at this
    exact this
  · rw [decide_eq_false h]
    cases hw : wfB bs with
    | false => rfl
    | true => exact absurd (pk_wf hb hw) h
theorem pkB_by (rate : Int) (xs : List Int) : byB (pkB rate xs) := by unfold pkB; exact byB_app (hdB_by _ _) (le_by _ _)
end Go.Proofs.Ytobobbhifajhmaa
namespace Go.Proofs.Ytobobbhifajhmaa
open Go.RowKit

/-- operations that are looked at where they stand -/
abbrev mvF (x : Operand) : Op := Op.move x
abbrev bnF (b : BinOp) (t : TypeId) (x y : Operand) (u : TypeId) : Op := Op.binOp b t x y u
theorem ba_beq {a b : ByteArray} (h : (a.toList == b.toList) = true) : a = b := by
  rw [ba_of_list (eq_of_beq h), ← ba_of_list (rfl : b.toList = b.toList)]
/-- the call returned a recording and whether there is one -/
def RetRecB (w : World) (rate : Int) (ys : List Int) (b : Bool) (e : Ending) (w' : World) : Prop :=
  ∃ A m c, e = .returned (.tuple #[.agg #[.int .i64 rate, .slice A m c], .bool b]) ∧ Sl .i64 w' A m c ys ∧ Below w.heap.size w w' ∧ Hid (0 < m → ∀ ad, A = some ad → w.heap.size ≤ ad.block)

/-- bytes of an even number, at least 16, whose recording is not right or has other bytes -/
theorem up_no {bs : List Int} (hb : byB bs) (hn : bs.length ≤ 500000) (h : chkR (rd (bs.drop 4) 4) (spL bs) ≠ 0 ∨ pkB (rd (bs.drop 4) 4) (spL bs) ≠ bs) : upC bs = 4 ∧ upR bs = 0 ∧ upL bs = [] := by
  have hC : upC bs = 4 := by
    unfold upC upOk
    rw [if_neg (by omega)]
    have : (wfB bs && (chkR (rd (bs.drop 4) 4) (spL bs) == 0)) = false := by
      by_cases hk : chkR (rd (bs.drop 4) 4) (spL bs) = 0
      · rw [wf_iff hb hk, decide_eq_false (h.resolve_left (fun e => e hk)), Bool.false_and]
      · rw [show (chkR (rd (bs.drop 4) 4) (spL bs) == 0) = false by simpa using hk, Bool.and_false]
    rw [this]; rfl
  exact ⟨hC, by unfold upR; rw [hC]; rfl, by unfold upL; rw [hC]; rfl⟩
theorem up_yes {bs : List Int} (hb : byB bs) (hn : bs.length ≤ 500000) (hk : chkR (rd (bs.drop 4) 4) (spL bs) = 0) (hp : pkB (rd (bs.drop 4) 4) (spL bs) = bs) : upC bs = 0 ∧ upR bs = rd (bs.drop 4) 4 ∧ upL bs = spL bs := by
  have hC : upC bs = 0 := by
    unfold upC upOk
    rw [if_neg (by omega), wf_iff hb hk, decide_eq_true hp, hk]; rfl
  exact ⟨hC, by unfold upR; rw [hC]; rfl, by unfold upL; rw [hC]; rfl⟩
theorem up_odd {bs : List Int} (hn : bs.length ≤ 500000) (h : bs.length < 16 ∨ bs.length % 2 ≠ 0) : upC bs = 4 ∧ upR bs = 0 ∧ upL bs = [] := by
  have hw : wfB bs = false := by
    cases hw : wfB bs with
    | false => rfl
    | true =>
      obtain ⟨q, hq, _⟩ := wf_len hw
      omega
  have hC : upC bs = 4 := by unfold upC upOk; rw [if_neg (by omega), hw]; rfl
  exact ⟨hC, by unfold upR; rw [hC]; rfl, by unfold upL; rw [hC]; rfl⟩

set_option maxHeartbeats 1600000 in
set_option maxRecDepth 100000 in
theorem RUnpack_odd (A : Option Addr) (n c : Nat) (bs : List Int) (w : World) (h : Sl .u8 w A n c bs) (hn : n ≤ 8000) (ho : n < 16 ∨ n % 2 ≠ 0) :
    Calls Try.prog 29 #[.slice A n c] w (RetRecB w (upR bs) (upL bs) (upC bs == 0)) := by
  have hl := h.len
  have hcap := h.cap
  have htop := h.top
  obtain ⟨hC, hR, hL⟩ := up_odd (bs := bs) (by omega) (by rw [hl]; exact ho)
  rw [hC, hR, hL]
  clear hC hR hL hl
  have hw0 := (Below.refl w.heap.size w).alloc (Nat.le_refl _) (.cells #[.int .i64 0, .slice none 0 0] 24)
  have hR0 := Blk.new w 24 #[.int .i64 0, .slice none 0 0]
  have f0 := hR0.frozen 0
  have f1 := hR0.frozen 1
  have c0 := hR0.cell 0
  have c1 := hR0.cell 1
  rcases Nat.lt_or_ge n 16 with h16 | h16
  · have d0 : decide ((n : Int) < 16) = true := decide_eq_true (by omega)
    clear ho
    go_enter Try.func29, Try.ntmps29
    go_wp2
    exact ret_rec2 rfl rfl hR0 rfl ⟨none, 0, 0, rfl, Sl.nil _ _, hw0, fun h => absurd h (by omega)⟩
  · have d0 : decide ((n : Int) < 16) = false := decide_eq_false (by omega)
    have hm : (n : Int).tmod 2 = 1 := by
      rw [Int.tmod_eq_emod_of_nonneg (by omega)]; omega
    clear ho
    go_enter Try.func29, Try.ntmps29
    go_wp2
    exact ret_rec2 rfl rfl hR0 rfl ⟨none, 0, 0, rfl, Sl.nil _ _, hw0, fun h => absurd h (by omega)⟩

set_option maxHeartbeats 4000000 in
set_option maxRecDepth 100000 in
theorem RUnpack_even (A : Option Addr) (n c q : Nat) (bs : List Int) (w : World) (h : Sl .u8 w A n c bs) (hb : byB bs) (hn : n ≤ 8000) (hq : n = 16 + 2 * q) :
    Calls Try.prog 29 #[.slice A n c] w (RetRecB w (upR bs) (upL bs) (upC bs == 0)) := by
  obtain ⟨i0, hi, hz0, hz1, hz2⟩ := info_parts info_int
  have hl := Lib.hid h.len
  have hcap := h.cap
  have htop := h.top
  obtain ⟨ad, x, rfl, _, _⟩ := h.at_ (show 0 < n by omega)
  have hb := Lib.hid hb
  have hc4 : ¬ c = 4 := by omega
  have d0 : decide ((n : Int) < 16) = false := decide_eq_false (by omega)
  have hm : (n : Int).tmod 2 = 0 := by rw [Int.tmod_eq_emod_of_nonneg (by omega)]; omega
  have hn4 : (n : Int) - 4 = 12 + 2 * (q : Int) := by omega
  have hn16 : 16 ≤ n := by omega
  have hq' := Lib.hid hq
  clear hq
  have hw0 := (Below.refl w.heap.size w).alloc (Nat.le_refl _) (.cells #[.int .i64 0, .slice none 0 0] 24)
  have hR0 := Blk.new w 24 #[.int .i64 0, .slice none 0 0]
  have h1 := h.below hw0
  have hC4 := (h1.cut (m := 4) (by omega)).take (m := 4) (by omega)
  rw [if_neg hc4, Option.map_some] at hC4
  unfold Addr.add at hC4
  rw [if_neg (by decide)] at hC4
  have hs1 : (w.alloc (.cells #[.int .i64 0, .slice none 0 0] 24)).heap.size = w.heap.size + 1 := by simp
  go_enter Try.func29, Try.ntmps29
  go_wp2_with fail
  generalize w.alloc (.cells #[.int .i64 0, .slice none 0 0] 24) = w1 at *
  refine (Rget_any _ _ _ _ _ hC4 (byB_take (byB_drop hb.out 4) 4) (by omega)).mono ?_
  rintro e w' ⟨rfl, rfl⟩
  rw [← rd_rdf (by rw [List.length_drop, hl.out]; omega)]
  obtain ⟨rate, hrate⟩ : ∃ rate, rd (bs.drop 4) 4 = rate := ⟨_, rfl⟩
  rw [hrate]
  have hrate' := Lib.hid hrate
  clear hrate hC4 hm d0
  have hlt1 := hR0.lt
  have hS0 := Blk.new w1 24 #[.int .i64 rate, .slice none 0 0]
  rw [hs1] at hS0
  go_wp2
  go_loopw [5] (fun iv wr => ∃ (j F : Nat) (V : Value), iv = .int .i64 (F : Int) ∧ Hid (F = 12 + 2 * j) ∧ j ≤ q ∧ UpR w w.heap.size (w.heap.size + 1) rate V j (spA bs) wr) (fun iv _ => n + 2 - (intOf iv).toNat)
  case atStart => exact ⟨0, 12, _, rfl, rfl, Nat.zero_le _, ⟨hR0.alloc _, hS0, World.ownsRow_nil _ _ _ _, hw0.alloc (by omega) _⟩⟩
  case round =>
    obtain ⟨j, F, V, rfl, hF, hjq, ⟨hUo, hUs, hUown, hUb⟩⟩ := hrel
    rcases Nat.lt_or_ge j q with hlt | hge
    · have hr := h.below hUb
      have hd2 : F + 2 ≤ n := by have := hq'.out; have := hF.out; omega
      have hcF : ¬ c = F := by omega
      have hC := (hr.cut (m := F) (by omega)).take (m := 2) (by omega)
      rw [if_neg hcF, Option.map_some] at hC
      have hv := Lib.hid (show sg (rd (bs.drop F) 2) = spA bs j by rw [hF.out]; rfl)
      have hrb := rd_bd (byB_drop hb.out F) 2 (by rw [List.length_drop, hl.out]; omega)
      have hG := Lib.hid (Rget_any _ _ _ _ _ hC (byB_take (byB_drop hb.out F) 2) (by omega))
      rw [← rd_rdf (by rw [List.length_drop, hl.out]; omega)] at hG
      obtain ⟨rv, hrv⟩ : ∃ rv, rd (bs.drop F) 2 = rv := ⟨_, rfl⟩
      rw [hrv] at hv hrb hG
      have hb1 := hrb.1
      have hb2 : rv < 65536 := hrb.2
      have hF1 : (F : Int) < 12 + 2 * (q : Int) := by have := hF.out; omega
      have hF0 : ¬ F = 0 := by have := hF.out; omega
      have s0 : (0 : Int) ≤ (F : Int) := by omega
      have s1 : (F : Int) + 2 ≤ (n : Int) := by omega
      have s2 : (F : Int) + 2 ≤ (c : Int) := by omega
      clear hrb hrv hC
      have cs1 : wr.cell? ⟨w.heap.size + 1, 1, none⟩ = some V := hUs.cell 1
      have hszR := hUs.lt
      have hrow := Lib.hid (fun k (hk : V.ownBlock = some k) => (hUown.lt k hk).1)
      have hjn : j ≤ 250000 := by have := hq'.out; omega
      go_wp2_with fail
      refine hG.out.mono ?_
      rintro e w' ⟨rfl, rfl⟩
      by_cases hbig : 32767 < rv
      case' pos =>
        obtain ⟨sv, hsv⟩ : ∃ sv, rv - 65536 = sv := ⟨_, rfl⟩
        have hv2 := Lib.hid (show sv = spA bs j by rw [← hv.out]; unfold sg; omega)
        have hw1 : IntKind.i64.wrap (rv - 65536) = sv := by rw [hsv]; exact IntWalk.i64_in _ (by omega)
        clear hv hG
      case' neg =>
        obtain ⟨sv, hsv⟩ : ∃ sv, rv = sv := ⟨_, rfl⟩
        have hv2 := Lib.hid (show sv = spA bs j by rw [← hv.out]; unfold sg; omega)
        clear hv hG
      all_goals
        go_wp2_with (at_builtin; refine wpList_append_lies _ rfl (.tmp 39) (.tmp 41) 22 rfl (w.heap.size + 1 + 1) 3 i0 (.int .i64 0) 1 8 Try.underlying22 hi hz0 hz1 hz2 rfl (by decide) V j (ivs .i64 (tab j (spA bs))) rfl (hUown.alloc _) ⟨wr.heap.size, 0, none⟩ 1 1 [.int .i64 sv] rfl rfl (news_one _ _ _) (oneCell1 _) (by omega) (by unfold maxLen; omega) (by omega) (by simp; omega) _ rfl ?_)
        intro g cap w5 hown5 hgrow hat hlt5
        have hUs5 := (hUs.alloc (.cells #[.int .i64 sv] 3)).grown hgrow (fun e => by have := hrow.out _ e.symm; omega)
        have hUo5 := (hUo.alloc (.cells #[.int .i64 sv] 3)).grown hgrow (fun e => by have := hrow.out _ e.symm; omega)
        have sfc := hUs5.frozen 1
        have s1c := hUs5.cell 1
        have hb5 := ((hUb.alloc (o := .cells #[.int .i64 sv] 3) hUb.size).grown hgrow (by have := hUb.size; simp; omega) (fun k hk => by have := hrow.out k hk; omega)).setCell (p := ⟨w.heap.size + 1, 1, none⟩) (by simp) (.slice (some ⟨g, 0, none⟩) (j + 1) cap)
        have hown6 : (w5.setCell ⟨w.heap.size + 1, 1, none⟩ (.slice (some ⟨g, 0, none⟩) (j + 1) cap)).ownsRow (w.heap.size + 1 + 1) 3 1 (.slice (some ⟨g, 0, none⟩) (j + 1) cap) (j + 1) (ivs .i64 (tab (j + 1) (spA bs))) := by
          rw [tab_succ, ivs_snoc, ← hv2.out]
          exact own_same hown5 (fun j h1 _ => Below.heap_setCell w5 _ _ j (fun e => by dsimp only at e; omega))
        have hfin : UpR w w.heap.size (w.heap.size + 1) rate (.slice (some ⟨g, 0, none⟩) (j + 1) cap) (j + 1) (spA bs) (w5.setCell ⟨w.heap.size + 1, 1, none⟩ (.slice (some ⟨g, 0, none⟩) (j + 1) cap)) :=
          ⟨hUo5.far (by simp) _, hUs5.set_ 1 _, hown6, hb5⟩
        have hF2 : Hid (F + 2 = 12 + 2 * (j + 1)) := by have := hF.out; show _ = _; omega
        clear hown5 hown6 hb5
        go_wp2
        go_roundw
        case rel => exact ⟨j + 1, F + 2, _, by go_num, hF2, by omega, hfin⟩
        case measure => simp [intOf]; omega
    · have hjq' : j = q := by omega
      subst hjq'
      have hFn : ¬ (F : Int) < 12 + 2 * (j : Int) := by have := hF.out; omega
      obtain ⟨A2, c2, hV, hS2⟩ := Sl.of_own hUown
      have hfr2 := Lib.hid hUown.lt
      subst hV
      have hsp := Lib.hid (show spL bs = tab j (spA bs) by unfold spL; rw [hl.out, hq'.out, show (16 + 2 * j - 16) / 2 = j by omega])
      have hr := h.below hUb
      have hV := Lib.hid (fun (w9 : World) (h9 : Sl .i64 w9 A2 j c2 (tab j (spA bs))) => RValid_all rate A2 j c2 _ w9 h9)
      have hbd : Below wr.heap.size wr wr.drew := bel_drewN (Below.refl _ _) 1
      have hfr := Lib.hid (show 0 < j → ∀ ad, A2 = some ad → ad.block ≠ w.heap.size from fun _ ad he => by
        subst he
        have := (hfr2.out ad.block rfl).1
        omega)
      have hfrL : Hid (0 < j → ∀ ad, A2 = some ad → w.heap.size ≤ ad.block) := fun _ ad he => by
        subst he
        have := (hfr2.out ad.block rfl).1
        omega
      have hKeep := Lib.hid (fun (wx : World) (hb : Below wr.heap.size wr wx) => show wx.cell? ⟨w.heap.size + 1, 0, none⟩ = some (.int .i64 rate) ∧ wx.cell? ⟨w.heap.size + 1, 1, none⟩ = some (.slice A2 j c2) from ⟨(hUs.below hb).cell 0, (hUs.below hb).cell 1⟩)
      have hSlK := Lib.hid (fun (wx : World) (hb : Below wr.heap.size wr wx) => hS2.below hb)
      have r0 := (hKeep.out wr (Below.refl _ _)).1
      have r1 := (hKeep.out wr (Below.refl _ _)).2
      by_cases hk : chkR rate (tab j (spA bs)) = 0
      · have hP := Lib.hid (fun (w9 : World) (h9 : Sl .i64 w9 A2 j c2 (tab j (spA bs))) => RPack_ok rate A2 j c2 _ w9 h9 hk)
        have hdec : (∃ s2, strOfNums bs = s2 ∧ strOfNums (pkB rate (tab j (spA bs))) = s2 ∧ upC bs = 0 ∧ upR bs = rate ∧ upL bs = tab j (spA bs)) ∨ (∃ s1 s2, strOfNums bs = s2 ∧ strOfNums (pkB rate (tab j (spA bs))) = s1 ∧ (s1.toList == s2.toList) = false ∧ upC bs = 4 ∧ upR bs = 0 ∧ upL bs = []) := by
          by_cases hp : pkB rate (tab j (spA bs)) = bs
          · have := up_yes hb.out (by rw [hl.out]; omega) (by rw [hrate'.out, hsp.out]; exact hk) (by rw [hrate'.out, hsp.out]; exact hp)
            rw [hrate'.out, hsp.out] at this
            exact .inl ⟨_, rfl, by rw [hp], this⟩
          · refine .inr ⟨_, _, rfl, rfl, ?_, up_no hb.out (by rw [hl.out]; omega) (.inr (by rw [hrate'.out, hsp.out]; exact hp))⟩
            cases hq : ((strOfNums (pkB rate (tab j (spA bs)))).toList == (strOfNums bs).toList) with
            | false => rfl
            | true => exact absurd (str_inj (pkB_by _ _) hb.out (ba_beq hq)) hp
        rw [hk] at hV
        clear hk r0 r1
        rcases hdec with ⟨s2, hs2, hs1', hC, hR, hL⟩ | ⟨s1, s2, hs2, hs1', hne, hC, hR, hL⟩
        all_goals
          have hC := Lib.hid hC
          have hR := Lib.hid hR
          have hL := Lib.hid hL
          have hs1' := Lib.hid hs1'
          have hs2' := Lib.hid hs2
          clear hs2
          have hK6 := Lib.hid (fun (wx : World) (hb : Below wr.heap.size wr wx) => show (wx.cell? ⟨w.heap.size + 1, 0, none⟩ = some (.int .i64 rate) ∧ wx.cell? ⟨w.heap.size + 1, 1, none⟩ = some (.slice A2 j c2)) ∧ (convert 27 9 (.slice (some ad) n c)).run Try.prog wx = .ok (.string s2) wx from ⟨hKeep.out wx hb, by rw [← hs2'.out]; exact conv_sl (hr.below hb)⟩)
          go_wp2_with fail
          rw [show Op.convert 27 9 (Operand.tmp 49) = cvF 27 9 (Operand.tmp 49) from rfl]
          go_region_held3 (fun wx => (wx.cell? ⟨w.heap.size + 1, 0, none⟩ = some (.int .i64 rate) ∧ wx.cell? ⟨w.heap.size + 1, 1, none⟩ = some (.slice A2 j c2)) ∧ (convert 27 9 (.slice (some ad) n c)).run Try.prog wx = .ok (.string s2) wx) (first | exact hK6.out _ hb8 | exact hK6.out _ hbF | exact hK6.out _ hbd | go_keep)
            (first
              | (go_at_call 25; refine (hV.out _ (hSlK.out _ hbd)).mono ?_; rintro e wF ⟨rfl, hbA⟩; have hbF : Below wr.heap.size wr wF := hbd.trans (hbA.mono hbd.size))
              | (go_at_call 27; refine (hP.out _ (hSlK.out _ hbF)).mono ?_; rintro e w8 ⟨V8, rfl, hown8, hb8a⟩; obtain ⟨g8, c8, rfl, hg8, hlt8⟩ := hown8.form (by omega); have hb8 : Below wr.heap.size wr w8 := hbF.trans (hb8a.mono hbF.size); have hcv8 := conv_own hown8; rw [hs1'.out] at hcv8))
          all_goals
            have hS8 := hUs.below hb8
            have ho8 := hUo.below hb8
            have hU8 := hUb.trans (hb8.mono hUb.size)
            have hl8 := hS2.below hb8
            have f0 := ho8.frozen 0
            have f1 := ho8.frozen 1
            have c0 := ho8.cell 0
            have c1 := ho8.cell 1
            have k0 := (hKeep.out w8 hb8).1
            have k1 := (hKeep.out w8 hb8).2
            go_wp2
            first
              | exact ret_rec2 rfl rfl ((ho8.set_ 0 _).set_ 1 _) rfl ⟨A2, j, c2, by first | rfl | (rw [hC.out, hR.out]; rfl), by first | exact (hl8.farn hfr.out 0 _).farn hfr.out 1 _ | (rw [hL.out]; exact (hl8.farn hfr.out 0 _).farn hfr.out 1 _), (hU8.setCell (p := ⟨w.heap.size, 0, none⟩) (Nat.le_refl _) _).setCell (p := ⟨w.heap.size, 1, none⟩) (Nat.le_refl _) _, hfrL⟩
              | exact ret_rec2 rfl rfl ((ho8.set_ 0 _).set_ 1 _) rfl ⟨none, 0, 0, by first | rfl | (rw [hC.out, hR.out]; rfl), by first | exact Sl.nil _ _ | (rw [hL.out]; exact Sl.nil _ _), (hU8.setCell (p := ⟨w.heap.size, 0, none⟩) (Nat.le_refl _) _).setCell (p := ⟨w.heap.size, 1, none⟩) (Nat.le_refl _) _, fun h => absurd h (by omega)⟩
      · obtain ⟨hC, hR, hL⟩ := up_no hb.out (by rw [hl.out]; omega) (.inl (by rw [hrate'.out, hsp.out]; exact hk))
        have hkb : (chkR rate (tab j (spA bs)) == 0) = false := by simpa using hk
        rw [hkb] at hV
        have hC := Lib.hid hC
        have hR := Lib.hid hR
        have hL := Lib.hid hL
        clear hk hkb r0 r1
        go_wp2_with fail
        rw [show Op.convert 27 9 (Operand.tmp 49) = cvF 27 9 (Operand.tmp 49) from rfl, show Op.convert 27 9 (Operand.tmp 51) = cvF 27 9 (Operand.tmp 51) from rfl, show Op.move (Operand.tmp 0) = mvF (Operand.tmp 0) from rfl, show Op.binOp BinOp.neq 9 (Operand.tmp 50) (Operand.tmp 52) 9 = bnF BinOp.neq 9 (Operand.tmp 50) (Operand.tmp 52) 9 from rfl, show Op.load 24 (Operand.tmp 4) = ldF 24 (Operand.tmp 4) from rfl]
        go_region_held3 (fun wx => wx.cell? ⟨w.heap.size + 1, 0, none⟩ = some (.int .i64 rate) ∧ wx.cell? ⟨w.heap.size + 1, 1, none⟩ = some (.slice A2 j c2)) (first | exact hKeep.out _ hbF | exact hKeep.out _ hbd | go_keep)
          (first
            | (go_at_call 25; refine (hV.out _ (hSlK.out _ hbd)).mono ?_; rintro e wF ⟨rfl, hbA⟩; have hbF : Below wr.heap.size wr wF := hbd.trans (hbA.mono hbd.size)))
        all_goals
          have hoF := hUo.below hbF
          have hUF := hUb.trans (hbF.mono hUb.size)
          have f0 := hoF.frozen 0
          have f1 := hoF.frozen 1
          have c0 := hoF.cell 0
          have c1 := hoF.cell 1
          go_wp2
          exact ret_rec2 rfl rfl ((hoF.set_ 0 _).set_ 1 _) rfl ⟨none, 0, 0, by rw [hC.out, hR.out]; rfl, by rw [hL.out]; exact Sl.nil _ _, (hUF.setCell (p := ⟨w.heap.size, 0, none⟩) (Nat.le_refl _) _).setCell (p := ⟨w.heap.size, 1, none⟩) (Nat.le_refl _) _, fun h => absurd h (by omega)⟩

theorem RUnpack_any (A : Option Addr) (n c : Nat) (bs : List Int) (w : World) (h : Sl .u8 w A n c bs) (hb : byB bs) (hn : n ≤ 8000) :
    Calls Try.prog 29 #[.slice A n c] w (RetRecB w (upR bs) (upL bs) (upC bs == 0)) := by
  by_cases ho : n < 16 ∨ n % 2 ≠ 0
  · exact RUnpack_odd A n c bs w h hn ho
  · exact RUnpack_even A n c ((n - 16) / 2) bs w h hb hn (by omega)
end Go.Proofs.Ytobobbhifajhmaa
