/- Bytes: the recording whose bytes are given. -/
import Derived.Test.YtoljffghaklpdaaGreatDoorHM
import Derived.Test.YtoljffghaklpdaaGreatDoorJA
import Derived.Test.YtoljffghaklpdaaGreatDoorZB7
namespace Go.Proofs.YtoljffghaklpdaaGreatDoor
open Go.RowKit

theorem wrap16 (n : Int) : IntKind.i16.wrap n = (n + 32768) % 65536 - 32768 := by
  simp [IntKind.wrap, IntKind.bits, IntKind.signed]
  split <;> omega
/-- a number of two bytes as a sample -/
def sg (x : Int) : Int := (x + 32768) % 65536 - 32768
def spA (bs : List Int) (j : Nat) : Int := sg (rd (bs.drop (12 + 2 * j)) 2)
def spL_w (bs : List Int) : List Int := tab ((bs.length - 16) / 2) (spA bs)
def upOk (bs : List Int) : Bool := wfB bs && (chkR (rd (bs.drop 4) 4) (spL_w bs) == 0)
def upC (bs : List Int) : Int := if 500000 < bs.length then 5 else if upOk bs then 0 else 4
def upR (bs : List Int) : Int := if upC bs = 0 then rd (bs.drop 4) 4 else 0
def upL (bs : List Int) : List Int := if upC bs = 0 then spL_w bs else []
theorem wf_len {bs : List Int} (h : wfB bs = true) : ∃ q : Nat, bs.length = 16 + 2 * q ∧ rd (bs.drop 8) 4 = (q : Int) ∧ bs.take 4 = mk4 ∧ rd (bs.drop (bs.length - 4)) 4 = ck (bs.take (bs.length - 4)) := by
  unfold wfB at h
  simp only [Bool.and_eq_true, decide_eq_true_eq] at h
  obtain ⟨h1, h2, h3, h4⟩ := h
  exact ⟨(bs.length - 16) / 2, by omega, by omega, h2, h4⟩

theorem Unpack_bad (A : Option Addr) (n c : Nat) (bs : List Int) (w : World) (h : Sl .u8 w A n c bs) (hb : byB bs) (hbad : 500000 < n ∨ (n ≤ 500000 ∧ wfB bs = false)) :
    Calls Tryz.prog 36 #[.slice A n c] w (RetRec w 0 [] (if 500000 < n then 5 else 4)) := by
  have hcap := h.cap
  have htop := h.top
  have hw0 := (Below.refl w.heap.size w).alloc (Nat.le_refl _) (.cells #[.int .i64 0, .slice none 0 0] 30)
  have hR0 := Blk.new w 30 #[.int .i64 0, .slice none 0 0]
  rcases hbad with hn | ⟨hn, hwf⟩
  · rw [if_pos hn]
    have f0 := hR0.frozen 0
    have f1 := hR0.frozen 1
    have c0 := hR0.cell 0
    have c1 := hR0.cell 1
    go_enter Tryz.func36, Tryz.ntmps36
    go_wp2
    exact ret_rec2 rfl rfl hR0 rfl ⟨none, 0, 0, rfl, Sl.nil _ _, hw0⟩
  · rw [if_neg (by omega)]
    have hwf := Lib.hid hwf
    have h1 := h.below hw0
    go_enter Tryz.func36, Tryz.ntmps36
    go_wp2_with fail
    generalize w.alloc (.cells #[.int .i64 0, .slice none 0 0] 30) = w1 at *
    refine (wf_any _ _ _ _ _ h1 hb hn).mono ?_
    rintro e w' ⟨k, he, rfl⟩
    rw [hwf.out] at he
    subst he
    have hR2 := hR0.drewN k
    have hw2 := bel_drewN hw0 k
    have f0 := hR2.frozen 0
    have f1 := hR2.frozen 1
    have c0 := hR2.cell 0
    have c1 := hR2.cell 1
    go_wp2
    exact ret_rec2 rfl rfl ((hR2.set_ 0 _).set_ 1 _) rfl ⟨none, 0, 0, rfl, Sl.nil _ _, (hw2.setCell (p := ⟨w.heap.size, 0, none⟩) (Nat.le_refl _) _).setCell (p := ⟨w.heap.size, 1, none⟩) (Nat.le_refl _) _⟩

/-- what Unpack returns of a rate and samples -/
def uR (rate : Int) (xs : List Int) : Int := if chkR rate xs = 0 then rate else 0
def uL (rate : Int) (xs : List Int) : List Int := if chkR rate xs = 0 then xs else []
def uC (rate : Int) (xs : List Int) : Int := if chkR rate xs = 0 then 0 else 4
/-- the head of a round: j samples are done -/
structure UpR (w : World) (go gs : Nat) (rate : Int) (V : Value) (j : Nat) (f : Nat → Int) (wr : World) : Prop where
  o : Blk wr go 30 #[.int .i64 0, .slice none 0 0]
  s : Blk wr gs 30 #[.int .i64 rate, V]
  own : wr.ownsRow (gs + 1) 3 1 V j (ivs .i64 (tab j f))
  bel : Below w.heap.size w wr

set_option maxHeartbeats 4000000 in
set_option maxRecDepth 100000 in
theorem Unpack_wf (A : Option Addr) (n c q : Nat) (bs : List Int) (w : World) (h : Sl .u8 w A n c bs) (hb : byB bs) (hn : n ≤ 500000) (hwf : wfB bs = true) (hq : n = 16 + 2 * q) :
    Calls Tryz.prog 36 #[.slice A n c] w (RetRec w (uR (rd (bs.drop 4) 4) (tab q (spA bs))) (uL (rd (bs.drop 4) 4) (tab q (spA bs))) (uC (rd (bs.drop 4) 4) (tab q (spA bs)))) := by
  obtain ⟨i0, hi, hz0, hz1, hz2⟩ := info_parts info_int
  have hl := Lib.hid h.len
  have hcap := h.cap
  have htop := h.top
  obtain ⟨ad, x, rfl, _, _⟩ := h.at_ (show 0 < n by omega)
  have hb := Lib.hid hb
  have hwf := Lib.hid hwf
  have hc4 : ¬ c = 4 := by omega
  have hn4 : (n : Int) - 4 = 12 + 2 * (q : Int) := by omega
  have hn16 : 16 ≤ n := by omega
  have hq' := Lib.hid hq
  clear hq
  have hw0 := (Below.refl w.heap.size w).alloc (Nat.le_refl _) (.cells #[.int .i64 0, .slice none 0 0] 30)
  have hR0 := Blk.new w 30 #[.int .i64 0, .slice none 0 0]
  have h1 := h.below hw0
  go_enter Tryz.func36, Tryz.ntmps36
  go_wp2_with fail
  generalize w.alloc (.cells #[.int .i64 0, .slice none 0 0] 30) = w1 at *
  refine (wf_any _ _ _ _ _ h1 hb.out hn).mono ?_
  rintro e w' ⟨k, he, rfl⟩
  rw [hwf.out] at he
  subst he
  have hR2 := hR0.drewN k
  have hw2 := bel_drewN hw0 k
  have h2 := h1.drewN k
  clear hR0 hw0 h1
  generalize w1.drewN k = w2 at *
  have hC4 := h2.cut (m := 4) (by omega)
  rw [if_neg hc4, Option.map_some] at hC4
  unfold Addr.add at hC4
  rw [if_neg (by decide)] at hC4
  go_wp2_with fail
  refine (read_at _ _ _ _ 4 4 rfl _ hC4 (byB_drop hb.out 4) (by omega) (by omega)).mono ?_
  rintro e w' ⟨rfl, rfl⟩
  obtain ⟨rate, hrate⟩ : ∃ rate, rd (bs.drop 4) 4 = rate := ⟨_, rfl⟩
  rw [hrate]
  have hrate' := Lib.hid hrate
  clear hrate hC4
  have hlt2 := hR2.lt
  go_wp2
  go_loopw [5] (fun iv wr => ∃ (j F : Nat) (V : Value), iv = .int .i64 (F : Int) ∧ Hid (F = 12 + 2 * j) ∧ j ≤ q ∧ UpR w w.heap.size w2.heap.size rate V j (spA bs) wr) (fun iv _ => n + 2 - (intOf iv).toNat)
  case atStart => exact ⟨0, 12, _, rfl, rfl, Nat.zero_le _, hR2.alloc _, Blk.new _ _ _, World.ownsRow_nil _ _ _ _, hw2.alloc hw2.size _⟩
  case round =>
    obtain ⟨j, F, V, rfl, hF, hjq, ⟨hUo, hUs, hUown, hUb⟩⟩ := hrel
    rcases Nat.lt_or_ge j q with hlt | hge
    · have hr := h.below hUb
      have hd2 : F + 2 ≤ n := by have := hq'.out; have := hF.out; omega
      have hcj : ¬ c = F := by omega
      have hC := hr.cut (m := F) (by omega)
      rw [if_neg hcj, Option.map_some] at hC
      have hv := Lib.hid (show sg (rd (bs.drop F) 2) = spA bs j by rw [hF.out]; rfl)
      have hrb := rd_bd (byB_drop hb.out F) 2 (by rw [List.length_drop, hl.out]; omega)
      have hRd := Lib.hid (fun (w9 : World) (h9 : Sl .u8 w9 (some (ad.add F)) (n - F) (c - F) (bs.drop F)) => read_at _ _ _ _ 2 2 rfl w9 h9 (byB_drop hb.out _) (by omega) (by omega))
      obtain ⟨rv, hrv⟩ : ∃ rv, rd (bs.drop F) 2 = rv := ⟨_, rfl⟩
      rw [hrv] at hv hrb hRd
      have hb1 := hrb.1
      have hb2 : rv < 65536 := hrb.2
      have hF1 : (F : Int) < 12 + 2 * (q : Int) := by have := hF.out; omega
      have hF0 : ¬ F = 0 := by have := hF.out; omega
      have s0 : (0 : Int) ≤ (F : Int) := by omega
      have s1 : (F : Int) ≤ (n : Int) := by omega
      have s2 : (F : Int) ≤ (c : Int) := by omega
      clear hrb hrv
      have sgv1 : IntKind.i16.wrap rv = sg rv := wrap16 rv
      have sgb : -32768 ≤ sg rv ∧ sg rv ≤ 32767 := by unfold sg; omega
      obtain ⟨sv, hsv⟩ : ∃ sv, sg rv = sv := ⟨_, rfl⟩
      rw [hsv] at sgv1 sgb hv
      have sgb1 := sgb.1
      have sgb2 := sgb.2
      have sgv2 : IntKind.i64.wrap sv = sv := IntWalk.i64_in _ (by omega)
      clear hsv sgb
      have cs1 : wr.cell? ⟨w2.heap.size, 1, none⟩ = some V := hUs.cell 1
      have cs1d : wr.drew.cell? ⟨w2.heap.size, 1, none⟩ = some V := hUs.cell 1
      have hCd := hC.drew
      have hown2 : wr.drew.ownsRow (w2.heap.size + 1) 3 1 V j (ivs .i64 (tab j (spA bs))) := hUown
      have hszR := hUs.lt
      have hrow := Lib.hid (fun k (hk : V.ownBlock = some k) => (hown2.lt k hk).1)
      have hUs2 := (hUs.drewN 1).alloc (.cells #[.int .i64 sv] 3)
      have cs1a : (wr.drew.alloc (.cells #[.int .i64 sv] 3)).cell? ⟨w2.heap.size, 1, none⟩ = some V := hUs2.cell 1
      have hUo2 := (hUo.drewN 1).alloc (.cells #[.int .i64 sv] 3)
      have hjn : j ≤ 250000 := by have := hq'.out; omega
      go_wp2_with fail
      rw [show Op.load 28 (Operand.tmp 25) = ldF 28 (Operand.tmp 25) from rfl]
      go_region_held3 (fun _ => True) (first | exact trivial | go_keep)
        (first
          | (go_at_call 91; refine (hRd.out _ hCd).mono ?_; rintro e w' ⟨rfl, rfl⟩)
          | (refine step_append_lies _ (by rfl) _ _ _ (by rfl) (w2.heap.size + 1) 3 i0 (.int .i64 0) 1 8 Tryz.underlying28 hi hz0 hz1 hz2 (by rfl) (by decide) V j (ivs .i64 (tab j (spA bs))) (by rfl) (hown2.alloc _) ⟨wr.heap.size, 0, none⟩ 1 1 [.int .i64 sv] (by rfl) (by rfl) (news_one _ _ _) (oneCell1 _) (by omega) (by unfold maxLen; omega) (by omega) (by simp; omega) _ rfl ?_; intro g cap w5 hown5 hgrow hat hlt5; have hUs5 := hUs2.grown hgrow (fun e => by have := hrow.out _ e.symm; omega); have s1c := hUs5.cell 1; have sfc := hUs5.frozen 1))
      all_goals
        have hUo5 := hUo2.grown hgrow (fun e => by have := hrow.out _ e.symm; omega)
        have hb5 := (((bel_drewN hUb 1).alloc (o := .cells #[.int .i64 sv] 3) (bel_drewN hUb 1).size).grown hgrow (by have := hUb.size; simp; omega) (fun k hk => by have := hrow.out k hk; have := hw2.size; omega)).setCell (p := ⟨w2.heap.size, 1, none⟩) hw2.size (.slice (some ⟨g, 0, none⟩) (j + 1) cap)
        have hown6 : (w5.setCell ⟨w2.heap.size, 1, none⟩ (.slice (some ⟨g, 0, none⟩) (j + 1) cap)).ownsRow (w2.heap.size + 1) 3 1 (.slice (some ⟨g, 0, none⟩) (j + 1) cap) (j + 1) (ivs .i64 (tab (j + 1) (spA bs))) := by
          rw [tab_succ, ivs_snoc, ← hv.out]
          exact own_same hown5 (fun j h1 _ => Below.heap_setCell w5 _ _ j (fun e => by dsimp only at e; omega))
        have hfin : UpR w w.heap.size w2.heap.size rate (.slice (some ⟨g, 0, none⟩) (j + 1) cap) (j + 1) (spA bs) (w5.setCell ⟨w2.heap.size, 1, none⟩ (.slice (some ⟨g, 0, none⟩) (j + 1) cap)) :=
          ⟨hUo5.far (by simp; omega) _, hUs5.set_ 1 _, hown6, hb5⟩
        have hF2 : Hid (F + 2 = 12 + 2 * (j + 1)) := by have := hF.out; show _ = _; omega
        clear hown5 hown6 hb5 s1c sfc
        go_wp2
        go_roundw
        case rel => exact ⟨j + 1, F + 2, _, by go_num, hF2, by omega, hfin⟩
        case measure => simp [intOf]; omega
    · have hjq' : j = q := by omega
      subst hjq'
      have hFn : ¬ (F : Int) < 12 + 2 * (j : Int) := by have := hF.out; omega
      obtain ⟨A2, c2, hV, hS2⟩ := Sl.of_own hUown
      have hfr2 := Lib.hid hUown.lt
      subst hV
      have k0 : wr.cell? ⟨w2.heap.size, 0, none⟩ = some (.int .i64 rate) := hUs.cell 0
      have k1 : wr.cell? ⟨w2.heap.size, 1, none⟩ = some (.slice A2 j c2) := hUs.cell 1
      go_wp2_with fail
      refine (Valid_any _ _ _ _ _ _ hS2).mono ?_
      rintro e w7 ⟨rfl, hb7⟩
      clear k0 k1
      have hUo7 := hUo.below hb7
      have hUs7 := hUs.below hb7
      have hS7 := hS2.below hb7
      have hU7 := hUb.trans (hb7.mono hUb.size)
      have o0 := hUo7.cell 0
      have o1 := hUo7.cell 1
      have f0 := hUo7.frozen 0
      have f1 := hUo7.frozen 1
      have k0 : w7.cell? ⟨w2.heap.size, 0, none⟩ = some (.int .i64 rate) := hUs7.cell 0
      have k1 : w7.cell? ⟨w2.heap.size, 1, none⟩ = some (.slice A2 j c2) := hUs7.cell 1
      have hfr := Lib.hid (show 0 < j → ∀ ad, A2 = some ad → ad.block ≠ w.heap.size from fun _ ad he => by
        subst he
        have := (hfr2.out ad.block rfl).1
        omega)
      by_cases hk : chkR rate (tab j (spA bs)) = 0
      case' pos =>
        have e1 := Lib.hid (show uR rate (tab j (spA bs)) = rate by unfold uR; rw [if_pos hk])
        have e2 := Lib.hid (show uL rate (tab j (spA bs)) = tab j (spA bs) by unfold uL; rw [if_pos hk])
        have e3 := Lib.hid (show uC rate (tab j (spA bs)) = 0 by unfold uC; rw [if_pos hk])
        rw [hk]
        clear hk
        go_wp2
        exact ret_rec2 rfl rfl ((hUo7.set_ 0 _).set_ 1 _) rfl ⟨A2, j, c2, by rw [hrate'.out, e1.out, e3.out]; rfl, by rw [hrate'.out, e2.out]; exact (hS7.farn hfr.out 0 _).farn hfr.out 1 _, (hU7.setCell (p := ⟨w.heap.size, 0, none⟩) (Nat.le_refl _) _).setCell (p := ⟨w.heap.size, 1, none⟩) (Nat.le_refl _) _⟩
      case' neg =>
        have e1 := Lib.hid (show uR rate (tab j (spA bs)) = 0 by unfold uR; rw [if_neg hk])
        have e2 := Lib.hid (show uL rate (tab j (spA bs)) = [] by unfold uL; rw [if_neg hk])
        have e3 := Lib.hid (show uC rate (tab j (spA bs)) = 4 by unfold uC; rw [if_neg hk])
        have hkb : (chkR rate (tab j (spA bs)) == 0) = false := by simpa using hk
        rw [hkb]
        clear hk hkb
        go_wp2
        exact ret_rec2 rfl rfl ((hUo7.set_ 0 _).set_ 1 _) rfl ⟨none, 0, 0, by rw [hrate'.out, e1.out, e3.out]; rfl, by rw [hrate'.out, e2.out]; exact Sl.nil _ _, (hU7.setCell (p := ⟨w.heap.size, 0, none⟩) (Nat.le_refl _) _).setCell (p := ⟨w.heap.size, 1, none⟩) (Nat.le_refl _) _⟩

theorem Unpack_any (A : Option Addr) (n c : Nat) (bs : List Int) (w : World) (h : Sl .u8 w A n c bs) (hb : byB bs) :
    Calls Tryz.prog 36 #[.slice A n c] w (RetRec w (upR bs) (upL bs) (upC bs)) := by
  have hl := h.len
  rcases Nat.lt_or_ge 500000 n with hn | hn
  · have hC : upC bs = 5 := by unfold upC; rw [if_pos (by omega)]
    have hR : upR bs = 0 := by unfold upR; rw [hC]; rfl
    have hL : upL bs = [] := by unfold upL; rw [hC]; rfl
    have := Unpack_bad A n c bs w h hb (.inl hn)
    rw [if_pos hn] at this
    rw [hC, hR, hL]
    exact this
  · cases hwf : wfB bs with
    | false =>
      have hC : upC bs = 4 := by unfold upC upOk; rw [if_neg (by omega), hwf]; rfl
      have hR : upR bs = 0 := by unfold upR; rw [hC]; rfl
      have hL : upL bs = [] := by unfold upL; rw [hC]; rfl
      have := Unpack_bad A n c bs w h hb (.inr ⟨hn, hwf⟩)
      rw [if_neg (by omega)] at this
      rw [hC, hR, hL]
      exact this
    | true =>
      obtain ⟨q, hq, _⟩ := wf_len hwf
      have hsp : spL_w bs = tab q (spA bs) := by unfold spL_w; rw [hq, show (16 + 2 * q - 16) / 2 = q by omega]
      have := Unpack_wf A n c q bs w h hb hn hwf (by omega)
      rw [← hsp] at this
      by_cases hk : chkR (rd (bs.drop 4) 4) (spL_w bs) = 0
      · have hC : upC bs = 0 := by unfold upC upOk; rw [if_neg (by omega), hwf, hk]; rfl
        have hR : upR bs = rd (bs.drop 4) 4 := by unfold upR; rw [hC]; rfl
        have hL : upL bs = spL_w bs := by unfold upL; rw [hC]; rfl
        unfold uR uL uC at this
        rw [if_pos hk, if_pos hk, if_pos hk] at this
        rw [hC, hR, hL]
        exact this
      · have hkb : (chkR (rd (bs.drop 4) 4) (spL_w bs) == 0) = false := by simpa using hk
        have hC : upC bs = 4 := by unfold upC upOk; rw [if_neg (by omega), hwf, hkb]; rfl
        have hR : upR bs = 0 := by unfold upR; rw [hC]; rfl
        have hL : upL bs = [] := by unfold upL; rw [hC]; rfl
        unfold uR uL uC at this
        rw [if_neg hk, if_neg hk, if_neg hk] at this
        rw [hC, hR, hL]
        exact this
end Go.Proofs.YtoljffghaklpdaaGreatDoor


/- Bytes: what is packed is read back, and no change of a single byte is overlooked. -/
namespace Go.Proofs.YtoljffghaklpdaaGreatDoor
open Go.RowKit

theorem rd_mod {x : Int} {k : Nat} {rest : List Int} : ∀ j, j ≤ k → rd (le x k ++ rest) j = x % 256 ^ j := by
  intro j
  induction j with
  | zero => intro _; show (0 : Int) = x % 1; omega
  | succ j ih =>
    intro hj
    show rd (le x k ++ rest) j + (le x k ++ rest).getD j 0 * 256 ^ j = _
    rw [ih (by omega)]
    have hg : (le x k ++ rest).getD j 0 = byt x j := by
      rw [← tab_getD (f := byt x) (show j < k by omega)]
      simp [List.getD_eq_getElem?_getD, List.getElem?_append, le, tab_len, show j < k by omega]
    rw [hg]
    unfold byt
    have hp := pow256 j
    rw [Int.pow_succ]
    have e2 := Int.mul_ediv_add_emod x (256 ^ j)
    have e1 := Int.mul_ediv_add_emod x (256 ^ j * 256)
    have e3 := Int.mul_ediv_add_emod (x / 256 ^ j) 256
    have e4 : x / 256 ^ j / 256 = x / (256 ^ j * 256) := by rw [← Int.pow_succ]; exact shift256 x j
    rw [e4] at e3
    generalize x / (256 ^ j * 256) = q at *
    generalize x / 256 ^ j = y at *
    generalize y % 256 = z at *
    rw [← e3] at e2
    have e5 : 256 ^ j * (256 * q + z) = 256 ^ j * 256 * q + z * 256 ^ j := by rw [Int.mul_add, ← Int.mul_assoc, Int.mul_comm _ z]
    rw [e5] at e2
    omega

/-- two sums that are equal begin with equal ones -/
theorem ckS_inj {c c' b : Int} (h0 : 0 ≤ c) (h1 : c ≤ 4294967295) (h2 : 0 ≤ c') (h3 : c' ≤ 4294967295) (h : ckS c b = ckS c' b) : c = c' := by
  unfold ckS at h
  have e1 := Int.mul_ediv_add_emod (65599 * c + b + 1) 4294967296
  have e2 := Int.mul_ediv_add_emod (65599 * c' + b + 1) 4294967296
  rw [h] at e1
  generalize (65599 * c + b + 1) / 4294967296 = p at e1
  generalize (65599 * c' + b + 1) / 4294967296 = p' at e2
  generalize (65599 * c' + b + 1) % 4294967296 = r at e1 e2
  clear h
  have hk : 65599 * c - 65599 * c' = 4294967296 * (p - p') := by rw [Int.mul_sub]; omega
  generalize p - p' = k at hk
  clear e1 e2
  have hd : (4294967296 : Int) ∣ 65599 * (c - c') := ⟨k, by rw [Int.mul_sub]; exact hk⟩
  clear hk
  have hn := Int.natAbs_dvd_natAbs.2 hd
  rw [Int.natAbs_mul] at hn
  have hn2 : (4294967296 : Int) ∣ c - c' := Int.natAbs_dvd_natAbs.1 (Nat.Coprime.dvd_of_dvd_mul_left (by decide) hn)
  obtain ⟨Z, hZ⟩ := hn2
  clear hd hn
  omega
theorem ckS_byte {c a b : Int} (ha : 0 ≤ a ∧ a ≤ 255) (hb : 0 ≤ b ∧ b ≤ 255) (h : ckS c a = ckS c b) : a = b := by
  unfold ckS at h
  omega
theorem fold_inj : ∀ {bs : List Int} {c c' : Int}, 0 ≤ c → c ≤ 4294967295 → 0 ≤ c' → c' ≤ 4294967295 → bs.foldl ckS c = bs.foldl ckS c' → c = c'
  | [], _, _, _, _, _, _, h => h
  | b :: bs, c, c', h0, h1, h2, h3, h => by
    have k1 := ckS_bd c b
    have k2 := ckS_bd c' b
    exact ckS_inj h0 h1 h2 h3 (fold_inj (bs := bs) k1.1 k1.2 k2.1 k2.2 h)
theorem ck_byte {l1 l2 : List Int} {a b : Int} (ha : 0 ≤ a ∧ a ≤ 255) (hb : 0 ≤ b ∧ b ≤ 255) (h : ck (l1 ++ a :: l2) = ck (l1 ++ b :: l2)) : a = b := by
  unfold ck at h
  rw [List.foldl_append, List.foldl_append] at h
  have k1 := ckS_bd (l1.foldl ckS 1) a
  have k2 := ckS_bd (l1.foldl ckS 1) b
  exact ckS_byte ha hb (fold_inj (bs := l2) k1.1 k1.2 k2.1 k2.2 h)

/-- no change of a single byte is overlooked -/
theorem wf_set {bs : List Int} (hb : byB bs) (h : wfB bs = true) {i : Nat} (hi : i < bs.length) {v : Int} (hv : 0 ≤ v ∧ v ≤ 255) (hne : v ≠ bs.getD i 0) : wfB (bs.set i v) = false := by
  cases hw : wfB (bs.set i v) with
  | false => rfl
  | true =>
    exfalso
    obtain ⟨q, hq, _, _, h1⟩ := wf_len h
    obtain ⟨q2, hq2, _, _, h2⟩ := wf_len hw
    rw [List.length_set] at h2
    have hx := byB_get hb hi rfl
    have hb2 : byB (bs.set i v) := fun b hb3 => by
      rcases List.mem_or_eq_of_mem_set hb3 with h4 | h4
      · exact hb b h4
      · rw [h4]; exact hv
    generalize hN : bs.length - 4 = N at *
    rcases Nat.lt_or_ge i N with hlt | hge
    · rw [List.drop_set_of_lt (by omega), h1, List.take_set] at h2
      have hiN : i < (bs.take N).length := by rw [List.length_take]; omega
      have e2 : (bs.take N).set i v = (bs.take N).take i ++ v :: (bs.take N).drop (i + 1) := by
        rw [List.set_eq_take_append_cons_drop, if_pos hiN]
      have e : bs.take N = (bs.take N).take i ++ bs.getD i 0 :: (bs.take N).drop (i + 1) := by
        conv => lhs; rw [← List.take_append_drop i (bs.take N), List.drop_eq_getElem_cons hiN]
        rw [getD_in hi, List.getElem_take]
      rw [e2] at h2
      exact hne (ck_byte hv hx (h2.symm.trans (congrArg ck e)))
    · have e1 : (bs.set i v).take N = bs.take N := by rw [List.take_set_of_le hge]
      rw [e1, ← h1] at h2
      have l1 := le_rd (byB_drop hb N) (k := 4) (by rw [List.length_drop]; omega)
      have l2 := le_rd (byB_drop hb2 N) (k := 4) (by rw [List.length_drop, List.length_set]; omega)
      rw [h2, l1, List.take_of_length_le (by rw [List.length_drop]; omega), List.take_of_length_le (by rw [List.length_drop, List.length_set]; omega)] at l2
      have l3 := congrArg (fun l : List Int => l.getD (i - N) 0) l2
      simp only [List.getD_eq_getElem?_getD, List.getElem?_drop, show N + (i - N) = i by omega, List.getElem?_set_self hi, Option.getD_some] at l3
      exact hne (by rw [List.getD_eq_getElem?_getD]; exact l3.symm)
end Go.Proofs.YtoljffghaklpdaaGreatDoor


/- Bytes: what is packed is read back. -/
namespace Go.Proofs.YtoljffghaklpdaaGreatDoor
open Go.RowKit

theorem sg_mod {x : Int} (h1 : -32768 ≤ x) (h2 : x ≤ 32767) : sg (x % 65536) = x := by unfold sg; omega
theorem smp_drop {xs : List Int} : ∀ {j : Nat}, j < xs.length → ∃ rest, (smp xs).drop (2 * j) = le (xs.getD j 0) 2 ++ rest := by
  induction xs with
  | nil => intro j h; simp at h
  | cons x xs ih =>
    intro j h
    have e : smp (x :: xs) = le x 2 ++ smp xs := by simp [smp]
    rw [e]
    cases j with
    | zero => exact ⟨smp xs, rfl⟩
    | succ j =>
      rw [List.length_cons] at h
      obtain ⟨rest, hr⟩ := ih (j := j) (by omega)
      refine ⟨rest, ?_⟩
      rw [show 2 * (j + 1) = (le x 2).length + 2 * j by rw [le_len]; omega, List.drop_append, List.drop_of_length_le (by omega), List.nil_append, show (le x 2).length + 2 * j - (le x 2).length = 2 * j by omega, hr]
      simp

theorem pk_up {rate : Int} {xs : List Int} (hk : chkR rate xs = 0) : wfB (pkB rate xs) = true ∧ upC (pkB rate xs) = 0 ∧ upR (pkB rate xs) = rate ∧ upL (pkB rate xs) = xs := by
  have hr : chkR rate xs = 0 ∧ xs.length ≤ 200000 ∧ allB (-32768) 32767 xs = true ∧ 1 ≤ rate ∧ rate ≤ 192000 := by
    rcases chkR_cases rate xs with h | h | h
    · exact h
    · rw [hk] at h; cases h
    · rw [hk] at h; cases h
  obtain ⟨_, hn, hall, hr1, hr2⟩ := hr
  have hlen := pkB_len rate xs
  have hhl := hdB_len rate xs
  have e0 : pkB rate xs = mk4 ++ (le rate 4 ++ (le xs.length 4 ++ (smp xs ++ le (ck (hdB rate xs)) 4))) := by
    unfold pkB
    rw [show hdB rate xs = mk4 ++ le rate 4 ++ le xs.length 4 ++ smp xs from rfl]
    simp only [List.append_assoc]
  have t4 : (pkB rate xs).take 4 = mk4 := by rw [e0]; exact List.take_left' rfl
  have d4 : (pkB rate xs).drop 4 = le rate 4 ++ (le xs.length 4 ++ (smp xs ++ le (ck (hdB rate xs)) 4)) := by rw [e0]; exact List.drop_left' rfl
  have d8 : (pkB rate xs).drop 8 = le xs.length 4 ++ (smp xs ++ le (ck (hdB rate xs)) 4) := by
    rw [show 8 = 4 + 4 from rfl, ← List.drop_drop, d4]; exact List.drop_left' (le_len _ _)
  have d12 : (pkB rate xs).drop 12 = smp xs ++ le (ck (hdB rate xs)) 4 := by
    rw [show 12 = 8 + 4 from rfl, ← List.drop_drop, d8]; exact List.drop_left' (le_len _ _)
  have p4 : (256 : Int) ^ 4 = 4294967296 := rfl
  have rr : rd ((pkB rate xs).drop 4) 4 = rate := by rw [d4]; exact rd_le (by omega) (by rw [p4]; omega)
  have rn : rd ((pkB rate xs).drop 8) 4 = xs.length := by rw [d8]; exact rd_le (by omega) (by rw [p4]; omega)
  have hN : (pkB rate xs).length - 4 = (hdB rate xs).length := by rw [hlen, hhl]; omega
  have tN : (pkB rate xs).take ((pkB rate xs).length - 4) = hdB rate xs := by rw [hN]; unfold pkB; exact List.take_left' rfl
  have dN : (pkB rate xs).drop ((pkB rate xs).length - 4) = le (ck (hdB rate xs)) 4 := by rw [hN]; unfold pkB; exact List.drop_left' rfl
  have hck := ck_bd (hdB rate xs)
  have rs : rd ((pkB rate xs).drop ((pkB rate xs).length - 4)) 4 = ck (hdB rate xs) := by
    rw [dN]
    have := rd_le (x := ck (hdB rate xs)) (k := 4) hck.1 (by rw [p4]; omega) (rest := [])
    rw [List.append_nil] at this
    exact this
  have hwf : wfB (pkB rate xs) = true := by
    unfold wfB
    rw [t4, rn, rs, tN, decide_eq_true rfl, decide_eq_true rfl, decide_eq_true (show 16 ≤ (pkB rate xs).length by rw [hlen]; omega), decide_eq_true (show ((pkB rate xs).length : Int) - 16 = 2 * (xs.length : Int) by rw [hlen]; omega)]
    rfl
  have hsp : spL_w (pkB rate xs) = xs := by
    unfold spL_w
    rw [hlen, show (16 + xs.length * 2 - 16) / 2 = xs.length by omega, tab_congr (g := fun i => xs.getD i 0), tab_self]
    intro j hj
    unfold spA
    obtain ⟨rest, hrest⟩ := smp_drop hj
    rw [← List.drop_drop, d12, List.drop_append, hrest, List.append_assoc]
    have := rd_mod (x := xs.getD j 0) (k := 2) (rest := rest ++ (le (ck (hdB rate xs)) 4).drop (2 * j - (smp xs).length)) 2 (Nat.le_refl _)
    rw [this]
    have hx := allB_get hall hj rfl
    exact sg_mod hx.1 hx.2
  have hC : upC (pkB rate xs) = 0 := by
    unfold upC upOk
    rw [if_neg (by rw [hlen]; omega), hwf, hsp, rr, hk]; rfl
  exact ⟨hwf, hC, by unfold upR; rw [hC, rr]; rfl, by unfold upL; rw [hC, hsp]; rfl⟩
end Go.Proofs.YtoljffghaklpdaaGreatDoor
