/- Results in memory of the call's own: digits, keep, store. -/
import Derived.Test.YtbgihlfblmilmaaGreatDoorGY
import Derived.Test.YtbgihlfblmilmaaGreatDoorGP
import Derived.Test.YtbgihlfblmilmaaGreatDoorHN
import Derived.Laws.AppendOwnNone
import Derived.Laws.OwnMore
import Derived.Deep.AppendLies
import Derived.Maps.AppendAt
namespace Go.Proofs.YtbgihlfblmilmaaGreatDoor.Fr
open Go.RowKit Num

/-- a slice of digits lies in a block of which the numbers are not less than b; it is of just these cells, and not frozen -/
def OwA (b : Nat) (w : World) (A : Option Addr) (m : Nat) : Prop := 0 < m → ∃ (g : Nat) (cs : Array Value), A = some ⟨g, 0, none⟩ ∧ b ≤ g ∧ w.heap[g]? = some (.cells cs 63 (0, 0)) ∧ m ≤ cs.size
theorem OwA.nil (b : Nat) (w : World) (A : Option Addr) : OwA b w A 0 := fun h => absurd h (by omega)
theorem OwA.lower {b b' : Nat} {w : World} {A : Option Addr} {m : Nat} (h : OwA b w A m) (hb : b' ≤ b) : OwA b' w A m := fun hp => by
  obtain ⟨g, cs, h1, h2, h3⟩ := h hp
  exact ⟨g, cs, h1, by omega, h3⟩
theorem OwA.below {b : Nat} {w w' : World} {A : Option Addr} {m : Nat} (h : OwA b w A m) (hb : Below w.heap.size w w') : OwA b w' A m := fun hp => by
  obtain ⟨g, cs, h1, h2, h3, h4⟩ := h hp
  exact ⟨g, cs, h1, h2, (hb.block g (Array.getElem?_eq_some_iff.1 h3).1).trans h3, h4⟩
theorem OwA.alloc {b : Nat} {w : World} {A : Option Addr} {m : Nat} (h : OwA b w A m) (o : Obj) : OwA b (w.alloc o) A m := h.below ((Below.refl _ _).alloc (Nat.le_refl _) o)
theorem OwA.set {b : Nat} {w : World} {A : Option Addr} {m : Nat} (h : OwA b w A m) (p : Addr) (u : Value) : OwA b (w.setCell p u) A m := fun hp => by
  obtain ⟨g, cs, h1, h2, h3, h4⟩ := h hp
  by_cases hg : g = p.block
  · subst hg
    refine ⟨p.block, (if p.spot.isSome then cs else cs.setIfInBounds p.off u), h1, h2, ?_, ?_⟩
    · simp [World.setCell, Array.getElem?_modify, h3]
    · split
      · exact h4
      · simpa using h4
  · exact ⟨g, cs, h1, h2, (Below.heap_setCell w p u g hg).trans h3, h4⟩
/-- both parts of a struct lie so -/
def Own (b : Nat) (w : World) (v : Value) : Prop := match v with
  | .agg ⟨[_, .slice A n _, .slice B m _]⟩ => OwA b w A n ∧ OwA b w B m
  | _ => False
theorem Own.mk {b : Nat} {w : World} {x : Value} {A B : Option Addr} {n c m d : Nat} (h1 : OwA b w A n) (h2 : OwA b w B m) : Own b w (.agg #[x, .slice A n c, .slice B m d]) := ⟨h1, h2⟩
theorem Own.get {b : Nat} {w : World} {x : Value} {A B : Option Addr} {n c m d : Nat} (h : Own b w (.agg #[x, .slice A n c, .slice B m d])) : OwA b w A n ∧ OwA b w B m := h
theorem Own.map {b b' : Nat} {w w' : World} {v : Value} (h : Own b w v) (hf : ∀ A m, OwA b w A m → OwA b' w' A m) : Own b' w' v := by
  unfold Own at h ⊢
  split at h
  · exact ⟨hf _ _ h.1, hf _ _ h.2⟩
  · exact h.elim
/-- the canonical form of q, in memory not below b -/
def FO (b : Nat) (w : World) (v : Value) (q : Rat) (L : Nat) : Prop := FQ w v q L ∧ Own b w v
theorem FO.form {b : Nat} {w : World} {v : Value} {q : Rat} {L : Nat} (h : FO b w v q L) : ∃ s A m c A' m' c', v = .agg #[.bool s, .slice A m c, .slice A' m' c'] := h.1.form
theorem FO.below {b : Nat} {w w' : World} {v : Value} {q : Rat} {L : Nat} (h : FO b w v q L) (hb : Below w.heap.size w w') : FO b w' v q L := ⟨h.1.below hb, h.2.map fun _ _ h => h.below hb⟩
theorem FO.lower {b b' : Nat} {w : World} {v : Value} {q : Rat} {L : Nat} (h : FO b w v q L) (hb : b' ≤ b) : FO b' w v q L := ⟨h.1, h.2.map fun _ _ h => h.lower hb⟩
theorem FO.le {b : Nat} {w : World} {v : Value} {q : Rat} {L L' : Nat} (h : FO b w v q L) (hl : L ≤ L') : FO b w v q L' := ⟨h.1.le hl, h.2⟩
theorem FO.set3 {b : Nat} {w : World} {v : Value} {q : Rat} {L : Nat} (h : FO b w v q L) {g : Nat} {t : TypeId} {a : Bool} {p1 q1 : Option Addr} {p2 p3 q2 q3 : Nat} (hB : Blk w g t #[.bool a, .slice p1 p2 p3, .slice q1 q2 q3]) (x1 x2 x3 : Value) :
    FO b (((w.setCell ⟨g, 0, none⟩ x1).setCell ⟨g, 1, none⟩ x2).setCell ⟨g, 2, none⟩ x3) v q L := ⟨h.1.set3 hB x1 x2 x3, h.2.map fun _ _ h => ((h.set _ _).set _ _).set _ _⟩
def RetFO (w : World) (q : Rat) (L : Nat) (e : Ending) (w' : World) : Prop := ∃ v, e = .returned v ∧ FO w.heap.size w' v q L ∧ Below w.heap.size w w'
def RetM (w : World) (x L : Nat) (e : Ending) (w' : World) : Prop :=
  ∃ A m c ys, e = .returned (.slice A m c) ∧ Dg .u32 w' A m c ys ∧ Nrm ys ∧ Hid (vl (bs .u32) ys = x) ∧ m ≤ L ∧ Below w.heap.size w w' ∧ Hid (∀ ad, A = some ad → w.heap.size ≤ ad.block) ∧ OwA w.heap.size w' A m
theorem Mk.owa {w : World} {g : Nat} {k : IntKind} {xs : List Nat} {b m : Nat} (h : Mk w g 63 k xs) (hb : b ≤ g) (hm : m ≤ xs.length) : OwA b w (some ⟨g, 0, none⟩) m := fun _ => by
  obtain ⟨cs, h1, h2⟩ := h
  refine ⟨g, cs, rfl, hb, h1, ?_⟩
  have h3 := congrArg List.length h2
  rw [List.length_take, dcs_len] at h3
  have : cs.toList.length = cs.size := by simp
  omega

set_option maxHeartbeats 1600000 in
set_option maxRecDepth 100000 in
theorem digits_own (A : Option Addr) (n c : Nat) (xs : List Nat) (w : World) (h : Dg .u64 w A n c xs) (hN : Nrm xs) (hn : n ≤ 400000) (X : Nat) (hX : Hid (vl (bs .u64) xs = X)) :
    Calls Tryz.prog 126 #[.slice A n c] w (RetM w X (2 * n)) := by
  have hc2 := h.top
  cases n with
  | zero =>
    have hz : Hid (X = 0) := by show _ = _; rw [← hX.out, List.eq_nil_of_length_eq_zero h.len]; rfl
    go_enter Tryz.func126, Tryz.ntmps126
    go_wp2
    go_ret
    exact ⟨none, 0, 0, [], rfl, Dg.nil _ _, Nrm.nil, show _ = _ by rw [hz.out]; rfl, by omega, Below.refl _ _, fun ad he => (by cases he), OwA.nil _ _ _⟩
  | succ p =>
    have hbl : bl X ≤ 64 * (p + 1) := by
      have := vl_lt h.ok
      rw [bs64_pow, h.len, hX.out] at this
      exact bl_le this
    obtain ⟨m, hm⟩ : ∃ m, m = (bl X + 31) / 32 := ⟨_, rfl⟩
    have hmn : m ≤ 2 * (p + 1) := by omega
    have hmk := make_u32 m (by omega)
    rw [show (m : Int) = ((bl X : Int) + 31) / 32 by rw [hm]; omega] at hmk
    have hmk2 : ∀ w : World, Sem.run Tryz.prog (Instr.makeSlice 22 (.int .i64 (((bl X : Int) + 31) / 32)) (.int .i64 (((bl X : Int) + 31) / 32))) w = .ok (.slice (some ⟨w.heap.size, 0, none⟩) m m) (w.alloc (.cells (dcs .u32 (zs m)).toArray 63)) := hmk
    have Hm := Lib.hid hm
    clear hm hmk
    have hne : (((p + 1 : Nat) : Int) == 0) = false := by rw [beq_eq_false_iff_ne]; omega
    go_enter Tryz.func126, Tryz.ntmps126
    go_wp2_with fail
    refine (size64_any _ _ _ _ _ h hN (by omega) X hX).mono ?_
    rintro e w' ⟨rfl, rfl⟩
    go_wp2
    go_loopw [15] (fun iv wr => ∃ k cur, DigRel w m X iv wr k cur) (fun iv _ => m - (intOf iv).toNat)
    case atStart => exact ⟨0, zs m, rfl, by omega, zs_len _, zs_ok (by decide) _, Mk.new _ _ _ _, show _ = _ by rw [Nat.pow_zero, Nat.mod_one]; rfl, (Below.refl _ _).alloc (Nat.le_refl _) _⟩
    case round =>
      obtain ⟨k, cur, rfl, hkb, hcl, hco, hown, hval, hbel⟩ := hrel
      by_cases hkn : k < m
      · obtain ⟨ad, y, rfl, hcy, _, hy⟩ := h.at2 hbel (j := k / 2) (by omega)
        have hyb : y ≤ 18446744073709551615 := Nat.le_of_lt_succ hy.out.2
        have hlen : Hid (k < cur.length) := by show _ < _; rw [hcl.out]; exact hkn
        have hcc := hown.cell hlen.out
        have hcf := hown.frozen k
        generalize cur.getD k 0 = z at hcc
        have hd := half_digit h.ok k
        rw [hy.out.1, hX.out] at hd
        have Hd := Lib.hid hd
        clear hd
        have hcast := Lib.hid (u64_shr_cast y (32 * (k % 2)))
        go_wp2
        go_roundw
        case rel =>
          rw [hcast.out]
          exact ⟨k + 1, cur.set k (y / 2 ^ (32 * (k % 2)) % 4294967296), by go_num, hkn, show _ = _ by rw [List.length_set]; exact hcl.out, hco.set _ (Nat.mod_lt _ (by decide)), hown.set_ _ _, dig_step hlen.out hval.out Hd.out, hbel.setCell (Nat.le_refl _) _⟩
        case measure => simp [intOf]; omega
      · obtain rfl : k = m := by omega
        have hD := hown.dg hcl.out (by omega) hco
        have HT := Lib.hid (dig_top Hm.out hcl.out hco hval.out)
        go_wp2
        go_ret
        exact ⟨_, _, _, _, rfl, hD, HT.out.2, HT.out.1, hmn, hbel, fun ad he => (by injection he with he; subst he; exact Nat.le_refl _), hown.owa (Nat.le_refl _) (by rw [hcl.out]; exact Nat.le_refl _)⟩

set_option maxHeartbeats 3200000 in
set_option maxRecDepth 100000 in
theorem keep_own (s : Bool) (A A' : Option Addr) (n c n' c' : Nat) (xs ys : List Nat) (w : World) (h : Dg .u64 w A n c xs) (h' : Dg .u64 w A' n' c' ys) (hN : Nrm xs) (hN' : Nrm ys) (X Y : Nat) (hX : Hid (vl (bs .u64) xs = X)) (hY : Hid (vl (bs .u64) ys = Y)) (hn : n ≤ 100000) (hn' : n' ≤ 100000) :
    Calls Tryz.prog 85 #[.agg #[.bool s, .slice A n c, .slice A' n' c']] w
      fun e w' => ∃ v, e = .returned v ∧ FV w' v s X (dw Y) (2 * max n n') ∧ Own w.heap.size w' v ∧ Below w.heap.size w w' := by
  have B1 := (Blk.new w 67 #[.bool s, .slice A n c, .slice A' n' c']).alloc (.cells #[.bool false, .slice none 0 0, .slice none 0 0] 24)
  have B2 := Blk.new (w.alloc (.cells #[.bool s, .slice A n c, .slice A' n' c'] 67)) 24 #[.bool false, .slice none 0 0, .slice none 0 0]
  have e1 : (w.alloc (.cells #[.bool s, .slice A n c, .slice A' n' c'] 67)).heap.size = w.heap.size + 1 := by simp
  have hw0 := ((Below.refl w.heap.size w).alloc (Nat.le_refl _) (.cells #[.bool s, .slice A n c, .slice A' n' c'] 67)).alloc (by rw [e1]; omega) (.cells #[.bool false, .slice none 0 0, .slice none 0 0] 24)
  rw [e1] at B2
  clear e1
  have h1 := h.below hw0
  have h2 := h'.below hw0
  go_enter Tryz.func85, Tryz.ntmps85
  go_upto_region 1 with fail
  generalize (w.alloc (.cells #[.bool s, .slice A n c, .slice A' n' c'] 67)).alloc (.cells #[.bool false, .slice none 0 0, .slice none 0 0] 24) = w1 at *
  have k0 : w1.cell? ⟨w.heap.size, 0, none⟩ = some (.bool s) := B1.cell 0
  have k1 : w1.cell? ⟨w.heap.size, 1, none⟩ = some (.slice A n c) := B1.cell 1
  have hB2lt := B2.lt
  go_cut [3] (fun v wx => ∃ g A5 m5 c5 us5, v = .pointer (some ⟨g, 0, none⟩) ∧ Blk wx g 24 #[.bool s, .slice A5 m5 c5, .slice none 0 0] ∧ Dg .u32 wx A5 m5 c5 us5 ∧ Nrm us5 ∧ Hid (vl (bs .u32) us5 = X) ∧ m5 ≤ 2 * n ∧
    Blk wx w.heap.size 67 #[.bool s, .slice A n c, .slice A' n' c'] ∧ Blk wx (w.heap.size + 1) 24 #[.bool false, .slice none 0 0, .slice none 0 0] ∧ w.heap.size + 1 < g ∧ Below w.heap.size w wx ∧
    Hid ((∀ ad, A5 = some ad → w.heap.size + 1 < ad.block) ∧ (0 < m5 → ∀ ad, A5 = some ad → ad.block ≠ g)) ∧ Dg .u64 wx A' n' c' ys ∧ OwA w.heap.size wx A5 m5)
  case first =>
    go_region_held3 (fun wx => wx.cell? ⟨w.heap.size, 0, none⟩ = some (.bool s) ∧ wx.cell? ⟨w.heap.size, 1, none⟩ = some (.slice A n c))
      (first | exact ⟨k0, k1⟩ | exact K5 | exact K8.out _ _ _ | go_keep)
      (first
        | (go_at_call 126; refine (digits_own _ _ _ _ _ (h1.drew) hN (by omega) X hX).mono ?_; rintro e w5 ⟨A5, m5, c5, us5, rfl, hD5, hN5, hv5, hm5, hb5, hf5, ho5⟩; have P1 := B1.drew.below hb5; have K5 : w5.cell? ⟨w.heap.size, 0, none⟩ = some (.bool s) ∧ w5.cell? ⟨w.heap.size, 1, none⟩ = some (.slice A n c) := ⟨P1.cell 0, P1.cell 1⟩; have tok1 : True := trivial)
        | (go_at_call 126; refine (digits_own _ _ _ _ _ ((h1.alloc (.cells #[.bool false, .slice none 0 0, .slice none 0 0] 24)).drew) hN (by omega) X hX).mono ?_; rintro e w5 ⟨A5, m5, c5, us5, rfl, hD5, hN5, hv5, hm5, hb5, hf5, ho5⟩; have P1 := (B1.alloc (.cells #[.bool false, .slice none 0 0, .slice none 0 0] 24)).drew.below hb5; have K5 : w5.cell? ⟨w.heap.size, 0, none⟩ = some (.bool s) ∧ w5.cell? ⟨w.heap.size, 1, none⟩ = some (.slice A n c) := ⟨P1.cell 0, P1.cell 1⟩; have P3 := (Blk.new w1 24 #[.bool false, .slice none 0 0, .slice none 0 0]).drew.below hb5; have r0 := P3.cell 0; have r1 := P3.cell 1; have r2 := P3.cell 2; have f0 := P3.frozen 0; have f1 := P3.frozen 1; have f2 := P3.frozen 2; have K8 := Lib.hid (show ∀ a b d, (((w5.setCell ⟨w1.heap.size, 0, none⟩ a).setCell ⟨w1.heap.size, 1, none⟩ b).setCell ⟨w1.heap.size, 2, none⟩ d).cell? ⟨w.heap.size, 0, none⟩ = some (.bool s) ∧ (((w5.setCell ⟨w1.heap.size, 0, none⟩ a).setCell ⟨w1.heap.size, 1, none⟩ b).setCell ⟨w1.heap.size, 2, none⟩ d).cell? ⟨w.heap.size, 1, none⟩ = some (.slice A n c) from fun a b d => ⟨(cell_set3 _ _ _ _ _ _ (by show w.heap.size ≠ _; omega)).trans K5.1, (cell_set3 _ _ _ _ _ _ (by show w.heap.size ≠ _; omega)).trans K5.2⟩); have tok2 : True := trivial))
    all_goals first
      | (have _t := tok1
         have hw5 := hw0.drew.trans (hb5.mono hw0.size)
         have hlt5 := hb5.size
         have hE := Lib.hid (show (∀ ad, A5 = some ad → w.heap.size + 1 < ad.block) ∧ (0 < m5 → ∀ ad, A5 = some ad → ad.block ≠ w5.heap.size) from ⟨fun ad he => Nat.lt_of_lt_of_le hB2lt (hf5.out ad he), fun hp ad he => Nat.ne_of_lt (hD5.blt hp ad he)⟩)
         have hg : w.heap.size + 1 < w5.heap.size := Nat.lt_of_lt_of_le hB2lt hlt5
         go_wp2_with fail
         go_meet
         exact ⟨_, A5, m5, c5, us5, rfl, Blk.new _ _ _, hD5.alloc _, hN5, hv5, hm5, P1.alloc _, (B2.drew.below hb5).alloc _, hg, hw5.alloc hw5.size _, hE, (h2.drew.below hb5).alloc _, (ho5.lower hw0.size).alloc _⟩)
      | (have _t := tok2
         have hwz := hw0.alloc hw0.size (.cells #[.bool false, .slice none 0 0, .slice none 0 0] 24)
         have hw5 := hwz.drew.trans (hb5.mono hwz.size)
         have hsz : (w1.alloc (.cells #[.bool false, .slice none 0 0, .slice none 0 0] 24)).heap.size = w1.heap.size + 1 := by simp
         have hfa := Lib.hid (show ∀ ad, A5 = some ad → w1.heap.size < ad.block from fun ad he => by have h9 := hf5.out ad he; rw [show (w1.alloc (.cells #[.bool false, .slice none 0 0, .slice none 0 0] 24)).drew.heap.size = (w1.alloc (.cells #[.bool false, .slice none 0 0, .slice none 0 0] 24)).heap.size from rfl, hsz] at h9; omega)
         have hE := Lib.hid (show (∀ ad, A5 = some ad → w.heap.size + 1 < ad.block) ∧ (0 < m5 → ∀ ad, A5 = some ad → ad.block ≠ w1.heap.size) from ⟨fun ad he => Nat.lt_trans hB2lt (hfa.out ad he), fun _ ad he => by have h9 := hfa.out ad he; omega⟩)
         have P2 := (B2.alloc (.cells #[.bool false, .slice none 0 0, .slice none 0 0] 24)).drew.below hb5
         have hD2 := (h2.alloc (.cells #[.bool false, .slice none 0 0, .slice none 0 0] 24)).drew.below hb5
         have hnA : w.heap.size ≠ w1.heap.size := by omega
         have hnB : w.heap.size + 1 ≠ w1.heap.size := by omega
         have hne2 := Lib.hid (show 0 < n' → ∀ ad, A' = some ad → ad.block ≠ w1.heap.size from fun hp ad he => Nat.ne_of_lt (h2.blt hp ad he))
         go_wp2_with fail
         go_meet
         exact ⟨_, A5, m5, c5, us5, rfl, ((P3.set_ 0 _).set_ 1 _).set_ 2 _, ((hD5.far hfa.out 0 _).far hfa.out 1 _).far hfa.out 2 _, hN5, hv5, hm5, ((P1.far (p := ⟨w1.heap.size, 0, none⟩) hnA _).far (p := ⟨w1.heap.size, 1, none⟩) hnA _).far (p := ⟨w1.heap.size, 2, none⟩) hnA _,
           ((P2.far (p := ⟨w1.heap.size, 0, none⟩) hnB _).far (p := ⟨w1.heap.size, 1, none⟩) hnB _).far (p := ⟨w1.heap.size, 2, none⟩) hnB _, hB2lt, bel_set3 hw5 (by omega) _ _ _, hE, ((hD2.farp hne2.out 0 _).farp hne2.out 1 _).farp hne2.out 2 _, (((ho5.lower hwz.size).set _ _).set _ _).set _ _⟩)
  case rest =>
    clear h1 h2 k0 k1 B1 B2 hB2lt hw0 h h'
    obtain ⟨g, A5, m5, c5, us5, rfl, G1, D5, N5, V5, M5, P1, P2, hlt, hwc, hf, D2, O5⟩ := hcut
    have p2 : wc.cell? ⟨w.heap.size, 2, none⟩ = some (.slice A' n' c') := P1.cell 2
    by_cases hY1 : Y = 1
    · have HY1 := Lib.hid hY1
      clear hY1
      go_wp2_with fail
      refine (isOne_any _ _ _ _ _ D2 hN' Y hY true (decide_eq_true HY1.out)).mono ?_
      rintro e w' ⟨rfl, rfl⟩
      have g0 : wc.cell? ⟨g, 0, none⟩ = some (.bool s) := G1.cell 0
      have g1 : wc.cell? ⟨g, 1, none⟩ = some (.slice A5 m5 c5) := G1.cell 1
      have g2 : wc.cell? ⟨g, 2, none⟩ = some (.slice none 0 0) := G1.cell 2
      have r0 := P2.cell 0
      have r1 := P2.cell 1
      have r2 := P2.cell 2
      have f0 := P2.frozen 0
      have f1 := P2.frozen 1
      have f2 := P2.frozen 2
      go_wp2
      exact ret_frac rfl rfl (((P2.set_ 0 _).set_ 1 _).set_ 2 _) rfl ⟨_, rfl, ⟨_, _, rfl, nv_far3 D5 N5 V5 (by omega) hf.out.1 _ _ _, by unfold dw; rw [if_pos HY1.out]; exact NV.mk (Dg.nil _ _) Nrm.nil rfl (Nat.zero_le _)⟩, Own.mk (((O5.set _ _).set _ _).set _ _) (OwA.nil _ _ _), bel_set3 hwc (by omega) _ _ _⟩
    · have HY1 := Lib.hid hY1
      clear hY1
      go_wp2_with fail
      refine (isOne_any _ _ _ _ _ D2 hN' Y hY false (decide_eq_false HY1.out)).mono ?_
      rintro e w' ⟨rfl, rfl⟩
      go_wp2_with fail
      refine (digits_own _ _ _ _ _ D2 hN' (by omega) Y hY).mono ?_
      rintro e w6 ⟨A6, m6, c6, us6, rfl, hD6, hN6, hv6, hm6, hb6, hf6, ho6⟩
      have G2 := G1.below hb6
      have P3 := P2.below hb6
      have D6 := D5.below hb6
      have hw6 := hwc.trans (hb6.mono hwc.size)
      have hgl := G1.lt
      have g0 : w6.cell? ⟨g, 0, none⟩ = some (.bool s) := G2.cell 0
      have g1 : w6.cell? ⟨g, 1, none⟩ = some (.slice A5 m5 c5) := G2.cell 1
      have g2 : w6.cell? ⟨g, 2, none⟩ = some (.slice none 0 0) := G2.cell 2
      have fg := G2.frozen 2
      have r0 := P3.cell 0
      have r1 := P3.cell 1
      have r2 := P3.cell 2
      have f0 := P3.frozen 0
      have f1 := P3.frozen 1
      have f2 := P3.frozen 2
      have hne : w.heap.size + 1 ≠ g := by omega
      have hfg := Lib.hid (show ∀ ad, A6 = some ad → g < ad.block ∧ w.heap.size + 1 < ad.block from fun ad he => by have h9 := hf6.out ad he; omega)
      go_wp2
      exact ret_frac rfl rfl ((((P3.far (p := ⟨g, 2, none⟩) hne _).set_ 0 _).set_ 1 _).set_ 2 _) rfl ⟨_, rfl, ⟨_, _, rfl, nv_far3 (D6.farp hf.out.2 2 _) N5 V5 (by omega) hf.out.1 _ _ _, by unfold dw; rw [if_neg HY1.out]; exact nv_far3 (hD6.far (fun ad he => (hfg.out ad he).1) 2 _) hN6 hv6 (by omega) (fun ad he => (hfg.out ad he).2) _ _ _⟩, Own.mk (((((O5.below hb6).set _ _).set _ _).set _ _).set _ _) (((((ho6.lower hwc.size).set _ _).set _ _).set _ _).set _ _), bel_set3 (hw6.setCell (p := ⟨g, 2, none⟩) (by show _ ≤ g; omega) _) (by omega) _ _ _⟩

set_option maxHeartbeats 1600000 in
theorem store_own (s : Bool) (A A' : Option Addr) (n c n' c' : Nat) (xs ys : List Nat) (w : World) (h : Dg .u64 w A n c xs) (h' : Dg .u64 w A' n' c' ys) (hN : Nrm xs) (hN' : Nrm ys) (X Y : Nat) (hX : Hid (vl (bs .u64) xs = X)) (hY : Hid (vl (bs .u64) ys = Y))
    (hn : n ≤ 100000) (hn' : n' ≤ 100000) (hY0 : 0 < Y) :
    Calls Tryz.prog 71 #[.agg #[.bool s, .slice A n c, .slice A' n' c']] w fun e w' => ∃ v, e = .returned v ∧ FV w' v s (X / X.gcd Y) (dw (Y / X.gcd Y)) (2 * max n n') ∧ Own w.heap.size w' v ∧ Below w.heap.size w w' := by
  have B2 := Blk.new (w.alloc (.cells #[.bool s, .slice A n c, .slice A' n' c'] 67)) 24 #[.bool false, .slice none 0 0, .slice none 0 0]
  have e1 : (w.alloc (.cells #[.bool s, .slice A n c, .slice A' n' c'] 67)).heap.size = w.heap.size + 1 := by simp
  have hw0 := ((Below.refl w.heap.size w).alloc (Nat.le_refl _) (.cells #[.bool s, .slice A n c, .slice A' n' c'] 67)).alloc (by rw [e1]; omega) (.cells #[.bool false, .slice none 0 0, .slice none 0 0] 24)
  rw [e1] at B2
  clear e1
  go_enter Tryz.func71, Tryz.ntmps71
  go_wp2_with fail
  generalize (w.alloc (.cells #[.bool s, .slice A n c, .slice A' n' c'] 67)).alloc (.cells #[.bool false, .slice none 0 0, .slice none 0 0] 24) = w1 at *
  refine (reduce_all _ _ _ _ _ _ _ _ _ _ (h.below hw0) (h'.below hw0) hN hN' X Y hX hY (by omega) (by omega) hY0).mono ?_
  rintro e w2 ⟨_, rfl, ⟨_, _, rfl, ⟨A3, m3, c3, us3, rfl, hD3, hN3, hv3, hm3⟩, ⟨A4, m4, c4, us4, rfl, hD4, hN4, hv4, hm4⟩⟩, hb2⟩
  have C2 := B2.below hb2
  have hw2 := hw0.trans (hb2.mono hw0.size)
  go_wp2_with fail
  refine (keep_own _ _ _ _ _ _ _ _ _ _ hD3 hD4 hN3 hN4 _ _ hv3 hv4 (by omega) (by omega)).mono ?_
  rintro e w3 ⟨_, rfl, ⟨_, _, rfl, n5, n6⟩, O3, hb3⟩
  have C3 := C2.below hb3
  have hw3 := hw2.trans (hb3.mono hw2.size)
  have r0 := C3.cell 0
  have r1 := C3.cell 1
  have r2 := C3.cell 2
  have f0 := C3.frozen 0
  have f1 := C3.frozen 1
  have f2 := C3.frozen 2
  have n5' := (n5.le (show 2 * max m3 m4 ≤ 2 * max n n' by omega))
  have n6' := (n6.le (show 2 * max m3 m4 ≤ 2 * max n n' by omega))
  obtain ⟨A5, m5, c5, us5, rfl, _⟩ := n5
  obtain ⟨A6, m6, c6, us6, rfl, _⟩ := n6
  go_wp2
  exact ret_frac rfl rfl (((C3.set_ 0 _).set_ 1 _).set_ 2 _) rfl ⟨_, rfl, ⟨_, _, rfl, nv_set3 n5' C3 _ _ _, nv_set3 n6' C3 _ _ _⟩, O3.map (fun _ _ h => (((h.lower hw2.size).set _ _).set _ _).set _ _), bel_set3 hw3 (by omega) _ _ _⟩


theorem storeO (v : Value) (q : Rat) (L : Nat) (w : World) (h : RQ w v q L) (hL : L ≤ 100000) : Calls Tryz.prog 71 #[v] w (RetFO w q (2 * L)) := by
  obtain ⟨s, N, D, ⟨_, _, rfl, ⟨A1, m1, c1, x1, rfl, d1, n1, e1, l1⟩, ⟨A2, m2, c2, x2, rfl, d2, n2, e2, l2⟩⟩, p1, g1, k1⟩ := h
  refine (store_own s A1 A2 m1 c1 m2 c2 x1 x2 w d1 d2 n1 n2 N D e1 e2 (by omega) (by omega) p1).mono ?_
  rintro e w' ⟨v, rfl, ⟨v1, v2, rfl, hv1, hv2⟩, ho, hb⟩
  refine ⟨_, rfl, ⟨⟨v1, v2, ?_, ?_, ?_⟩, ho⟩, hb⟩
  · rw [sgn_fq p1 g1 k1.out]
  · rw [← k1.out, fq_abs p1]; exact hv1.le (by omega)
  · rw [← k1.out, fq_den p1]; exact hv2.le (by omega)

theorem keepO (v : Value) (q : Rat) (L : Nat) (w : World) (h : RL w v q L) (hL : L ≤ 100000) : Calls Tryz.prog 85 #[v] w (RetFO w q (2 * L)) := by
  obtain ⟨_, _, rfl, ⟨A1, m1, c1, x1, rfl, d1, n1, e1, l1⟩, ⟨A2, m2, c2, x2, rfl, d2, n2, e2, l2⟩⟩ := h
  refine (keep_own _ A1 A2 m1 c1 m2 c2 x1 x2 w d1 d2 n1 n2 _ _ e1 e2 (by omega) (by omega)).mono ?_
  rintro e w' ⟨v, rfl, ⟨v1, v2, rfl, hv1, hv2⟩, ho, hb⟩
  exact ⟨_, rfl, ⟨⟨v1, v2, rfl, hv1.le (by omega), hv2.le (by omega)⟩, ho⟩, hb⟩
end Go.Proofs.YtbgihlfblmilmaaGreatDoor.Fr

/- Results of sums, products .. in memory of the call's own. -/
namespace Go.Proofs.YtbgihlfblmilmaaGreatDoor.Fr
open Go.RowKit Num

set_option maxHeartbeats 3200000 in
theorem canonO (v1 : Value) (q1 : Rat) (L : Nat) (w : World) (h1 : AF w v1 q1 L) (hL : 2 * L + 1 ≤ 100000) :
    Calls Tryz.prog 22 #[v1] w (RetFO w (q1) (2 * (2 * L + 1))) := by
  obtain ⟨s1, A1, n1, c1, A2, n2, c2, rfl⟩ := h1.form
  obtain ⟨B1, B2, hw0⟩ := two_blk w 24 #[.bool s1, .slice A1 n1 c1, .slice A2 n2 c2] #[.bool false, .slice none 0 0, .slice none 0 0]
  have h1 := h1.below hw0
  go_enter Tryz.func22, Tryz.ntmps22
  go_wp2_with fail
  generalize (w.alloc (.cells #[.bool s1, .slice A1 n1 c1, .slice A2 n2 c2] 24)).alloc (.cells #[.bool false, .slice none 0 0, .slice none 0 0] 24) = w1 at *
  refine (loadQ _ q1 L _ h1 (by omega)).mono ?_
  rintro e w2 ⟨_, rfl, hq2, hb2⟩
  obtain ⟨s2, A3, n3, c3, A4, n4, c4, rfl⟩ := hq2.form
  have C2 := B2.below hb2
  have hw2 := hw0.trans (hb2.mono hw0.size)
  go_wp2_with fail
  refine (storeO _ q1 (2 * L + 1) _ hq2 hL).mono ?_
  rintro e w9 ⟨_, rfl, hq9, hb9⟩
  have C9 := C2.below hb9
  have hw9 := hw2.trans (hb9.mono hw2.size)
  obtain ⟨s9, A9, n9, c9, A10, n10, c10, rfl⟩ := hq9.form
  have r0 := C9.cell 0
  have r1 := C9.cell 1
  have r2 := C9.cell 2
  have f0 := C9.frozen 0
  have f1 := C9.frozen 1
  have f2 := C9.frozen 2
  go_wp2
  exact ret_frac rfl rfl (((C9.set_ 0 _).set_ 1 _).set_ 2 _) rfl ⟨_, rfl, (hq9.set3 C9 _ _ _).lower hw2.size, bel_set3 hw9 (by omega) _ _ _⟩


set_option maxHeartbeats 3200000 in
theorem negO (v1 : Value) (q1 : Rat) (L : Nat) (w : World) (h1 : AF w v1 q1 L) (hL : 2 * L + 1 ≤ 100000) :
    Calls Tryz.prog 40 #[v1] w (RetFO w (-q1) (2 * (2 * L + 1))) := by
  obtain ⟨s1, A1, n1, c1, A2, n2, c2, rfl⟩ := h1.form
  obtain ⟨B1, B2, hw0⟩ := two_blk w 24 #[.bool s1, .slice A1 n1 c1, .slice A2 n2 c2] #[.bool false, .slice none 0 0, .slice none 0 0]
  have h1 := h1.below hw0
  go_enter Tryz.func40, Tryz.ntmps40
  go_wp2_with fail
  generalize (w.alloc (.cells #[.bool s1, .slice A1 n1 c1, .slice A2 n2 c2] 24)).alloc (.cells #[.bool false, .slice none 0 0, .slice none 0 0] 24) = w1 at *
  refine (loadQ _ q1 L _ h1 (by omega)).mono ?_
  rintro e w2 ⟨_, rfl, hq2, hb2⟩
  obtain ⟨s2, A3, n3, c3, A4, n4, c4, rfl⟩ := hq2.form
  have C2 := B2.below hb2
  have hw2 := hw0.trans (hb2.mono hw0.size)
  go_wp2_with fail
  refine (minusQ _ q1 (2 * L + 1) _ hq2).mono ?_
  rintro e w3 ⟨_, rfl, hq3, hb3⟩
  obtain ⟨s3, A5, n5, c5, A6, n6, c6, rfl⟩ := hq3.form
  have C3 := C2.below hb3
  have hw3 := hw2.trans (hb3.mono hw2.size)
  go_wp2_with fail
  refine (storeO _ (-q1) (2 * L + 1) _ hq3 hL).mono ?_
  rintro e w9 ⟨_, rfl, hq9, hb9⟩
  have C9 := C3.below hb9
  have hw9 := hw3.trans (hb9.mono hw3.size)
  obtain ⟨s9, A9, n9, c9, A10, n10, c10, rfl⟩ := hq9.form
  have r0 := C9.cell 0
  have r1 := C9.cell 1
  have r2 := C9.cell 2
  have f0 := C9.frozen 0
  have f1 := C9.frozen 1
  have f2 := C9.frozen 2
  go_wp2
  exact ret_frac rfl rfl (((C9.set_ 0 _).set_ 1 _).set_ 2 _) rfl ⟨_, rfl, (hq9.set3 C9 _ _ _).lower hw3.size, bel_set3 hw9 (by omega) _ _ _⟩


set_option maxHeartbeats 6400000 in
set_option maxRecDepth 100000 in
theorem addO (v1 v2 : Value) (q1 q2 : Rat) (L : Nat) (w : World) (h1 : AF w v1 q1 L) (h2 : AF w v2 q2 L) (hL : (2 + 1) * (2 * L + 1 + 2) ≤ 100000) :
    Calls Tryz.prog 36 #[v1, v2] w (RetFO w (q1 + q2) (2 * ((2 + 1) * (2 * L + 1 + 2)))) := by
  obtain ⟨s1, A1, n1, c1, A2, n2, c2, rfl⟩ := h1.form
  obtain ⟨s2, A3, n3, c3, A4, n4, c4, rfl⟩ := h2.form
  have B1 := ((Blk.new w 24 #[.bool s1, .slice A1 n1 c1, .slice A2 n2 c2]).alloc (.cells #[.bool s2, .slice A3 n3 c3, .slice A4 n4 c4] 24)).alloc (.cells #[.bool false, .slice none 0 0, .slice none 0 0] 24)
  have B2 := (Blk.new (w.alloc (.cells #[.bool s1, .slice A1 n1 c1, .slice A2 n2 c2] 24)) 24 #[.bool s2, .slice A3 n3 c3, .slice A4 n4 c4]).alloc (.cells #[.bool false, .slice none 0 0, .slice none 0 0] 24)
  have B3 := Blk.new ((w.alloc (.cells #[.bool s1, .slice A1 n1 c1, .slice A2 n2 c2] 24)).alloc (.cells #[.bool s2, .slice A3 n3 c3, .slice A4 n4 c4] 24)) 24 #[.bool false, .slice none 0 0, .slice none 0 0]
  have e1 : (w.alloc (.cells #[.bool s1, .slice A1 n1 c1, .slice A2 n2 c2] 24)).heap.size = w.heap.size + 1 := by simp
  have e2 : ((w.alloc (.cells #[.bool s1, .slice A1 n1 c1, .slice A2 n2 c2] 24)).alloc (.cells #[.bool s2, .slice A3 n3 c3, .slice A4 n4 c4] 24)).heap.size = w.heap.size + 1 + 1 := by simp
  have hw0 := (((Below.refl w.heap.size w).alloc (Nat.le_refl _) (.cells #[.bool s1, .slice A1 n1 c1, .slice A2 n2 c2] 24)).alloc (by rw [e1]; omega) (.cells #[.bool s2, .slice A3 n3 c3, .slice A4 n4 c4] 24)).alloc (by rw [e2]; omega) (.cells #[.bool false, .slice none 0 0, .slice none 0 0] 24)
  rw [e1] at B2
  rw [e2] at B3
  clear e1 e2
  have h1 := h1.below hw0
  have h2 := h2.below hw0
  go_enter Tryz.func36, Tryz.ntmps36
  go_upto_region 1 with fail
  generalize ((w.alloc (.cells #[.bool s1, .slice A1 n1 c1, .slice A2 n2 c2] 24)).alloc (.cells #[.bool s2, .slice A3 n3 c3, .slice A4 n4 c4] 24)).alloc (.cells #[.bool false, .slice none 0 0, .slice none 0 0] 24) = w1 at *
  have hbd : Below w1.heap.size w1 w1.drew := (Below.refl _ _).drew
  have K1 : w1.cell? ⟨w.heap.size, 0, none⟩ = some (.bool s1) ∧ w1.cell? ⟨w.heap.size, 1, none⟩ = some (.slice A1 n1 c1) ∧ w1.cell? ⟨w.heap.size, 2, none⟩ = some (.slice A2 n2 c2) ∧ w1.cell? ⟨w.heap.size + 1, 0, none⟩ = some (.bool s2) ∧ w1.cell? ⟨w.heap.size + 1, 1, none⟩ = some (.slice A3 n3 c3) ∧ w1.cell? ⟨w.heap.size + 1, 2, none⟩ = some (.slice A4 n4 c4) := ⟨B1.cell 0, B1.cell 1, B1.cell 2, B2.cell 0, B2.cell 1, B2.cell 2⟩
  obtain ⟨k0, k1, k2, k3, k4, k5⟩ := K1
  go_region_held3 (fun wx => wx.cell? ⟨w.heap.size, 0, none⟩ = some (.bool s1) ∧ wx.cell? ⟨w.heap.size, 1, none⟩ = some (.slice A1 n1 c1) ∧ wx.cell? ⟨w.heap.size, 2, none⟩ = some (.slice A2 n2 c2) ∧ wx.cell? ⟨w.heap.size + 1, 0, none⟩ = some (.bool s2) ∧ wx.cell? ⟨w.heap.size + 1, 1, none⟩ = some (.slice A3 n3 c3) ∧ wx.cell? ⟨w.heap.size + 1, 2, none⟩ = some (.slice A4 n4 c4))
    (first | exact ⟨k0, k1, k2, k3, k4, k5⟩ | exact Kw5 | exact Kw6 | exact KA | exact Kw7 | exact Kw8 | exact K9.out _ _ _)
    (first
      | (go_at_call_of 70 (Value.agg #[.bool s1, .slice A1 n1 c1, .slice A2 n2 c2]); refine (loadQ _ q1 L _ (h1.below hbd) (by omega)).mono ?_; rintro e w5 ⟨_, rfl, hq5, hb5⟩; obtain ⟨s5, A5, m5, c5, A6, m6, c6, rfl⟩ := hq5.form; have Kw5 : w5.cell? ⟨w.heap.size, 0, none⟩ = some (.bool s1) ∧ w5.cell? ⟨w.heap.size, 1, none⟩ = some (.slice A1 n1 c1) ∧ w5.cell? ⟨w.heap.size, 2, none⟩ = some (.slice A2 n2 c2) ∧ w5.cell? ⟨w.heap.size + 1, 0, none⟩ = some (.bool s2) ∧ w5.cell? ⟨w.heap.size + 1, 1, none⟩ = some (.slice A3 n3 c3) ∧ w5.cell? ⟨w.heap.size + 1, 2, none⟩ = some (.slice A4 n4 c4) := ⟨((B1.drew).below hb5).cell 0, ((B1.drew).below hb5).cell 1, ((B1.drew).below hb5).cell 2, ((B2.drew).below hb5).cell 0, ((B2.drew).below hb5).cell 1, ((B2.drew).below hb5).cell 2⟩)
      | (go_at_call_of 70 (Value.agg #[.bool s2, .slice A3 n3 c3, .slice A4 n4 c4]); refine (loadQ _ q2 L _ ((h2.below hbd).below hb5) (by omega)).mono ?_; rintro e w6 ⟨_, rfl, hq6, hb6⟩; have hq5 := hq5.below hb6; obtain ⟨s6, A7, m7, c7, A8, m8, c8, rfl⟩ := hq6.form; have hbl := (Below.refl w6.heap.size w6).alloc (Nat.le_refl _) (.cells #[.bool s5, .slice A5 m5 c5, .slice A6 m6 c6, .bool s6, .slice A7 m7 c7, .slice A8 m8 c8] 67); have Kw6 : w6.cell? ⟨w.heap.size, 0, none⟩ = some (.bool s1) ∧ w6.cell? ⟨w.heap.size, 1, none⟩ = some (.slice A1 n1 c1) ∧ w6.cell? ⟨w.heap.size, 2, none⟩ = some (.slice A2 n2 c2) ∧ w6.cell? ⟨w.heap.size + 1, 0, none⟩ = some (.bool s2) ∧ w6.cell? ⟨w.heap.size + 1, 1, none⟩ = some (.slice A3 n3 c3) ∧ w6.cell? ⟨w.heap.size + 1, 2, none⟩ = some (.slice A4 n4 c4) := ⟨(((B1.drew).below hb5).below hb6).cell 0, (((B1.drew).below hb5).below hb6).cell 1, (((B1.drew).below hb5).below hb6).cell 2, (((B2.drew).below hb5).below hb6).cell 0, (((B2.drew).below hb5).below hb6).cell 1, (((B2.drew).below hb5).below hb6).cell 2⟩; have KA : (w6.alloc (.cells #[.bool s5, .slice A5 m5 c5, .slice A6 m6 c6, .bool s6, .slice A7 m7 c7, .slice A8 m8 c8] 67)).cell? ⟨w.heap.size, 0, none⟩ = some (.bool s1) ∧ (w6.alloc (.cells #[.bool s5, .slice A5 m5 c5, .slice A6 m6 c6, .bool s6, .slice A7 m7 c7, .slice A8 m8 c8] 67)).cell? ⟨w.heap.size, 1, none⟩ = some (.slice A1 n1 c1) ∧ (w6.alloc (.cells #[.bool s5, .slice A5 m5 c5, .slice A6 m6 c6, .bool s6, .slice A7 m7 c7, .slice A8 m8 c8] 67)).cell? ⟨w.heap.size, 2, none⟩ = some (.slice A2 n2 c2) ∧ (w6.alloc (.cells #[.bool s5, .slice A5 m5 c5, .slice A6 m6 c6, .bool s6, .slice A7 m7 c7, .slice A8 m8 c8] 67)).cell? ⟨w.heap.size + 1, 0, none⟩ = some (.bool s2) ∧ (w6.alloc (.cells #[.bool s5, .slice A5 m5 c5, .slice A6 m6 c6, .bool s6, .slice A7 m7 c7, .slice A8 m8 c8] 67)).cell? ⟨w.heap.size + 1, 1, none⟩ = some (.slice A3 n3 c3) ∧ (w6.alloc (.cells #[.bool s5, .slice A5 m5 c5, .slice A6 m6 c6, .bool s6, .slice A7 m7 c7, .slice A8 m8 c8] 67)).cell? ⟨w.heap.size + 1, 2, none⟩ = some (.slice A4 n4 c4) := ⟨((((B1.drew).below hb5).below hb6).alloc (.cells #[.bool s5, .slice A5 m5 c5, .slice A6 m6 c6, .bool s6, .slice A7 m7 c7, .slice A8 m8 c8] 67)).cell 0, ((((B1.drew).below hb5).below hb6).alloc (.cells #[.bool s5, .slice A5 m5 c5, .slice A6 m6 c6, .bool s6, .slice A7 m7 c7, .slice A8 m8 c8] 67)).cell 1, ((((B1.drew).below hb5).below hb6).alloc (.cells #[.bool s5, .slice A5 m5 c5, .slice A6 m6 c6, .bool s6, .slice A7 m7 c7, .slice A8 m8 c8] 67)).cell 2, ((((B2.drew).below hb5).below hb6).alloc (.cells #[.bool s5, .slice A5 m5 c5, .slice A6 m6 c6, .bool s6, .slice A7 m7 c7, .slice A8 m8 c8] 67)).cell 0, ((((B2.drew).below hb5).below hb6).alloc (.cells #[.bool s5, .slice A5 m5 c5, .slice A6 m6 c6, .bool s6, .slice A7 m7 c7, .slice A8 m8 c8] 67)).cell 1, ((((B2.drew).below hb5).below hb6).alloc (.cells #[.bool s5, .slice A5 m5 c5, .slice A6 m6 c6, .bool s6, .slice A7 m7 c7, .slice A8 m8 c8] 67)).cell 2⟩)
      | (go_at_call 92; refine (totalQ _ 2 2 (2 * L + 1) [q1, q2] _ (Ls.lit2 (Blk.new _ _ _) (hq5.below hbl) (hq6.below hbl)) hL).mono ?_; rintro e w7 ⟨_, rfl, hq7, hb7⟩; rw [sum2] at hq7; obtain ⟨s7, A9, m9, c9, A10, m10, c10, rfl⟩ := hq7.form; have Kw7 : w7.cell? ⟨w.heap.size, 0, none⟩ = some (.bool s1) ∧ w7.cell? ⟨w.heap.size, 1, none⟩ = some (.slice A1 n1 c1) ∧ w7.cell? ⟨w.heap.size, 2, none⟩ = some (.slice A2 n2 c2) ∧ w7.cell? ⟨w.heap.size + 1, 0, none⟩ = some (.bool s2) ∧ w7.cell? ⟨w.heap.size + 1, 1, none⟩ = some (.slice A3 n3 c3) ∧ w7.cell? ⟨w.heap.size + 1, 2, none⟩ = some (.slice A4 n4 c4) := ⟨(((((B1.drew).below hb5).below hb6).alloc (.cells #[.bool s5, .slice A5 m5 c5, .slice A6 m6 c6, .bool s6, .slice A7 m7 c7, .slice A8 m8 c8] 67)).below hb7).cell 0, (((((B1.drew).below hb5).below hb6).alloc (.cells #[.bool s5, .slice A5 m5 c5, .slice A6 m6 c6, .bool s6, .slice A7 m7 c7, .slice A8 m8 c8] 67)).below hb7).cell 1, (((((B1.drew).below hb5).below hb6).alloc (.cells #[.bool s5, .slice A5 m5 c5, .slice A6 m6 c6, .bool s6, .slice A7 m7 c7, .slice A8 m8 c8] 67)).below hb7).cell 2, (((((B2.drew).below hb5).below hb6).alloc (.cells #[.bool s5, .slice A5 m5 c5, .slice A6 m6 c6, .bool s6, .slice A7 m7 c7, .slice A8 m8 c8] 67)).below hb7).cell 0, (((((B2.drew).below hb5).below hb6).alloc (.cells #[.bool s5, .slice A5 m5 c5, .slice A6 m6 c6, .bool s6, .slice A7 m7 c7, .slice A8 m8 c8] 67)).below hb7).cell 1, (((((B2.drew).below hb5).below hb6).alloc (.cells #[.bool s5, .slice A5 m5 c5, .slice A6 m6 c6, .bool s6, .slice A7 m7 c7, .slice A8 m8 c8] 67)).below hb7).cell 2⟩)
      | (go_at_call 71; refine (storeO _ (q1 + q2) ((2 + 1) * (2 * L + 1 + 2)) _ hq7 (by omega)).mono ?_; rintro e w8 ⟨_, rfl, hq8, hb8⟩; obtain ⟨s8, A11, m11, c11, A12, m12, c12, rfl⟩ := hq8.form; have Kw8 : w8.cell? ⟨w.heap.size, 0, none⟩ = some (.bool s1) ∧ w8.cell? ⟨w.heap.size, 1, none⟩ = some (.slice A1 n1 c1) ∧ w8.cell? ⟨w.heap.size, 2, none⟩ = some (.slice A2 n2 c2) ∧ w8.cell? ⟨w.heap.size + 1, 0, none⟩ = some (.bool s2) ∧ w8.cell? ⟨w.heap.size + 1, 1, none⟩ = some (.slice A3 n3 c3) ∧ w8.cell? ⟨w.heap.size + 1, 2, none⟩ = some (.slice A4 n4 c4) := ⟨((((((B1.drew).below hb5).below hb6).alloc (.cells #[.bool s5, .slice A5 m5 c5, .slice A6 m6 c6, .bool s6, .slice A7 m7 c7, .slice A8 m8 c8] 67)).below hb7).below hb8).cell 0, ((((((B1.drew).below hb5).below hb6).alloc (.cells #[.bool s5, .slice A5 m5 c5, .slice A6 m6 c6, .bool s6, .slice A7 m7 c7, .slice A8 m8 c8] 67)).below hb7).below hb8).cell 1, ((((((B1.drew).below hb5).below hb6).alloc (.cells #[.bool s5, .slice A5 m5 c5, .slice A6 m6 c6, .bool s6, .slice A7 m7 c7, .slice A8 m8 c8] 67)).below hb7).below hb8).cell 2, ((((((B2.drew).below hb5).below hb6).alloc (.cells #[.bool s5, .slice A5 m5 c5, .slice A6 m6 c6, .bool s6, .slice A7 m7 c7, .slice A8 m8 c8] 67)).below hb7).below hb8).cell 0, ((((((B2.drew).below hb5).below hb6).alloc (.cells #[.bool s5, .slice A5 m5 c5, .slice A6 m6 c6, .bool s6, .slice A7 m7 c7, .slice A8 m8 c8] 67)).below hb7).below hb8).cell 1, ((((((B2.drew).below hb5).below hb6).alloc (.cells #[.bool s5, .slice A5 m5 c5, .slice A6 m6 c6, .bool s6, .slice A7 m7 c7, .slice A8 m8 c8] 67)).below hb7).below hb8).cell 2⟩; have K9 := Lib.hid (show ∀ a b d, (((w8.setCell ⟨w.heap.size + 1 + 1, 0, none⟩ a).setCell ⟨w.heap.size + 1 + 1, 1, none⟩ b).setCell ⟨w.heap.size + 1 + 1, 2, none⟩ d).cell? ⟨w.heap.size, 0, none⟩ = some (.bool s1) ∧ (((w8.setCell ⟨w.heap.size + 1 + 1, 0, none⟩ a).setCell ⟨w.heap.size + 1 + 1, 1, none⟩ b).setCell ⟨w.heap.size + 1 + 1, 2, none⟩ d).cell? ⟨w.heap.size, 1, none⟩ = some (.slice A1 n1 c1) ∧ (((w8.setCell ⟨w.heap.size + 1 + 1, 0, none⟩ a).setCell ⟨w.heap.size + 1 + 1, 1, none⟩ b).setCell ⟨w.heap.size + 1 + 1, 2, none⟩ d).cell? ⟨w.heap.size, 2, none⟩ = some (.slice A2 n2 c2) ∧ (((w8.setCell ⟨w.heap.size + 1 + 1, 0, none⟩ a).setCell ⟨w.heap.size + 1 + 1, 1, none⟩ b).setCell ⟨w.heap.size + 1 + 1, 2, none⟩ d).cell? ⟨w.heap.size + 1, 0, none⟩ = some (.bool s2) ∧ (((w8.setCell ⟨w.heap.size + 1 + 1, 0, none⟩ a).setCell ⟨w.heap.size + 1 + 1, 1, none⟩ b).setCell ⟨w.heap.size + 1 + 1, 2, none⟩ d).cell? ⟨w.heap.size + 1, 1, none⟩ = some (.slice A3 n3 c3) ∧ (((w8.setCell ⟨w.heap.size + 1 + 1, 0, none⟩ a).setCell ⟨w.heap.size + 1 + 1, 1, none⟩ b).setCell ⟨w.heap.size + 1 + 1, 2, none⟩ d).cell? ⟨w.heap.size + 1, 2, none⟩ = some (.slice A4 n4 c4) from fun a b d => ⟨(cell_set3 _ _ _ _ _ _ (by show w.heap.size ≠ _; omega)).trans Kw8.1, (cell_set3 _ _ _ _ _ _ (by show w.heap.size ≠ _; omega)).trans Kw8.2.1, (cell_set3 _ _ _ _ _ _ (by show w.heap.size ≠ _; omega)).trans Kw8.2.2.1, (cell_set3 _ _ _ _ _ _ (by show w.heap.size + 1 ≠ _; omega)).trans Kw8.2.2.2.1, (cell_set3 _ _ _ _ _ _ (by show w.heap.size + 1 ≠ _; omega)).trans Kw8.2.2.2.2.1, (cell_set3 _ _ _ _ _ _ (by show w.heap.size + 1 ≠ _; omega)).trans Kw8.2.2.2.2.2⟩); have P3 := (((((B3.drew).below hb5).below hb6).alloc (.cells #[.bool s5, .slice A5 m5 c5, .slice A6 m6 c6, .bool s6, .slice A7 m7 c7, .slice A8 m8 c8] 67)).below hb7).below hb8; have r0 := P3.cell 0; have r1 := P3.cell 1; have r2 := P3.cell 2; have f0 := P3.frozen 0; have f1 := P3.frozen 1; have f2 := P3.frozen 2))
  have hz0 := (hw0.drew).trans (hb5.mono (hw0.drew).size)
  have hz1 := (hz0).trans (hb6.mono (hz0).size)
  have hz2 := (hz1).alloc (hz1).size (.cells #[.bool s5, .slice A5 m5 c5, .slice A6 m6 c6, .bool s6, .slice A7 m7 c7, .slice A8 m8 c8] 67)
  have hz3 := (hz2).trans (hb7.mono (hz2).size)
  have hz4 := (hz3).trans (hb8.mono (hz3).size)
  go_wp2
  exact ret_frac rfl rfl (((P3.set_ 0 _).set_ 1 _).set_ 2 _) rfl ⟨_, rfl, ((hq8).set3 P3 _ _ _).lower hz3.size, bel_set3 hz4 (by omega) _ _ _⟩


set_option maxHeartbeats 6400000 in
set_option maxRecDepth 100000 in
theorem subO (v1 v2 : Value) (q1 q2 : Rat) (L : Nat) (w : World) (h1 : AF w v1 q1 L) (h2 : AF w v2 q2 L) (hL : (2 + 1) * (2 * L + 1 + 2) ≤ 100000) :
    Calls Tryz.prog 38 #[v1, v2] w (RetFO w (q1 + -q2) (2 * ((2 + 1) * (2 * L + 1 + 2)))) := by
  obtain ⟨s1, A1, n1, c1, A2, n2, c2, rfl⟩ := h1.form
  obtain ⟨s2, A3, n3, c3, A4, n4, c4, rfl⟩ := h2.form
  have B1 := ((Blk.new w 24 #[.bool s1, .slice A1 n1 c1, .slice A2 n2 c2]).alloc (.cells #[.bool s2, .slice A3 n3 c3, .slice A4 n4 c4] 24)).alloc (.cells #[.bool false, .slice none 0 0, .slice none 0 0] 24)
  have B2 := (Blk.new (w.alloc (.cells #[.bool s1, .slice A1 n1 c1, .slice A2 n2 c2] 24)) 24 #[.bool s2, .slice A3 n3 c3, .slice A4 n4 c4]).alloc (.cells #[.bool false, .slice none 0 0, .slice none 0 0] 24)
  have B3 := Blk.new ((w.alloc (.cells #[.bool s1, .slice A1 n1 c1, .slice A2 n2 c2] 24)).alloc (.cells #[.bool s2, .slice A3 n3 c3, .slice A4 n4 c4] 24)) 24 #[.bool false, .slice none 0 0, .slice none 0 0]
  have e1 : (w.alloc (.cells #[.bool s1, .slice A1 n1 c1, .slice A2 n2 c2] 24)).heap.size = w.heap.size + 1 := by simp
  have e2 : ((w.alloc (.cells #[.bool s1, .slice A1 n1 c1, .slice A2 n2 c2] 24)).alloc (.cells #[.bool s2, .slice A3 n3 c3, .slice A4 n4 c4] 24)).heap.size = w.heap.size + 1 + 1 := by simp
  have hw0 := (((Below.refl w.heap.size w).alloc (Nat.le_refl _) (.cells #[.bool s1, .slice A1 n1 c1, .slice A2 n2 c2] 24)).alloc (by rw [e1]; omega) (.cells #[.bool s2, .slice A3 n3 c3, .slice A4 n4 c4] 24)).alloc (by rw [e2]; omega) (.cells #[.bool false, .slice none 0 0, .slice none 0 0] 24)
  rw [e1] at B2
  rw [e2] at B3
  clear e1 e2
  have h1 := h1.below hw0
  have h2 := h2.below hw0
  go_enter Tryz.func38, Tryz.ntmps38
  go_upto_region 1 with fail
  generalize ((w.alloc (.cells #[.bool s1, .slice A1 n1 c1, .slice A2 n2 c2] 24)).alloc (.cells #[.bool s2, .slice A3 n3 c3, .slice A4 n4 c4] 24)).alloc (.cells #[.bool false, .slice none 0 0, .slice none 0 0] 24) = w1 at *
  have hbd : Below w1.heap.size w1 w1.drew := (Below.refl _ _).drew
  have K1 : w1.cell? ⟨w.heap.size, 0, none⟩ = some (.bool s1) ∧ w1.cell? ⟨w.heap.size, 1, none⟩ = some (.slice A1 n1 c1) ∧ w1.cell? ⟨w.heap.size, 2, none⟩ = some (.slice A2 n2 c2) ∧ w1.cell? ⟨w.heap.size + 1, 0, none⟩ = some (.bool s2) ∧ w1.cell? ⟨w.heap.size + 1, 1, none⟩ = some (.slice A3 n3 c3) ∧ w1.cell? ⟨w.heap.size + 1, 2, none⟩ = some (.slice A4 n4 c4) := ⟨B1.cell 0, B1.cell 1, B1.cell 2, B2.cell 0, B2.cell 1, B2.cell 2⟩
  obtain ⟨k0, k1, k2, k3, k4, k5⟩ := K1
  go_region_held3 (fun wx => wx.cell? ⟨w.heap.size, 0, none⟩ = some (.bool s1) ∧ wx.cell? ⟨w.heap.size, 1, none⟩ = some (.slice A1 n1 c1) ∧ wx.cell? ⟨w.heap.size, 2, none⟩ = some (.slice A2 n2 c2) ∧ wx.cell? ⟨w.heap.size + 1, 0, none⟩ = some (.bool s2) ∧ wx.cell? ⟨w.heap.size + 1, 1, none⟩ = some (.slice A3 n3 c3) ∧ wx.cell? ⟨w.heap.size + 1, 2, none⟩ = some (.slice A4 n4 c4))
    (first | exact ⟨k0, k1, k2, k3, k4, k5⟩ | exact Kw5 | exact Kw6 | exact Kwm | exact KA | exact Kw7 | exact Kw8 | exact K9.out _ _ _)
    (first
      | (go_at_call_of 70 (Value.agg #[.bool s1, .slice A1 n1 c1, .slice A2 n2 c2]); refine (loadQ _ q1 L _ (h1.below hbd) (by omega)).mono ?_; rintro e w5 ⟨_, rfl, hq5, hb5⟩; obtain ⟨s5, A5, m5, c5, A6, m6, c6, rfl⟩ := hq5.form; have Kw5 : w5.cell? ⟨w.heap.size, 0, none⟩ = some (.bool s1) ∧ w5.cell? ⟨w.heap.size, 1, none⟩ = some (.slice A1 n1 c1) ∧ w5.cell? ⟨w.heap.size, 2, none⟩ = some (.slice A2 n2 c2) ∧ w5.cell? ⟨w.heap.size + 1, 0, none⟩ = some (.bool s2) ∧ w5.cell? ⟨w.heap.size + 1, 1, none⟩ = some (.slice A3 n3 c3) ∧ w5.cell? ⟨w.heap.size + 1, 2, none⟩ = some (.slice A4 n4 c4) := ⟨((B1.drew).below hb5).cell 0, ((B1.drew).below hb5).cell 1, ((B1.drew).below hb5).cell 2, ((B2.drew).below hb5).cell 0, ((B2.drew).below hb5).cell 1, ((B2.drew).below hb5).cell 2⟩)
      | (go_at_call_of 70 (Value.agg #[.bool s2, .slice A3 n3 c3, .slice A4 n4 c4]); refine (loadQ _ q2 L _ ((h2.below hbd).below hb5) (by omega)).mono ?_; rintro e w6 ⟨_, rfl, hq6, hb6⟩; have hq5 := hq5.below hb6; obtain ⟨s6, A7, m7, c7, A8, m8, c8, rfl⟩ := hq6.form; have Kw6 : w6.cell? ⟨w.heap.size, 0, none⟩ = some (.bool s1) ∧ w6.cell? ⟨w.heap.size, 1, none⟩ = some (.slice A1 n1 c1) ∧ w6.cell? ⟨w.heap.size, 2, none⟩ = some (.slice A2 n2 c2) ∧ w6.cell? ⟨w.heap.size + 1, 0, none⟩ = some (.bool s2) ∧ w6.cell? ⟨w.heap.size + 1, 1, none⟩ = some (.slice A3 n3 c3) ∧ w6.cell? ⟨w.heap.size + 1, 2, none⟩ = some (.slice A4 n4 c4) := ⟨(((B1.drew).below hb5).below hb6).cell 0, (((B1.drew).below hb5).below hb6).cell 1, (((B1.drew).below hb5).below hb6).cell 2, (((B2.drew).below hb5).below hb6).cell 0, (((B2.drew).below hb5).below hb6).cell 1, (((B2.drew).below hb5).below hb6).cell 2⟩)
      | (go_at_call 96; refine (minusQ _ q2 (2 * L + 1) _ hq6).mono ?_; rintro e wm ⟨_, rfl, hqm, hbm⟩; have hq5 := hq5.below hbm; obtain ⟨sm, B7, o7, d7, B8, o8, d8, rfl⟩ := hqm.form; have hbl := (Below.refl wm.heap.size wm).alloc (Nat.le_refl _) (.cells #[.bool s5, .slice A5 m5 c5, .slice A6 m6 c6, .bool sm, .slice B7 o7 d7, .slice B8 o8 d8] 67); have Kwm : wm.cell? ⟨w.heap.size, 0, none⟩ = some (.bool s1) ∧ wm.cell? ⟨w.heap.size, 1, none⟩ = some (.slice A1 n1 c1) ∧ wm.cell? ⟨w.heap.size, 2, none⟩ = some (.slice A2 n2 c2) ∧ wm.cell? ⟨w.heap.size + 1, 0, none⟩ = some (.bool s2) ∧ wm.cell? ⟨w.heap.size + 1, 1, none⟩ = some (.slice A3 n3 c3) ∧ wm.cell? ⟨w.heap.size + 1, 2, none⟩ = some (.slice A4 n4 c4) := ⟨((((B1.drew).below hb5).below hb6).below hbm).cell 0, ((((B1.drew).below hb5).below hb6).below hbm).cell 1, ((((B1.drew).below hb5).below hb6).below hbm).cell 2, ((((B2.drew).below hb5).below hb6).below hbm).cell 0, ((((B2.drew).below hb5).below hb6).below hbm).cell 1, ((((B2.drew).below hb5).below hb6).below hbm).cell 2⟩; have KA : (wm.alloc (.cells #[.bool s5, .slice A5 m5 c5, .slice A6 m6 c6, .bool sm, .slice B7 o7 d7, .slice B8 o8 d8] 67)).cell? ⟨w.heap.size, 0, none⟩ = some (.bool s1) ∧ (wm.alloc (.cells #[.bool s5, .slice A5 m5 c5, .slice A6 m6 c6, .bool sm, .slice B7 o7 d7, .slice B8 o8 d8] 67)).cell? ⟨w.heap.size, 1, none⟩ = some (.slice A1 n1 c1) ∧ (wm.alloc (.cells #[.bool s5, .slice A5 m5 c5, .slice A6 m6 c6, .bool sm, .slice B7 o7 d7, .slice B8 o8 d8] 67)).cell? ⟨w.heap.size, 2, none⟩ = some (.slice A2 n2 c2) ∧ (wm.alloc (.cells #[.bool s5, .slice A5 m5 c5, .slice A6 m6 c6, .bool sm, .slice B7 o7 d7, .slice B8 o8 d8] 67)).cell? ⟨w.heap.size + 1, 0, none⟩ = some (.bool s2) ∧ (wm.alloc (.cells #[.bool s5, .slice A5 m5 c5, .slice A6 m6 c6, .bool sm, .slice B7 o7 d7, .slice B8 o8 d8] 67)).cell? ⟨w.heap.size + 1, 1, none⟩ = some (.slice A3 n3 c3) ∧ (wm.alloc (.cells #[.bool s5, .slice A5 m5 c5, .slice A6 m6 c6, .bool sm, .slice B7 o7 d7, .slice B8 o8 d8] 67)).cell? ⟨w.heap.size + 1, 2, none⟩ = some (.slice A4 n4 c4) := ⟨(((((B1.drew).below hb5).below hb6).below hbm).alloc (.cells #[.bool s5, .slice A5 m5 c5, .slice A6 m6 c6, .bool sm, .slice B7 o7 d7, .slice B8 o8 d8] 67)).cell 0, (((((B1.drew).below hb5).below hb6).below hbm).alloc (.cells #[.bool s5, .slice A5 m5 c5, .slice A6 m6 c6, .bool sm, .slice B7 o7 d7, .slice B8 o8 d8] 67)).cell 1, (((((B1.drew).below hb5).below hb6).below hbm).alloc (.cells #[.bool s5, .slice A5 m5 c5, .slice A6 m6 c6, .bool sm, .slice B7 o7 d7, .slice B8 o8 d8] 67)).cell 2, (((((B2.drew).below hb5).below hb6).below hbm).alloc (.cells #[.bool s5, .slice A5 m5 c5, .slice A6 m6 c6, .bool sm, .slice B7 o7 d7, .slice B8 o8 d8] 67)).cell 0, (((((B2.drew).below hb5).below hb6).below hbm).alloc (.cells #[.bool s5, .slice A5 m5 c5, .slice A6 m6 c6, .bool sm, .slice B7 o7 d7, .slice B8 o8 d8] 67)).cell 1, (((((B2.drew).below hb5).below hb6).below hbm).alloc (.cells #[.bool s5, .slice A5 m5 c5, .slice A6 m6 c6, .bool sm, .slice B7 o7 d7, .slice B8 o8 d8] 67)).cell 2⟩)
      | (go_at_call 92; refine (totalQ _ 2 2 (2 * L + 1) [q1, -q2] _ (Ls.lit2 (Blk.new _ _ _) (hq5.below hbl) (hqm.below hbl)) hL).mono ?_; rintro e w7 ⟨_, rfl, hq7, hb7⟩; rw [sum2] at hq7; obtain ⟨s7, A9, m9, c9, A10, m10, c10, rfl⟩ := hq7.form; have Kw7 : w7.cell? ⟨w.heap.size, 0, none⟩ = some (.bool s1) ∧ w7.cell? ⟨w.heap.size, 1, none⟩ = some (.slice A1 n1 c1) ∧ w7.cell? ⟨w.heap.size, 2, none⟩ = some (.slice A2 n2 c2) ∧ w7.cell? ⟨w.heap.size + 1, 0, none⟩ = some (.bool s2) ∧ w7.cell? ⟨w.heap.size + 1, 1, none⟩ = some (.slice A3 n3 c3) ∧ w7.cell? ⟨w.heap.size + 1, 2, none⟩ = some (.slice A4 n4 c4) := ⟨((((((B1.drew).below hb5).below hb6).below hbm).alloc (.cells #[.bool s5, .slice A5 m5 c5, .slice A6 m6 c6, .bool sm, .slice B7 o7 d7, .slice B8 o8 d8] 67)).below hb7).cell 0, ((((((B1.drew).below hb5).below hb6).below hbm).alloc (.cells #[.bool s5, .slice A5 m5 c5, .slice A6 m6 c6, .bool sm, .slice B7 o7 d7, .slice B8 o8 d8] 67)).below hb7).cell 1, ((((((B1.drew).below hb5).below hb6).below hbm).alloc (.cells #[.bool s5, .slice A5 m5 c5, .slice A6 m6 c6, .bool sm, .slice B7 o7 d7, .slice B8 o8 d8] 67)).below hb7).cell 2, ((((((B2.drew).below hb5).below hb6).below hbm).alloc (.cells #[.bool s5, .slice A5 m5 c5, .slice A6 m6 c6, .bool sm, .slice B7 o7 d7, .slice B8 o8 d8] 67)).below hb7).cell 0, ((((((B2.drew).below hb5).below hb6).below hbm).alloc (.cells #[.bool s5, .slice A5 m5 c5, .slice A6 m6 c6, .bool sm, .slice B7 o7 d7, .slice B8 o8 d8] 67)).below hb7).cell 1, ((((((B2.drew).below hb5).below hb6).below hbm).alloc (.cells #[.bool s5, .slice A5 m5 c5, .slice A6 m6 c6, .bool sm, .slice B7 o7 d7, .slice B8 o8 d8] 67)).below hb7).cell 2⟩)
      | (go_at_call 71; refine (storeO _ (q1 + -q2) ((2 + 1) * (2 * L + 1 + 2)) _ hq7 (by omega)).mono ?_; rintro e w8 ⟨_, rfl, hq8, hb8⟩; obtain ⟨s8, A11, m11, c11, A12, m12, c12, rfl⟩ := hq8.form; have Kw8 : w8.cell? ⟨w.heap.size, 0, none⟩ = some (.bool s1) ∧ w8.cell? ⟨w.heap.size, 1, none⟩ = some (.slice A1 n1 c1) ∧ w8.cell? ⟨w.heap.size, 2, none⟩ = some (.slice A2 n2 c2) ∧ w8.cell? ⟨w.heap.size + 1, 0, none⟩ = some (.bool s2) ∧ w8.cell? ⟨w.heap.size + 1, 1, none⟩ = some (.slice A3 n3 c3) ∧ w8.cell? ⟨w.heap.size + 1, 2, none⟩ = some (.slice A4 n4 c4) := ⟨(((((((B1.drew).below hb5).below hb6).below hbm).alloc (.cells #[.bool s5, .slice A5 m5 c5, .slice A6 m6 c6, .bool sm, .slice B7 o7 d7, .slice B8 o8 d8] 67)).below hb7).below hb8).cell 0, (((((((B1.drew).below hb5).below hb6).below hbm).alloc (.cells #[.bool s5, .slice A5 m5 c5, .slice A6 m6 c6, .bool sm, .slice B7 o7 d7, .slice B8 o8 d8] 67)).below hb7).below hb8).cell 1, (((((((B1.drew).below hb5).below hb6).below hbm).alloc (.cells #[.bool s5, .slice A5 m5 c5, .slice A6 m6 c6, .bool sm, .slice B7 o7 d7, .slice B8 o8 d8] 67)).below hb7).below hb8).cell 2, (((((((B2.drew).below hb5).below hb6).below hbm).alloc (.cells #[.bool s5, .slice A5 m5 c5, .slice A6 m6 c6, .bool sm, .slice B7 o7 d7, .slice B8 o8 d8] 67)).below hb7).below hb8).cell 0, (((((((B2.drew).below hb5).below hb6).below hbm).alloc (.cells #[.bool s5, .slice A5 m5 c5, .slice A6 m6 c6, .bool sm, .slice B7 o7 d7, .slice B8 o8 d8] 67)).below hb7).below hb8).cell 1, (((((((B2.drew).below hb5).below hb6).below hbm).alloc (.cells #[.bool s5, .slice A5 m5 c5, .slice A6 m6 c6, .bool sm, .slice B7 o7 d7, .slice B8 o8 d8] 67)).below hb7).below hb8).cell 2⟩; have K9 := Lib.hid (show ∀ a b d, (((w8.setCell ⟨w.heap.size + 1 + 1, 0, none⟩ a).setCell ⟨w.heap.size + 1 + 1, 1, none⟩ b).setCell ⟨w.heap.size + 1 + 1, 2, none⟩ d).cell? ⟨w.heap.size, 0, none⟩ = some (.bool s1) ∧ (((w8.setCell ⟨w.heap.size + 1 + 1, 0, none⟩ a).setCell ⟨w.heap.size + 1 + 1, 1, none⟩ b).setCell ⟨w.heap.size + 1 + 1, 2, none⟩ d).cell? ⟨w.heap.size, 1, none⟩ = some (.slice A1 n1 c1) ∧ (((w8.setCell ⟨w.heap.size + 1 + 1, 0, none⟩ a).setCell ⟨w.heap.size + 1 + 1, 1, none⟩ b).setCell ⟨w.heap.size + 1 + 1, 2, none⟩ d).cell? ⟨w.heap.size, 2, none⟩ = some (.slice A2 n2 c2) ∧ (((w8.setCell ⟨w.heap.size + 1 + 1, 0, none⟩ a).setCell ⟨w.heap.size + 1 + 1, 1, none⟩ b).setCell ⟨w.heap.size + 1 + 1, 2, none⟩ d).cell? ⟨w.heap.size + 1, 0, none⟩ = some (.bool s2) ∧ (((w8.setCell ⟨w.heap.size + 1 + 1, 0, none⟩ a).setCell ⟨w.heap.size + 1 + 1, 1, none⟩ b).setCell ⟨w.heap.size + 1 + 1, 2, none⟩ d).cell? ⟨w.heap.size + 1, 1, none⟩ = some (.slice A3 n3 c3) ∧ (((w8.setCell ⟨w.heap.size + 1 + 1, 0, none⟩ a).setCell ⟨w.heap.size + 1 + 1, 1, none⟩ b).setCell ⟨w.heap.size + 1 + 1, 2, none⟩ d).cell? ⟨w.heap.size + 1, 2, none⟩ = some (.slice A4 n4 c4) from fun a b d => ⟨(cell_set3 _ _ _ _ _ _ (by show w.heap.size ≠ _; omega)).trans Kw8.1, (cell_set3 _ _ _ _ _ _ (by show w.heap.size ≠ _; omega)).trans Kw8.2.1, (cell_set3 _ _ _ _ _ _ (by show w.heap.size ≠ _; omega)).trans Kw8.2.2.1, (cell_set3 _ _ _ _ _ _ (by show w.heap.size + 1 ≠ _; omega)).trans Kw8.2.2.2.1, (cell_set3 _ _ _ _ _ _ (by show w.heap.size + 1 ≠ _; omega)).trans Kw8.2.2.2.2.1, (cell_set3 _ _ _ _ _ _ (by show w.heap.size + 1 ≠ _; omega)).trans Kw8.2.2.2.2.2⟩); have P3 := ((((((B3.drew).below hb5).below hb6).below hbm).alloc (.cells #[.bool s5, .slice A5 m5 c5, .slice A6 m6 c6, .bool sm, .slice B7 o7 d7, .slice B8 o8 d8] 67)).below hb7).below hb8; have r0 := P3.cell 0; have r1 := P3.cell 1; have r2 := P3.cell 2; have f0 := P3.frozen 0; have f1 := P3.frozen 1; have f2 := P3.frozen 2))
  have hz0 := (hw0.drew).trans (hb5.mono (hw0.drew).size)
  have hz1 := (hz0).trans (hb6.mono (hz0).size)
  have hz2 := (hz1).trans (hbm.mono (hz1).size)
  have hz3 := (hz2).alloc (hz2).size (.cells #[.bool s5, .slice A5 m5 c5, .slice A6 m6 c6, .bool sm, .slice B7 o7 d7, .slice B8 o8 d8] 67)
  have hz4 := (hz3).trans (hb7.mono (hz3).size)
  have hz5 := (hz4).trans (hb8.mono (hz4).size)
  go_wp2
  exact ret_frac rfl rfl (((P3.set_ 0 _).set_ 1 _).set_ 2 _) rfl ⟨_, rfl, ((hq8).set3 P3 _ _ _).lower hz4.size, bel_set3 hz5 (by omega) _ _ _⟩


set_option maxHeartbeats 6400000 in
set_option maxRecDepth 100000 in
theorem mulO (v1 v2 : Value) (q1 q2 : Rat) (L : Nat) (w : World) (h1 : AF w v1 q1 L) (h2 : AF w v2 q2 L) (hL : 2 * L + 1 + (2 * L + 1) ≤ 100000) :
    Calls Tryz.prog 43 #[v1, v2] w (RetFO w (q1 * q2) (2 * (2 * L + 1 + (2 * L + 1)))) := by
  obtain ⟨s1, A1, n1, c1, A2, n2, c2, rfl⟩ := h1.form
  obtain ⟨s2, A3, n3, c3, A4, n4, c4, rfl⟩ := h2.form
  have B1 := ((Blk.new w 24 #[.bool s1, .slice A1 n1 c1, .slice A2 n2 c2]).alloc (.cells #[.bool s2, .slice A3 n3 c3, .slice A4 n4 c4] 24)).alloc (.cells #[.bool false, .slice none 0 0, .slice none 0 0] 24)
  have B2 := (Blk.new (w.alloc (.cells #[.bool s1, .slice A1 n1 c1, .slice A2 n2 c2] 24)) 24 #[.bool s2, .slice A3 n3 c3, .slice A4 n4 c4]).alloc (.cells #[.bool false, .slice none 0 0, .slice none 0 0] 24)
  have B3 := Blk.new ((w.alloc (.cells #[.bool s1, .slice A1 n1 c1, .slice A2 n2 c2] 24)).alloc (.cells #[.bool s2, .slice A3 n3 c3, .slice A4 n4 c4] 24)) 24 #[.bool false, .slice none 0 0, .slice none 0 0]
  have e1 : (w.alloc (.cells #[.bool s1, .slice A1 n1 c1, .slice A2 n2 c2] 24)).heap.size = w.heap.size + 1 := by simp
  have e2 : ((w.alloc (.cells #[.bool s1, .slice A1 n1 c1, .slice A2 n2 c2] 24)).alloc (.cells #[.bool s2, .slice A3 n3 c3, .slice A4 n4 c4] 24)).heap.size = w.heap.size + 1 + 1 := by simp
  have hw0 := (((Below.refl w.heap.size w).alloc (Nat.le_refl _) (.cells #[.bool s1, .slice A1 n1 c1, .slice A2 n2 c2] 24)).alloc (by rw [e1]; omega) (.cells #[.bool s2, .slice A3 n3 c3, .slice A4 n4 c4] 24)).alloc (by rw [e2]; omega) (.cells #[.bool false, .slice none 0 0, .slice none 0 0] 24)
  rw [e1] at B2
  rw [e2] at B3
  clear e1 e2
  have h1 := h1.below hw0
  have h2 := h2.below hw0
  go_enter Tryz.func43, Tryz.ntmps43
  go_upto_region 1 with fail
  generalize ((w.alloc (.cells #[.bool s1, .slice A1 n1 c1, .slice A2 n2 c2] 24)).alloc (.cells #[.bool s2, .slice A3 n3 c3, .slice A4 n4 c4] 24)).alloc (.cells #[.bool false, .slice none 0 0, .slice none 0 0] 24) = w1 at *
  have hbd : Below w1.heap.size w1 w1.drew := (Below.refl _ _).drew
  have K1 : w1.cell? ⟨w.heap.size, 0, none⟩ = some (.bool s1) ∧ w1.cell? ⟨w.heap.size, 1, none⟩ = some (.slice A1 n1 c1) ∧ w1.cell? ⟨w.heap.size, 2, none⟩ = some (.slice A2 n2 c2) ∧ w1.cell? ⟨w.heap.size + 1, 0, none⟩ = some (.bool s2) ∧ w1.cell? ⟨w.heap.size + 1, 1, none⟩ = some (.slice A3 n3 c3) ∧ w1.cell? ⟨w.heap.size + 1, 2, none⟩ = some (.slice A4 n4 c4) := ⟨B1.cell 0, B1.cell 1, B1.cell 2, B2.cell 0, B2.cell 1, B2.cell 2⟩
  obtain ⟨k0, k1, k2, k3, k4, k5⟩ := K1
  go_region_held3 (fun wx => wx.cell? ⟨w.heap.size, 0, none⟩ = some (.bool s1) ∧ wx.cell? ⟨w.heap.size, 1, none⟩ = some (.slice A1 n1 c1) ∧ wx.cell? ⟨w.heap.size, 2, none⟩ = some (.slice A2 n2 c2) ∧ wx.cell? ⟨w.heap.size + 1, 0, none⟩ = some (.bool s2) ∧ wx.cell? ⟨w.heap.size + 1, 1, none⟩ = some (.slice A3 n3 c3) ∧ wx.cell? ⟨w.heap.size + 1, 2, none⟩ = some (.slice A4 n4 c4))
    (first | exact ⟨k0, k1, k2, k3, k4, k5⟩ | exact Kw5 | exact Kw6 | exact Kw7 | exact Kw8 | exact K9.out _ _ _)
    (first
      | (go_at_call_of 70 (Value.agg #[.bool s1, .slice A1 n1 c1, .slice A2 n2 c2]); refine (loadQ _ q1 L _ (h1.below hbd) (by omega)).mono ?_; rintro e w5 ⟨_, rfl, hq5, hb5⟩; obtain ⟨s5, A5, m5, c5, A6, m6, c6, rfl⟩ := hq5.form; have Kw5 : w5.cell? ⟨w.heap.size, 0, none⟩ = some (.bool s1) ∧ w5.cell? ⟨w.heap.size, 1, none⟩ = some (.slice A1 n1 c1) ∧ w5.cell? ⟨w.heap.size, 2, none⟩ = some (.slice A2 n2 c2) ∧ w5.cell? ⟨w.heap.size + 1, 0, none⟩ = some (.bool s2) ∧ w5.cell? ⟨w.heap.size + 1, 1, none⟩ = some (.slice A3 n3 c3) ∧ w5.cell? ⟨w.heap.size + 1, 2, none⟩ = some (.slice A4 n4 c4) := ⟨((B1.drew).below hb5).cell 0, ((B1.drew).below hb5).cell 1, ((B1.drew).below hb5).cell 2, ((B2.drew).below hb5).cell 0, ((B2.drew).below hb5).cell 1, ((B2.drew).below hb5).cell 2⟩)
      | (go_at_call_of 70 (Value.agg #[.bool s2, .slice A3 n3 c3, .slice A4 n4 c4]); refine (loadQ _ q2 L _ ((h2.below hbd).below hb5) (by omega)).mono ?_; rintro e w6 ⟨_, rfl, hq6, hb6⟩; have hq5 := hq5.below hb6; obtain ⟨s6, A7, m7, c7, A8, m8, c8, rfl⟩ := hq6.form; have Kw6 : w6.cell? ⟨w.heap.size, 0, none⟩ = some (.bool s1) ∧ w6.cell? ⟨w.heap.size, 1, none⟩ = some (.slice A1 n1 c1) ∧ w6.cell? ⟨w.heap.size, 2, none⟩ = some (.slice A2 n2 c2) ∧ w6.cell? ⟨w.heap.size + 1, 0, none⟩ = some (.bool s2) ∧ w6.cell? ⟨w.heap.size + 1, 1, none⟩ = some (.slice A3 n3 c3) ∧ w6.cell? ⟨w.heap.size + 1, 2, none⟩ = some (.slice A4 n4 c4) := ⟨(((B1.drew).below hb5).below hb6).cell 0, (((B1.drew).below hb5).below hb6).cell 1, (((B1.drew).below hb5).below hb6).cell 2, (((B2.drew).below hb5).below hb6).cell 0, (((B2.drew).below hb5).below hb6).cell 1, (((B2.drew).below hb5).below hb6).cell 2⟩)
      | (go_at_call 83; refine (timesQ _ _ q1 q2 (2 * L + 1) (2 * L + 1) _ hq5 hq6 (by omega) (by omega)).mono ?_; rintro e w7 ⟨_, rfl, hq7, hb7⟩; obtain ⟨s7, A9, m9, c9, A10, m10, c10, rfl⟩ := hq7.form; have Kw7 : w7.cell? ⟨w.heap.size, 0, none⟩ = some (.bool s1) ∧ w7.cell? ⟨w.heap.size, 1, none⟩ = some (.slice A1 n1 c1) ∧ w7.cell? ⟨w.heap.size, 2, none⟩ = some (.slice A2 n2 c2) ∧ w7.cell? ⟨w.heap.size + 1, 0, none⟩ = some (.bool s2) ∧ w7.cell? ⟨w.heap.size + 1, 1, none⟩ = some (.slice A3 n3 c3) ∧ w7.cell? ⟨w.heap.size + 1, 2, none⟩ = some (.slice A4 n4 c4) := ⟨((((B1.drew).below hb5).below hb6).below hb7).cell 0, ((((B1.drew).below hb5).below hb6).below hb7).cell 1, ((((B1.drew).below hb5).below hb6).below hb7).cell 2, ((((B2.drew).below hb5).below hb6).below hb7).cell 0, ((((B2.drew).below hb5).below hb6).below hb7).cell 1, ((((B2.drew).below hb5).below hb6).below hb7).cell 2⟩)
      | (go_at_call 71; refine (storeO _ (q1 * q2) (2 * L + 1 + (2 * L + 1)) _ hq7 (by omega)).mono ?_; rintro e w8 ⟨_, rfl, hq8, hb8⟩; obtain ⟨s8, A11, m11, c11, A12, m12, c12, rfl⟩ := hq8.form; have Kw8 : w8.cell? ⟨w.heap.size, 0, none⟩ = some (.bool s1) ∧ w8.cell? ⟨w.heap.size, 1, none⟩ = some (.slice A1 n1 c1) ∧ w8.cell? ⟨w.heap.size, 2, none⟩ = some (.slice A2 n2 c2) ∧ w8.cell? ⟨w.heap.size + 1, 0, none⟩ = some (.bool s2) ∧ w8.cell? ⟨w.heap.size + 1, 1, none⟩ = some (.slice A3 n3 c3) ∧ w8.cell? ⟨w.heap.size + 1, 2, none⟩ = some (.slice A4 n4 c4) := ⟨(((((B1.drew).below hb5).below hb6).below hb7).below hb8).cell 0, (((((B1.drew).below hb5).below hb6).below hb7).below hb8).cell 1, (((((B1.drew).below hb5).below hb6).below hb7).below hb8).cell 2, (((((B2.drew).below hb5).below hb6).below hb7).below hb8).cell 0, (((((B2.drew).below hb5).below hb6).below hb7).below hb8).cell 1, (((((B2.drew).below hb5).below hb6).below hb7).below hb8).cell 2⟩; have K9 := Lib.hid (show ∀ a b d, (((w8.setCell ⟨w.heap.size + 1 + 1, 0, none⟩ a).setCell ⟨w.heap.size + 1 + 1, 1, none⟩ b).setCell ⟨w.heap.size + 1 + 1, 2, none⟩ d).cell? ⟨w.heap.size, 0, none⟩ = some (.bool s1) ∧ (((w8.setCell ⟨w.heap.size + 1 + 1, 0, none⟩ a).setCell ⟨w.heap.size + 1 + 1, 1, none⟩ b).setCell ⟨w.heap.size + 1 + 1, 2, none⟩ d).cell? ⟨w.heap.size, 1, none⟩ = some (.slice A1 n1 c1) ∧ (((w8.setCell ⟨w.heap.size + 1 + 1, 0, none⟩ a).setCell ⟨w.heap.size + 1 + 1, 1, none⟩ b).setCell ⟨w.heap.size + 1 + 1, 2, none⟩ d).cell? ⟨w.heap.size, 2, none⟩ = some (.slice A2 n2 c2) ∧ (((w8.setCell ⟨w.heap.size + 1 + 1, 0, none⟩ a).setCell ⟨w.heap.size + 1 + 1, 1, none⟩ b).setCell ⟨w.heap.size + 1 + 1, 2, none⟩ d).cell? ⟨w.heap.size + 1, 0, none⟩ = some (.bool s2) ∧ (((w8.setCell ⟨w.heap.size + 1 + 1, 0, none⟩ a).setCell ⟨w.heap.size + 1 + 1, 1, none⟩ b).setCell ⟨w.heap.size + 1 + 1, 2, none⟩ d).cell? ⟨w.heap.size + 1, 1, none⟩ = some (.slice A3 n3 c3) ∧ (((w8.setCell ⟨w.heap.size + 1 + 1, 0, none⟩ a).setCell ⟨w.heap.size + 1 + 1, 1, none⟩ b).setCell ⟨w.heap.size + 1 + 1, 2, none⟩ d).cell? ⟨w.heap.size + 1, 2, none⟩ = some (.slice A4 n4 c4) from fun a b d => ⟨(cell_set3 _ _ _ _ _ _ (by show w.heap.size ≠ _; omega)).trans Kw8.1, (cell_set3 _ _ _ _ _ _ (by show w.heap.size ≠ _; omega)).trans Kw8.2.1, (cell_set3 _ _ _ _ _ _ (by show w.heap.size ≠ _; omega)).trans Kw8.2.2.1, (cell_set3 _ _ _ _ _ _ (by show w.heap.size + 1 ≠ _; omega)).trans Kw8.2.2.2.1, (cell_set3 _ _ _ _ _ _ (by show w.heap.size + 1 ≠ _; omega)).trans Kw8.2.2.2.2.1, (cell_set3 _ _ _ _ _ _ (by show w.heap.size + 1 ≠ _; omega)).trans Kw8.2.2.2.2.2⟩); have P3 := ((((B3.drew).below hb5).below hb6).below hb7).below hb8; have r0 := P3.cell 0; have r1 := P3.cell 1; have r2 := P3.cell 2; have f0 := P3.frozen 0; have f1 := P3.frozen 1; have f2 := P3.frozen 2))
  have hz0 := (hw0.drew).trans (hb5.mono (hw0.drew).size)
  have hz1 := (hz0).trans (hb6.mono (hz0).size)
  have hz2 := (hz1).trans (hb7.mono (hz1).size)
  have hz3 := (hz2).trans (hb8.mono (hz2).size)
  go_wp2
  exact ret_frac rfl rfl (((P3.set_ 0 _).set_ 1 _).set_ 2 _) rfl ⟨_, rfl, ((hq8).set3 P3 _ _ _).lower hz2.size, bel_set3 hz3 (by omega) _ _ _⟩

set_option maxHeartbeats 3200000 in
theorem SumO (A : Option Addr) (n c L : Nat) (qs : List Rat) (w : World) (h : Ls AF w A n c L qs) (hL : (n + 1) * (2 * L + 1 + 2) ≤ 100000) :
    Calls Tryz.prog 52 #[.slice A n c] w (RetFO w (qs.foldl (· + ·) 0) (2 * ((n + 1) * (2 * L + 1 + 2)))) := by
  have hn : n ≤ 100000 := by
    have : (n + 1) * 1 ≤ (n + 1) * (2 * L + 1 + 2) := Nat.mul_le_mul_left _ (by omega)
    omega
  have hLb : 2 * L + 3 ≤ 100000 := by
    have : 1 * (2 * L + 1 + 2) ≤ (n + 1) * (2 * L + 1 + 2) := Nat.mul_le_mul_right _ (by omega)
    omega
  have B2 := Blk.new w 24 #[.bool false, .slice none 0 0, .slice none 0 0]
  have hw0 := (Below.refl w.heap.size w).alloc (Nat.le_refl _) (.cells #[.bool false, .slice none 0 0, .slice none 0 0] 24)
  have h := h.below bels_af hw0
  go_enter Tryz.func52, Tryz.ntmps52
  go_wp2_with fail
  generalize w.alloc (.cells #[.bool false, .slice none 0 0, .slice none 0 0] 24) = w1 at *
  refine (loadAllQ _ _ _ L qs _ h hn (by omega)).mono ?_
  rintro e w2 ⟨A2, rfl, hl2, hb2⟩
  have C2 := B2.below hb2
  have hw2 := hw0.trans (hb2.mono hw0.size)
  go_wp2_with fail
  refine (totalQ _ _ _ (2 * L + 1) qs _ hl2 hL).mono ?_
  rintro e w3 ⟨_, rfl, hq3, hb3⟩
  obtain ⟨s3, A5, n5, c5, A6, n6, c6, rfl⟩ := hq3.form
  have C3 := C2.below hb3
  have hw3 := hw2.trans (hb3.mono hw2.size)
  go_wp2_with fail
  refine (storeO _ _ _ _ hq3 hL).mono ?_
  rintro e w9 ⟨_, rfl, hq9, hb9⟩
  have C9 := C3.below hb9
  have hw9 := hw3.trans (hb9.mono hw3.size)
  obtain ⟨s9, A9, n9, c9, A10, n10, c10, rfl⟩ := hq9.form
  have r0 := C9.cell 0
  have r1 := C9.cell 1
  have r2 := C9.cell 2
  have f0 := C9.frozen 0
  have f1 := C9.frozen 1
  have f2 := C9.frozen 2
  go_wp2
  exact ret_frac rfl rfl (((C9.set_ 0 _).set_ 1 _).set_ 2 _) rfl ⟨_, rfl, (hq9.set3 C9 _ _ _).lower hw3.size, bel_set3 hw9 (by omega) _ _ _⟩


set_option maxHeartbeats 3200000 in
theorem ProductO (A : Option Addr) (n c L : Nat) (qs : List Rat) (w : World) (h : Ls AF w A n c L qs) (hL : 1 + n * (2 * L + 1) ≤ 100000) (hn : n ≤ 100000) (hLb : 2 * L + 3 ≤ 100000) :
    Calls Tryz.prog 54 #[.slice A n c] w (RetFO w (qs.foldl (· * ·) 1) (2 * (1 + n * (2 * L + 1)))) := by
  have B2 := Blk.new w 24 #[.bool false, .slice none 0 0, .slice none 0 0]
  have hw0 := (Below.refl w.heap.size w).alloc (Nat.le_refl _) (.cells #[.bool false, .slice none 0 0, .slice none 0 0] 24)
  have h := h.below bels_af hw0
  go_enter Tryz.func54, Tryz.ntmps54
  go_wp2_with fail
  generalize w.alloc (.cells #[.bool false, .slice none 0 0, .slice none 0 0] 24) = w1 at *
  refine (loadAllQ _ _ _ L qs _ h hn (by omega)).mono ?_
  rintro e w2 ⟨A2, rfl, hl2, hb2⟩
  have C2 := B2.below hb2
  have hw2 := hw0.trans (hb2.mono hw0.size)
  go_wp2_with fail
  refine (productQ _ _ _ (2 * L + 1) qs _ hl2 hL hn (by omega)).mono ?_
  rintro e w3 ⟨_, rfl, hq3, hb3⟩
  obtain ⟨s3, A5, n5, c5, A6, n6, c6, rfl⟩ := hq3.form
  have C3 := C2.below hb3
  have hw3 := hw2.trans (hb3.mono hw2.size)
  go_wp2_with fail
  refine (storeO _ _ _ _ hq3 hL).mono ?_
  rintro e w9 ⟨_, rfl, hq9, hb9⟩
  have C9 := C3.below hb9
  have hw9 := hw3.trans (hb9.mono hw3.size)
  obtain ⟨s9, A9, n9, c9, A10, n10, c10, rfl⟩ := hq9.form
  have r0 := C9.cell 0
  have r1 := C9.cell 1
  have r2 := C9.cell 2
  have f0 := C9.frozen 0
  have f1 := C9.frozen 1
  have f2 := C9.frozen 2
  go_wp2
  exact ret_frac rfl rfl (((C9.set_ 0 _).set_ 1 _).set_ 2 _) rfl ⟨_, rfl, (hq9.set3 C9 _ _ _).lower hw3.size, bel_set3 hw9 (by omega) _ _ _⟩

end Go.Proofs.YtbgihlfblmilmaaGreatDoor.Fr

/- Powers in memory of the call's own. -/
namespace Go.Proofs.YtbgihlfblmilmaaGreatDoor.Fr
open Go.RowKit Num

def RetFEO (w : World) (q : Rat) (L : Nat) (er : Int) (e : Ending) (w' : World) : Prop := ∃ v, e = .returned (.tuple #[v, .int .i64 er]) ∧ FO w.heap.size w' v q L ∧ Below w.heap.size w w'
set_option linter.unusedSimpArgs false in
set_option maxHeartbeats 6400000 in
set_option maxRecDepth 100000 in
theorem PowO (v1 : Value) (q1 : Rat) (n L E : Nat) (w : World) (h1 : AF w v1 q1 L) (hn : n ≤ 4096) (hE : (2 * L + 1) * n + 1 ≤ E) (hE1 : 2 * L + 1 ≤ E) (hE2 : E ≤ 100000) :
    Calls Tryz.prog 48 #[v1, .int .i64 (n : Int)] w (RetFEO w (q1 ^ n) (2 * E) 0) := by
  obtain ⟨s1, A1, n1, c1, A2, n2, c2, rfl⟩ := h1.form
  obtain ⟨B1, B2, hw0⟩ := two_blk w 24 #[.bool s1, .slice A1 n1 c1, .slice A2 n2 c2] #[.bool false, .slice none 0 0, .slice none 0 0]
  have h1 := h1.below hw0
  have d1 : decide ((4096 : Int) < (n : Int)) = false := decide_eq_false (by omega)
  have d2 : decide ((n : Int) < -4096) = false := decide_eq_false (by omega)
  have d3 : decide ((n : Int) < 0) = false := decide_eq_false (by omega)
  go_enter Tryz.func48, Tryz.ntmps48
  go_upto_region 1 with fail
  generalize (w.alloc (.cells #[.bool s1, .slice A1 n1 c1, .slice A2 n2 c2] 24)).alloc (.cells #[.bool false, .slice none 0 0, .slice none 0 0] 24) = w1 at *
  have k0 : w1.cell? ⟨w.heap.size, 0, none⟩ = some (.bool s1) := B1.cell 0
  have k1 : w1.cell? ⟨w.heap.size, 1, none⟩ = some (.slice A1 n1 c1) := B1.cell 1
  have k2 : w1.cell? ⟨w.heap.size, 2, none⟩ = some (.slice A2 n2 c2) := B1.cell 2
  go_wp2_with fail
  refine (loadQ _ q1 L _ h1 (by omega)).mono ?_
  rintro r w2 ⟨_, rfl, hq2, hb2⟩
  obtain ⟨s2, A3, n3, c3, A4, n4, c4, rfl⟩ := hq2.form
  have C2 := B2.below hb2
  have hw2 := hw0.trans (hb2.mono hw0.size)
  go_wp2_with fail
  refine (reduceQ _ q1 _ _ hq2 (by omega)).mono ?_
  rintro r w4 ⟨_, rfl, hq4, hb4⟩
  obtain ⟨s, A3, m3, c3, A4, m4, c4, rfl⟩ := hq4.form
  have D2 := C2.below hb4
  have hw4 := hw2.trans (hb4.mono hw2.size)
  clear B1 B2 C2 h1 hq2 hb2 hw2 k0 k1 k2
  have E2 := D2.alloc (.cells #[.bool s, .slice A3 m3 c3, .slice A4 m4 c4] 67)
  have E3 := Blk.new w4 67 #[.bool s, .slice A3 m3 c3, .slice A4 m4 c4]
  have hq4 := hq4.below ((Below.refl _ _).alloc (Nat.le_refl _) (.cells #[.bool s, .slice A3 m3 c3, .slice A4 m4 c4] 67))
  go_wp2_with fail
  have hw5 := hw4.alloc hw4.size (.cells #[.bool s, .slice A3 m3 c3, .slice A4 m4 c4] 67)
  have hlt1 := E3.lt
  have hlt2 := E2.lt
  have hne12 : w.heap.size + 1 ≠ w4.heap.size := by have := D2.lt; omega
  generalize w4.heap.size = g1 at *
  generalize w4.alloc (.cells #[.bool s, .slice A3 m3 c3, .slice A4 m4 c4] 67) = wa at *
  obtain ⟨_, _, he, ⟨A5, m5, c5, us5, rfl, hD5, hN5, hv5, hm5⟩, ⟨A6, m6, c6, us6, rfl, hD6, hN6, hv6, hm6⟩⟩ := hq4
  injection he with he
  simp only [Array.mk.injEq, List.cons.injEq, and_true, Value.bool.injEq, Value.slice.injEq] at he
  obtain ⟨hs, ⟨rfl, rfl, rfl⟩, rfl, rfl, rfl⟩ := he
  have hm5n := Lib.hid (Nat.mul_le_mul_right n hm5)
  have hm6n := Lib.hid (Nat.mul_le_mul_right n hm6)
  have hb5 : m3 * n + 1 ≤ E := by have := hm5n.out; omega
  have hb6 : m4 * n + 1 ≤ E := by have := hm6n.out; omega
  have hsq := Lib.hid (neg_pow_q q1 n)
  rw [← hs] at hsq
  have hNum := Lib.hid (show q1.num.natAbs = q1.num.natAbs from rfl)
  obtain ⟨N, hNe⟩ : ∃ N, q1.num.natAbs = N := ⟨_, rfl⟩
  obtain ⟨D, hDe⟩ : ∃ D, q1.den = D := ⟨_, rfl⟩
  rw [hNe] at hv5 hsq
  rw [hDe] at hv6
  have hNum := Lib.hid hNe.symm
  have hDen := Lib.hid hDe.symm
  clear hNe hDe hs
  cases s with
  | false =>
    have hsgn : Hid (false = decide ((q1 ^ n).num < 0)) := by show _ = _; rw [← hsq.out]; rfl
    have I0 : PwI false w g1 (w.heap.size + 1) A3 A4 m3 c3 m4 c4 us5 us6 wa := ⟨hD5, hD6, E3, E2, hw5⟩
    clear E2 E3 hw5 hD5 hD6 D2 hw4 hb4 hsq
    have k0 := I0.cells.1
    have k1 := I0.cells.2.1
    have k2 := I0.cells.2.2
    go_cut [7] (fun v wx => ∃ g A7 m7 c7 us7 A8 m8 c8 us8, v = .pointer (some ⟨g, 0, none⟩) ∧ Blk wx g 67 #[.bool false, .slice A7 m7 c7, .slice A8 m8 c8] ∧ Dg .u64 wx A7 m7 c7 us7 ∧ Nrm us7 ∧ Hid (vl (bs .u64) us7 = N ^ n) ∧ m7 ≤ E ∧ Dg .u64 wx A8 m8 c8 us8 ∧ Nrm us8 ∧ Hid (vl (bs .u64) us8 = D ^ n) ∧ m8 ≤ E ∧ Blk wx (w.heap.size + 1) 24 #[.bool false, .slice none 0 0, .slice none 0 0] ∧ Below w.heap.size w wx)
    case first =>
      refine wp_region_held_drew (S := (fun wx => wx.cell? ⟨g1, 0, none⟩ = some (.bool false) ∧ wx.cell? ⟨g1, 1, none⟩ = some (.slice A3 m3 c3) ∧ wx.cell? ⟨g1, 2, none⟩ = some (.slice A4 m4 c4))) (by kernel_rfl) I0.drew.cells (fun hHeld => ?_)
      refine wpAnyH_take (i := 0) (v := .pointer (some ⟨g1, 0, none⟩)) rfl (by kernel_rfl) (by kernel_rfl) (by kernel_rfl) (fun _ _ _ h => h) (Or.inl ⟨by kernel_rfl, by (intro w hSw; (try dsimp only at hSw); go_simp; try exact hrr3)⟩) hHeld ?_
      try simp only [Act.put, List.setIfInBounds_toArray, List.set_cons_zero, List.set_cons_succ]
      refine wpAnyH_take (i := 1) (v := .bool false) rfl (by kernel_rfl) (by kernel_rfl) (by kernel_rfl) (fun _ _ _ h => h) (Or.inl ⟨by kernel_rfl, by (intro w hSw; (try dsimp only at hSw); go_simp; try exact hrr3)⟩) hHeld ?_
      try simp only [Act.put, List.setIfInBounds_toArray, List.set_cons_zero, List.set_cons_succ]
      refine wpAnyH_take (i := 2) (v := .bool false) rfl (by kernel_rfl) (by kernel_rfl) (by kernel_rfl) (fun _ _ _ h => h) (Or.inl ⟨by kernel_rfl, by (intro w hSw; (try dsimp only at hSw); go_simp; try exact hrr3)⟩) hHeld ?_
      try simp only [Act.put, List.setIfInBounds_toArray, List.set_cons_zero, List.set_cons_succ]
      refine wpAnyH_take (i := 3) (v := undef) rfl (by kernel_rfl) (by kernel_rfl) (by kernel_rfl) (fun _ _ _ h => h) (Or.inr ⟨by kernel_rfl, rfl⟩) hHeld ?_
      try simp only [Act.put, List.setIfInBounds_toArray, List.set_cons_zero, List.set_cons_succ]
      refine wpAnyH_take (i := 4) (v := undef) rfl (by kernel_rfl) (by kernel_rfl) (by kernel_rfl) (fun _ _ _ h => h) (Or.inr ⟨by kernel_rfl, rfl⟩) hHeld ?_
      try simp only [Act.put, List.setIfInBounds_toArray, List.set_cons_zero, List.set_cons_succ]
      refine wpAnyH_take (i := 5) (v := undef) rfl (by kernel_rfl) (by kernel_rfl) (by kernel_rfl) (fun _ _ _ h => h) (Or.inr ⟨by kernel_rfl, rfl⟩) hHeld ?_
      try simp only [Act.put, List.setIfInBounds_toArray, List.set_cons_zero, List.set_cons_succ]
      refine wpAnyH_take (i := 6) (v := .bool false) rfl (by kernel_rfl) (by kernel_rfl) (by kernel_rfl) (fun _ _ _ h => h) (Or.inl ⟨by kernel_rfl, by (intro w hSw; (try dsimp only at hSw); go_simp; try exact hrr3)⟩) hHeld ?_
      try simp only [Act.put, List.setIfInBounds_toArray, List.set_cons_zero, List.set_cons_succ]
      refine wpAnyH_take (i := 7) (v := .pointer (some ⟨g1, 1, none⟩)) rfl (by kernel_rfl) (by kernel_rfl) (by kernel_rfl) (fun _ _ _ h => h) (Or.inl ⟨by kernel_rfl, by (intro w hSw; (try dsimp only at hSw); go_simp; try exact hrr3)⟩) hHeld ?_
      try simp only [Act.put, List.setIfInBounds_toArray, List.set_cons_zero, List.set_cons_succ]
      refine wpAnyH_take (i := 8) (v := .slice A3 m3 c3) rfl (by kernel_rfl) (by kernel_rfl) (by kernel_rfl) (fun _ _ _ h => h) (Or.inl ⟨by kernel_rfl, by (intro w hSw; (try dsimp only at hSw); go_simp; try exact hrr3)⟩) hHeld ?_
      try simp only [Act.put, List.setIfInBounds_toArray, List.set_cons_zero, List.set_cons_succ]
      refine wpAnyH_take (i := 9) (v := .int .i64 (n : Int)) rfl (by kernel_rfl) (by kernel_rfl) (by kernel_rfl) (fun _ _ _ h => h) (Or.inl ⟨by kernel_rfl, by (intro w hSw; (try dsimp only at hSw); go_simp; try exact hrr3)⟩) hHeld ?_
      try simp only [Act.put, List.setIfInBounds_toArray, List.set_cons_zero, List.set_cons_succ]
      refine wpAnyH_take (i := 11) (v := .pointer (some ⟨g1, 2, none⟩)) rfl (by kernel_rfl) (by kernel_rfl) (by kernel_rfl) (fun _ _ _ h => h) (Or.inl ⟨by kernel_rfl, by (intro w hSw; (try dsimp only at hSw); go_simp; try exact hrr3)⟩) hHeld ?_
      try simp only [Act.put, List.setIfInBounds_toArray, List.set_cons_zero, List.set_cons_succ]
      refine wpAnyH_take (i := 12) (v := .slice A4 m4 c4) rfl (by kernel_rfl) (by kernel_rfl) (by kernel_rfl) (fun _ _ _ h => h) (Or.inl ⟨by kernel_rfl, by (intro w hSw; (try dsimp only at hSw); go_simp; try exact hrr3)⟩) hHeld ?_
      try simp only [Act.put, List.setIfInBounds_toArray, List.set_cons_zero, List.set_cons_succ]
      refine wpAnyH_take (i := 13) (v := .int .i64 (n : Int)) rfl (by kernel_rfl) (by kernel_rfl) (by kernel_rfl) (fun _ _ _ h => h) (Or.inl ⟨by kernel_rfl, by (intro w hSw; (try dsimp only at hSw); go_simp; try exact hrr3)⟩) hHeld ?_
      try simp only [Act.put, List.setIfInBounds_toArray, List.set_cons_zero, List.set_cons_succ]
      refine wpAnyH_ready (rs := [10, 16]) (by kernel_rfl) (by simp) ?_
      refine AllReadyH.cons rfl (fun K hK => ?_) ?_
      · skip
        go_simp
        refine (pow64_any _ _ _ _ E _ _ I0.drew.d5 N hv5 (by omega) (by omega) (by omega) (by omega)).mono ?_
        rintro r w5 ⟨A7, m7, c7, us7, rfl, hD7, hN7, hv7, hm7, hb5⟩
        have I5 := I0.drew.below hb5
        have hs5 : wa.heap.size ≤ w5.heap.size := hb5.size
        go_wp2_with fail
        refine hK.out _ _ ?_ (fun hHeld => ?_)
        · exact I5.cells
        clear hK K
        try simp only [Act.put, List.setIfInBounds_toArray, List.set_cons_zero, List.set_cons_succ]
        refine wpAnyH_ready (rs := [14, 16]) (by kernel_rfl) (by simp) ?_
        refine AllReadyH.cons rfl (fun K hK => ?_) ?_
        · skip
          go_simp
          refine (pow64_any _ _ _ _ E _ _ I5.d6 D hv6 (by omega) (by omega) (by omega) (by omega)).mono ?_
          rintro r w6 ⟨A8, m8, c8, us8, rfl, hD8, hN8, hv8, hm8, hb6⟩
          have I6 := I5.below hb6
          have D76 := hD7.below hb6
          have hs6 : w5.heap.size ≤ w6.heap.size := hb6.size
          go_wp2_with fail
          refine hK.out _ _ ?_ (fun hHeld => ?_)
          · exact I6.cells
          clear hK K
          try simp only [Act.put, List.setIfInBounds_toArray, List.set_cons_zero, List.set_cons_succ]
          refine wpAnyH_ready (rs := [15, 16]) (by kernel_rfl) (by simp) ?_
          refine AllReadyH.cons rfl (fun K hK => ?_) ?_
          · skip
            go_simp
            refine (signed_any _ _ _ _ _ _ _ _ (by omega)).mono ?_
            rintro r w7 ⟨rfl, hb7⟩
            have I7 := I6.below hb7
            have D77 := D76.below hb7
            have D87 := hD8.below hb7
            have hs7 : w6.heap.size ≤ w7.heap.size := hb7.size
            go_wp2_with fail
            refine hK.out _ _ ?_ (fun hHeld => ?_)
            · exact I7.cells
            clear hK K
            try simp only [Act.put, List.setIfInBounds_toArray, List.set_cons_zero, List.set_cons_succ]
            refine wpAnyH_ready (rs := [16]) (by kernel_rfl) (by simp) ?_
            refine AllReadyH.cons rfl (fun K hK => ?_) AllReadyH.nil
            go_simp
            refine hK.out _ _ ?_ (fun hHeld => ?_)
            · exact (I7.alloc _).cells
            clear hK K
            try simp only [Act.put, List.setIfInBounds_toArray, List.set_cons_zero, List.set_cons_succ]
            have Ia := I7.alloc (.cells #[.bool false, .slice none 0 0, .slice none 0 0] 67)
            have Za : Blk ((w7 : World).alloc (.cells #[.bool false, .slice none 0 0, .slice none 0 0] 67)) (w7 : World).heap.size 67 #[.bool false, .slice none 0 0, .slice none 0 0] := Blk.new w7 67 #[.bool false, .slice none 0 0, .slice none 0 0]
            have hgz := Lib.hid (show g1 ≠ (w7 : World).heap.size by have h1 := hlt1; skip; have h5 := hs5; have h6 := hs6; have h7 := hs7; omega)
            have hg2 := Lib.hid (show w.heap.size + 1 ≠ (w7 : World).heap.size by have h1 := hlt2; skip; have h5 := hs5; have h6 := hs6; have h7 := hs7; omega)
            have hg3 := Lib.hid (show w.heap.size ≤ (w7 : World).heap.size by have h1 := hlt2; skip; have h5 := hs5; have h6 := hs6; have h7 := hs7; omega)
            have D7a := D77.alloc (.cells #[.bool false, .slice none 0 0, .slice none 0 0] 67)
            have D8a := D87.alloc (.cells #[.bool false, .slice none 0 0, .slice none 0 0] 67)
            refine wpAnyH_ready (rs := [17]) (by kernel_rfl) (by simp) ?_
            refine AllReadyH.cons rfl (fun K hK => ?_) AllReadyH.nil
            have r0 := Za.cell 0
            have r1 := Za.cell 1
            have r2 := Za.cell 2
            have f0 := Za.frozen 0
            have f1 := Za.frozen 1
            have f2 := Za.frozen 2
            go_simp
            refine hK.out _ _ ?_ (fun hHeld => ?_)
            · exact (I7.alloc _).cells
            clear hK K
            try simp only [Act.put, List.setIfInBounds_toArray, List.set_cons_zero, List.set_cons_succ]
            refine wpAnyH_done (by kernel_rfl) ?_ _
            go_wp2_with fail
            go_meet
            exact ⟨_, A7, m7, c7, us7, A8, m8, c8, us8, rfl, Blk.new _ _ _, D77.alloc _, hN7, hv7, hm7, D87.alloc _, hN8, hv8, hm8, I7.r.alloc _, I7.bel.alloc I7.bel.size _⟩
          refine AllReadyH.cons rfl (fun K hK => ?_) AllReadyH.nil
          go_simp
          refine hK.out _ _ ?_ (fun hHeld => ?_)
          · exact (I6.alloc _).cells
          clear hK K
          try simp only [Act.put, List.setIfInBounds_toArray, List.set_cons_zero, List.set_cons_succ]
          have Ia := I6.alloc (.cells #[.bool false, .slice none 0 0, .slice none 0 0] 67)
          have Za : Blk ((w6 : World).alloc (.cells #[.bool false, .slice none 0 0, .slice none 0 0] 67)) (w6 : World).heap.size 67 #[.bool false, .slice none 0 0, .slice none 0 0] := Blk.new w6 67 #[.bool false, .slice none 0 0, .slice none 0 0]
          have hgz := Lib.hid (show g1 ≠ (w6 : World).heap.size by have h1 := hlt1; skip; have h5 := hs5; have h6 := hs6; omega)
          have hg2 := Lib.hid (show w.heap.size + 1 ≠ (w6 : World).heap.size by have h1 := hlt2; skip; have h5 := hs5; have h6 := hs6; omega)
          have hg3 := Lib.hid (show w.heap.size ≤ (w6 : World).heap.size by have h1 := hlt2; skip; have h5 := hs5; have h6 := hs6; omega)
          have D7a := D76.alloc (.cells #[.bool false, .slice none 0 0, .slice none 0 0] 67)
          have D8a := hD8.alloc (.cells #[.bool false, .slice none 0 0, .slice none 0 0] 67)
          refine wpAnyH_ready (rs := [15]) (by kernel_rfl) (by simp) ?_
          refine AllReadyH.cons rfl (fun K hK => ?_) AllReadyH.nil
          go_simp
          refine (signed_any _ _ _ _ _ _ _ _ (by omega)).mono ?_
          rintro r w7 ⟨rfl, hb7⟩
          have I7 := Ia.below hb7
          have D77 := D7a.below hb7
          have D87 := D8a.below hb7
          have Z7 := Za.below hb7
          go_wp2_with fail
          refine hK.out _ _ ?_ (fun hHeld => ?_)
          · exact I7.cells
          clear hK K
          try simp only [Act.put, List.setIfInBounds_toArray, List.set_cons_zero, List.set_cons_succ]
          refine wpAnyH_ready (rs := [17]) (by kernel_rfl) (by simp) ?_
          refine AllReadyH.cons rfl (fun K hK => ?_) AllReadyH.nil
          have r0 := Z7.cell 0
          have r1 := Z7.cell 1
          have r2 := Z7.cell 2
          have f0 := Z7.frozen 0
          have f1 := Z7.frozen 1
          have f2 := Z7.frozen 2
          go_simp
          refine hK.out _ _ ?_ (fun hHeld => ?_)
          · exact I7.cells3 hgz.out _ _ _
          clear hK K
          try simp only [Act.put, List.setIfInBounds_toArray, List.set_cons_zero, List.set_cons_succ]
          refine wpAnyH_done (by kernel_rfl) ?_ _
          go_wp2_with fail
          go_meet
          exact ⟨_, A7, m7, c7, us7, A8, m8, c8, us8, rfl, ((Z7.set_ 0 _).set_ 1 _).set_ 2 _, D77.set3 Z7 _ _ _, hN7, hv7, hm7, D87.set3 Z7 _ _ _, hN8, hv8, hm8, ((I7.r.far hg2.out _).far hg2.out _).far hg2.out _, bel_set3 I7.bel hg3.out _ _ _⟩
        refine AllReadyH.cons rfl (fun K hK => ?_) AllReadyH.nil
        go_simp
        refine hK.out _ _ ?_ (fun hHeld => ?_)
        · exact (I5.alloc _).cells
        clear hK K
        try simp only [Act.put, List.setIfInBounds_toArray, List.set_cons_zero, List.set_cons_succ]
        have Ia := I5.alloc (.cells #[.bool false, .slice none 0 0, .slice none 0 0] 67)
        have Za : Blk ((w5 : World).alloc (.cells #[.bool false, .slice none 0 0, .slice none 0 0] 67)) (w5 : World).heap.size 67 #[.bool false, .slice none 0 0, .slice none 0 0] := Blk.new w5 67 #[.bool false, .slice none 0 0, .slice none 0 0]
        have hgz := Lib.hid (show g1 ≠ (w5 : World).heap.size by have h1 := hlt1; skip; have h5 := hs5; omega)
        have hg2 := Lib.hid (show w.heap.size + 1 ≠ (w5 : World).heap.size by have h1 := hlt2; skip; have h5 := hs5; omega)
        have hg3 := Lib.hid (show w.heap.size ≤ (w5 : World).heap.size by have h1 := hlt2; skip; have h5 := hs5; omega)
        have D7a := hD7.alloc (.cells #[.bool false, .slice none 0 0, .slice none 0 0] 67)
        refine wpAnyH_ready (rs := [14]) (by kernel_rfl) (by simp) ?_
        refine AllReadyH.cons rfl (fun K hK => ?_) AllReadyH.nil
        go_simp
        refine (pow64_any _ _ _ _ E _ _ Ia.d6 D hv6 (by omega) (by omega) (by omega) (by omega)).mono ?_
        rintro r w6 ⟨A8, m8, c8, us8, rfl, hD8, hN8, hv8, hm8, hb6⟩
        have I6 := Ia.below hb6
        have D76 := D7a.below hb6
        have Z6 := Za.below hb6
        go_wp2_with fail
        refine hK.out _ _ ?_ (fun hHeld => ?_)
        · exact I6.cells
        clear hK K
        try simp only [Act.put, List.setIfInBounds_toArray, List.set_cons_zero, List.set_cons_succ]
        refine wpAnyH_ready (rs := [15]) (by kernel_rfl) (by simp) ?_
        refine AllReadyH.cons rfl (fun K hK => ?_) AllReadyH.nil
        go_simp
        refine (signed_any _ _ _ _ _ _ _ _ (by omega)).mono ?_
        rintro r w7 ⟨rfl, hb7⟩
        have I7 := I6.below hb7
        have D77 := D76.below hb7
        have D87 := hD8.below hb7
        have Z7 := Z6.below hb7
        go_wp2_with fail
        refine hK.out _ _ ?_ (fun hHeld => ?_)
        · exact I7.cells
        clear hK K
        try simp only [Act.put, List.setIfInBounds_toArray, List.set_cons_zero, List.set_cons_succ]
        refine wpAnyH_ready (rs := [17]) (by kernel_rfl) (by simp) ?_
        refine AllReadyH.cons rfl (fun K hK => ?_) AllReadyH.nil
        have r0 := Z7.cell 0
        have r1 := Z7.cell 1
        have r2 := Z7.cell 2
        have f0 := Z7.frozen 0
        have f1 := Z7.frozen 1
        have f2 := Z7.frozen 2
        go_simp
        refine hK.out _ _ ?_ (fun hHeld => ?_)
        · exact I7.cells3 hgz.out _ _ _
        clear hK K
        try simp only [Act.put, List.setIfInBounds_toArray, List.set_cons_zero, List.set_cons_succ]
        refine wpAnyH_done (by kernel_rfl) ?_ _
        go_wp2_with fail
        go_meet
        exact ⟨_, A7, m7, c7, us7, A8, m8, c8, us8, rfl, ((Z7.set_ 0 _).set_ 1 _).set_ 2 _, D77.set3 Z7 _ _ _, hN7, hv7, hm7, D87.set3 Z7 _ _ _, hN8, hv8, hm8, ((I7.r.far hg2.out _).far hg2.out _).far hg2.out _, bel_set3 I7.bel hg3.out _ _ _⟩
      refine AllReadyH.cons rfl (fun K hK => ?_) AllReadyH.nil
      go_simp
      refine hK.out _ _ ?_ (fun hHeld => ?_)
      · exact (I0.drew.alloc _).cells
      clear hK K
      try simp only [Act.put, List.setIfInBounds_toArray, List.set_cons_zero, List.set_cons_succ]
      have Ia := I0.drew.alloc (.cells #[.bool false, .slice none 0 0, .slice none 0 0] 67)
      have Za : Blk ((wa.drew : World).alloc (.cells #[.bool false, .slice none 0 0, .slice none 0 0] 67)) wa.heap.size 67 #[.bool false, .slice none 0 0, .slice none 0 0] := Blk.new wa.drew 67 #[.bool false, .slice none 0 0, .slice none 0 0]
      have hgz := Lib.hid (show g1 ≠ wa.heap.size by have h1 := hlt1; skip; omega)
      have hg2 := Lib.hid (show w.heap.size + 1 ≠ wa.heap.size by have h1 := hlt2; skip; omega)
      have hg3 := Lib.hid (show w.heap.size ≤ wa.heap.size by have h1 := hlt2; skip; omega)
      refine wpAnyH_ready (rs := [10]) (by kernel_rfl) (by simp) ?_
      refine AllReadyH.cons rfl (fun K hK => ?_) AllReadyH.nil
      go_simp
      refine (pow64_any _ _ _ _ E _ _ Ia.d5 N hv5 (by omega) (by omega) (by omega) (by omega)).mono ?_
      rintro r w5 ⟨A7, m7, c7, us7, rfl, hD7, hN7, hv7, hm7, hb5⟩
      have I5 := Ia.below hb5
      have Z5 := Za.below hb5
      go_wp2_with fail
      refine hK.out _ _ ?_ (fun hHeld => ?_)
      · exact I5.cells
      clear hK K
      try simp only [Act.put, List.setIfInBounds_toArray, List.set_cons_zero, List.set_cons_succ]
      refine wpAnyH_ready (rs := [14]) (by kernel_rfl) (by simp) ?_
      refine AllReadyH.cons rfl (fun K hK => ?_) AllReadyH.nil
      go_simp
      refine (pow64_any _ _ _ _ E _ _ I5.d6 D hv6 (by omega) (by omega) (by omega) (by omega)).mono ?_
      rintro r w6 ⟨A8, m8, c8, us8, rfl, hD8, hN8, hv8, hm8, hb6⟩
      have I6 := I5.below hb6
      have D76 := hD7.below hb6
      have Z6 := Z5.below hb6
      go_wp2_with fail
      refine hK.out _ _ ?_ (fun hHeld => ?_)
      · exact I6.cells
      clear hK K
      try simp only [Act.put, List.setIfInBounds_toArray, List.set_cons_zero, List.set_cons_succ]
      refine wpAnyH_ready (rs := [15]) (by kernel_rfl) (by simp) ?_
      refine AllReadyH.cons rfl (fun K hK => ?_) AllReadyH.nil
      go_simp
      refine (signed_any _ _ _ _ _ _ _ _ (by omega)).mono ?_
      rintro r w7 ⟨rfl, hb7⟩
      have I7 := I6.below hb7
      have D77 := D76.below hb7
      have D87 := hD8.below hb7
      have Z7 := Z6.below hb7
      go_wp2_with fail
      refine hK.out _ _ ?_ (fun hHeld => ?_)
      · exact I7.cells
      clear hK K
      try simp only [Act.put, List.setIfInBounds_toArray, List.set_cons_zero, List.set_cons_succ]
      refine wpAnyH_ready (rs := [17]) (by kernel_rfl) (by simp) ?_
      refine AllReadyH.cons rfl (fun K hK => ?_) AllReadyH.nil
      have r0 := Z7.cell 0
      have r1 := Z7.cell 1
      have r2 := Z7.cell 2
      have f0 := Z7.frozen 0
      have f1 := Z7.frozen 1
      have f2 := Z7.frozen 2
      go_simp
      refine hK.out _ _ ?_ (fun hHeld => ?_)
      · exact I7.cells3 hgz.out _ _ _
      clear hK K
      try simp only [Act.put, List.setIfInBounds_toArray, List.set_cons_zero, List.set_cons_succ]
      refine wpAnyH_done (by kernel_rfl) ?_ _
      go_wp2_with fail
      go_meet
      exact ⟨_, A7, m7, c7, us7, A8, m8, c8, us8, rfl, ((Z7.set_ 0 _).set_ 1 _).set_ 2 _, D77.set3 Z7 _ _ _, hN7, hv7, hm7, D87.set3 Z7 _ _ _, hN8, hv8, hm8, ((I7.r.far hg2.out _).far hg2.out _).far hg2.out _, bel_set3 I7.bel hg3.out _ _ _⟩
    case rest =>
      clear I0 k0 k1 k2 hlt1 hlt2
      obtain ⟨g, A7, m7, c7, us7, A8, m8, c8, us8, rfl, G1, D7, N7, V7, M7, D8, N8, V8, M8, R, hwc⟩ := hcut
      have g0 := G1.cell 0
      have g1 := G1.cell 1
      have g2 := G1.cell 2
      have hRL : RL _ (.agg #[.bool false, .slice A7 m7 c7, .slice A8 m8 c8]) (q1 ^ n) E := ⟨_, _, by rw [show false = decide ((q1 ^ n).num < 0) from hsgn.out], NV.mk D7 N7 (show _ = _ by rw [V7.out, hNum.out, Rat.num_pow, Int.natAbs_pow]) M7, NV.mk D8 N8 (show _ = _ by rw [V8.out, hDen.out, Rat.den_pow]) M8⟩
      go_wp2_with fail
      refine (keepO _ (q1 ^ n) E _ hRL (by omega)).mono ?_
      rintro r w8 ⟨_, rfl, hq8, hb8⟩
      have R2 := R.below hb8
      have hw8 := hwc.trans (hb8.mono hwc.size)
      have r0 := R2.cell 0
      have r1 := R2.cell 1
      have r2 := R2.cell 2
      have f0 := R2.frozen 0
      have f1 := R2.frozen 1
      have f2 := R2.frozen 2
      obtain ⟨s8, A9, m9, c9, A10, m10, c10, rfl⟩ := hq8.form
      go_wp2
      exact ret_frac2 rfl rfl (((R2.set_ 0 _).set_ 1 _).set_ 2 _) rfl ⟨_, rfl, (hq8.set3 R2 _ _ _).lower hwc.size, bel_set3 hw8 (by omega) _ _ _⟩
  | true =>
    obtain ⟨rr, hrr⟩ : ∃ rr : Int, ((n % 2 : Nat) : Int) = rr := ⟨_, rfl⟩
    have hrr2 : IntKind.i64.wrap (((n : Int)).tmod 2) = rr := by rw [← hrr]; show IntKind.i64.wrap (Int.tmod (n : Int) 2) = _; rw [show Int.tmod (n : Int) 2 = ((n % 2 : Nat) : Int) from (Int.ofNat_tmod n 2).symm]; exact IntWalk.i64_in _ (by omega)
    have hrr3 : Int.tmod (n : Int) 2 = rr := by rw [← hrr]; exact (Int.ofNat_tmod n 2).symm
    obtain ⟨od, hod⟩ : ∃ od, decide (n % 2 = 1) = od := ⟨_, rfl⟩
    have hod2 : (rr == 1) = od := by
      rw [← hod, ← hrr]
      rcases Nat.mod_two_eq_zero_or_one n with h9 | h9 <;> rw [h9] <;> rfl
    have hsgn : Hid ((od && decide (0 < N ^ n)) = decide ((q1 ^ n).num < 0)) := by show _ = _; rw [← hsq.out, hod]; rfl
    clear hrr hod
    have I0 : PwI true w g1 (w.heap.size + 1) A3 A4 m3 c3 m4 c4 us5 us6 wa := ⟨hD5, hD6, E3, E2, hw5⟩
    clear E2 E3 hw5 hD5 hD6 D2 hw4 hb4 hsq
    have k0 := I0.cells.1
    have k1 := I0.cells.2.1
    have k2 := I0.cells.2.2
    go_cut [7] (fun v wx => ∃ g A7 m7 c7 us7 A8 m8 c8 us8, v = .pointer (some ⟨g, 0, none⟩) ∧ Blk wx g 67 #[.bool (od && decide (0 < m7)), .slice A7 m7 c7, .slice A8 m8 c8] ∧ Dg .u64 wx A7 m7 c7 us7 ∧ Nrm us7 ∧ Hid (vl (bs .u64) us7 = N ^ n) ∧ m7 ≤ E ∧ Dg .u64 wx A8 m8 c8 us8 ∧ Nrm us8 ∧ Hid (vl (bs .u64) us8 = D ^ n) ∧ m8 ≤ E ∧ Blk wx (w.heap.size + 1) 24 #[.bool false, .slice none 0 0, .slice none 0 0] ∧ Below w.heap.size w wx)
    case first =>
      refine wp_region_held_drew (S := (fun wx => wx.cell? ⟨g1, 0, none⟩ = some (.bool true) ∧ wx.cell? ⟨g1, 1, none⟩ = some (.slice A3 m3 c3) ∧ wx.cell? ⟨g1, 2, none⟩ = some (.slice A4 m4 c4))) (by kernel_rfl) I0.drew.cells (fun hHeld => ?_)
      refine wpAnyH_take (i := 0) (v := .pointer (some ⟨g1, 0, none⟩)) rfl (by kernel_rfl) (by kernel_rfl) (by kernel_rfl) (fun _ _ _ h => h) (Or.inl ⟨by kernel_rfl, by (intro w hSw; (try dsimp only at hSw); go_simp; try exact hrr3)⟩) hHeld ?_
      try simp only [Act.put, List.setIfInBounds_toArray, List.set_cons_zero, List.set_cons_succ]
      refine wpAnyH_take (i := 1) (v := .bool true) rfl (by kernel_rfl) (by kernel_rfl) (by kernel_rfl) (fun _ _ _ h => h) (Or.inl ⟨by kernel_rfl, by (intro w hSw; (try dsimp only at hSw); go_simp; try exact hrr3)⟩) hHeld ?_
      try simp only [Act.put, List.setIfInBounds_toArray, List.set_cons_zero, List.set_cons_succ]
      refine wpAnyH_take (i := 2) (v := .bool true) rfl (by kernel_rfl) (by kernel_rfl) (by kernel_rfl) (fun _ _ _ h => h) (Or.inl ⟨by kernel_rfl, by (intro w hSw; (try dsimp only at hSw); go_simp; try exact hrr3)⟩) hHeld ?_
      try simp only [Act.put, List.setIfInBounds_toArray, List.set_cons_zero, List.set_cons_succ]
      refine wpAnyH_take (i := 3) (v := .int .i64 (n : Int)) rfl (by kernel_rfl) (by kernel_rfl) (by kernel_rfl) (fun _ _ _ h => h) (Or.inl ⟨by kernel_rfl, by (intro w hSw; (try dsimp only at hSw); go_simp; try exact hrr3)⟩) hHeld ?_
      try simp only [Act.put, List.setIfInBounds_toArray, List.set_cons_zero, List.set_cons_succ]
      refine wpAnyH_take (i := 4) (v := .int .i64 rr) rfl (by kernel_rfl) (by kernel_rfl) (by kernel_rfl) (fun _ _ _ h => h) (Or.inl ⟨by kernel_rfl, by (intro w hSw; (try dsimp only at hSw); go_simp; try exact hrr3)⟩) hHeld ?_
      try simp only [Act.put, List.setIfInBounds_toArray, List.set_cons_zero, List.set_cons_succ]
      refine wpAnyH_take (i := 5) (v := .bool od) rfl (by kernel_rfl) (by kernel_rfl) (by kernel_rfl) (fun _ _ _ h => h) (Or.inl ⟨by kernel_rfl, by (intro w hSw; (try dsimp only at hSw); go_simp; try exact hrr3)⟩) hHeld ?_
      try simp only [Act.put, List.setIfInBounds_toArray, List.set_cons_zero, List.set_cons_succ]
      refine wpAnyH_take (i := 6) (v := .bool od) rfl (by kernel_rfl) (by kernel_rfl) (by kernel_rfl) (fun _ _ _ h => h) (Or.inl ⟨by kernel_rfl, by (intro w hSw; (try dsimp only at hSw); go_simp; try exact hrr3)⟩) hHeld ?_
      try simp only [Act.put, List.setIfInBounds_toArray, List.set_cons_zero, List.set_cons_succ]
      refine wpAnyH_take (i := 7) (v := .pointer (some ⟨g1, 1, none⟩)) rfl (by kernel_rfl) (by kernel_rfl) (by kernel_rfl) (fun _ _ _ h => h) (Or.inl ⟨by kernel_rfl, by (intro w hSw; (try dsimp only at hSw); go_simp; try exact hrr3)⟩) hHeld ?_
      try simp only [Act.put, List.setIfInBounds_toArray, List.set_cons_zero, List.set_cons_succ]
      refine wpAnyH_take (i := 8) (v := .slice A3 m3 c3) rfl (by kernel_rfl) (by kernel_rfl) (by kernel_rfl) (fun _ _ _ h => h) (Or.inl ⟨by kernel_rfl, by (intro w hSw; (try dsimp only at hSw); go_simp; try exact hrr3)⟩) hHeld ?_
      try simp only [Act.put, List.setIfInBounds_toArray, List.set_cons_zero, List.set_cons_succ]
      refine wpAnyH_take (i := 9) (v := .int .i64 (n : Int)) rfl (by kernel_rfl) (by kernel_rfl) (by kernel_rfl) (fun _ _ _ h => h) (Or.inl ⟨by kernel_rfl, by (intro w hSw; (try dsimp only at hSw); go_simp; try exact hrr3)⟩) hHeld ?_
      try simp only [Act.put, List.setIfInBounds_toArray, List.set_cons_zero, List.set_cons_succ]
      refine wpAnyH_take (i := 11) (v := .pointer (some ⟨g1, 2, none⟩)) rfl (by kernel_rfl) (by kernel_rfl) (by kernel_rfl) (fun _ _ _ h => h) (Or.inl ⟨by kernel_rfl, by (intro w hSw; (try dsimp only at hSw); go_simp; try exact hrr3)⟩) hHeld ?_
      try simp only [Act.put, List.setIfInBounds_toArray, List.set_cons_zero, List.set_cons_succ]
      refine wpAnyH_take (i := 12) (v := .slice A4 m4 c4) rfl (by kernel_rfl) (by kernel_rfl) (by kernel_rfl) (fun _ _ _ h => h) (Or.inl ⟨by kernel_rfl, by (intro w hSw; (try dsimp only at hSw); go_simp; try exact hrr3)⟩) hHeld ?_
      try simp only [Act.put, List.setIfInBounds_toArray, List.set_cons_zero, List.set_cons_succ]
      refine wpAnyH_take (i := 13) (v := .int .i64 (n : Int)) rfl (by kernel_rfl) (by kernel_rfl) (by kernel_rfl) (fun _ _ _ h => h) (Or.inl ⟨by kernel_rfl, by (intro w hSw; (try dsimp only at hSw); go_simp; try exact hrr3)⟩) hHeld ?_
      try simp only [Act.put, List.setIfInBounds_toArray, List.set_cons_zero, List.set_cons_succ]
      refine wpAnyH_ready (rs := [10, 16]) (by kernel_rfl) (by simp) ?_
      refine AllReadyH.cons rfl (fun K hK => ?_) ?_
      · skip
        go_simp
        refine (pow64_any _ _ _ _ E _ _ I0.drew.d5 N hv5 (by omega) (by omega) (by omega) (by omega)).mono ?_
        rintro r w5 ⟨A7, m7, c7, us7, rfl, hD7, hN7, hv7, hm7, hb5⟩
        have I5 := I0.drew.below hb5
        have hs5 : wa.heap.size ≤ w5.heap.size := hb5.size
        go_wp2_with fail
        refine hK.out _ _ ?_ (fun hHeld => ?_)
        · exact I5.cells
        clear hK K
        try simp only [Act.put, List.setIfInBounds_toArray, List.set_cons_zero, List.set_cons_succ]
        refine wpAnyH_ready (rs := [14, 16]) (by kernel_rfl) (by simp) ?_
        refine AllReadyH.cons rfl (fun K hK => ?_) ?_
        · skip
          go_simp
          refine (pow64_any _ _ _ _ E _ _ I5.d6 D hv6 (by omega) (by omega) (by omega) (by omega)).mono ?_
          rintro r w6 ⟨A8, m8, c8, us8, rfl, hD8, hN8, hv8, hm8, hb6⟩
          have I6 := I5.below hb6
          have D76 := hD7.below hb6
          have hs6 : w5.heap.size ≤ w6.heap.size := hb6.size
          go_wp2_with fail
          refine hK.out _ _ ?_ (fun hHeld => ?_)
          · exact I6.cells
          clear hK K
          try simp only [Act.put, List.setIfInBounds_toArray, List.set_cons_zero, List.set_cons_succ]
          refine wpAnyH_ready (rs := [15, 16]) (by kernel_rfl) (by simp) ?_
          refine AllReadyH.cons rfl (fun K hK => ?_) ?_
          · skip
            go_simp
            refine (signed_any _ _ _ _ _ _ _ _ (by omega)).mono ?_
            rintro r w7 ⟨rfl, hb7⟩
            have I7 := I6.below hb7
            have D77 := D76.below hb7
            have D87 := hD8.below hb7
            have hs7 : w6.heap.size ≤ w7.heap.size := hb7.size
            go_wp2_with fail
            refine hK.out _ _ ?_ (fun hHeld => ?_)
            · exact I7.cells
            clear hK K
            try simp only [Act.put, List.setIfInBounds_toArray, List.set_cons_zero, List.set_cons_succ]
            refine wpAnyH_ready (rs := [16]) (by kernel_rfl) (by simp) ?_
            refine AllReadyH.cons rfl (fun K hK => ?_) AllReadyH.nil
            go_simp
            refine hK.out _ _ ?_ (fun hHeld => ?_)
            · exact (I7.alloc _).cells
            clear hK K
            try simp only [Act.put, List.setIfInBounds_toArray, List.set_cons_zero, List.set_cons_succ]
            have Ia := I7.alloc (.cells #[.bool false, .slice none 0 0, .slice none 0 0] 67)
            have Za : Blk ((w7 : World).alloc (.cells #[.bool false, .slice none 0 0, .slice none 0 0] 67)) (w7 : World).heap.size 67 #[.bool false, .slice none 0 0, .slice none 0 0] := Blk.new w7 67 #[.bool false, .slice none 0 0, .slice none 0 0]
            have hgz := Lib.hid (show g1 ≠ (w7 : World).heap.size by have h1 := hlt1; skip; have h5 := hs5; have h6 := hs6; have h7 := hs7; omega)
            have hg2 := Lib.hid (show w.heap.size + 1 ≠ (w7 : World).heap.size by have h1 := hlt2; skip; have h5 := hs5; have h6 := hs6; have h7 := hs7; omega)
            have hg3 := Lib.hid (show w.heap.size ≤ (w7 : World).heap.size by have h1 := hlt2; skip; have h5 := hs5; have h6 := hs6; have h7 := hs7; omega)
            have D7a := D77.alloc (.cells #[.bool false, .slice none 0 0, .slice none 0 0] 67)
            have D8a := D87.alloc (.cells #[.bool false, .slice none 0 0, .slice none 0 0] 67)
            refine wpAnyH_ready (rs := [17]) (by kernel_rfl) (by simp) ?_
            refine AllReadyH.cons rfl (fun K hK => ?_) AllReadyH.nil
            have r0 := Za.cell 0
            have r1 := Za.cell 1
            have r2 := Za.cell 2
            have f0 := Za.frozen 0
            have f1 := Za.frozen 1
            have f2 := Za.frozen 2
            go_simp
            refine hK.out _ _ ?_ (fun hHeld => ?_)
            · exact (I7.alloc _).cells
            clear hK K
            try simp only [Act.put, List.setIfInBounds_toArray, List.set_cons_zero, List.set_cons_succ]
            refine wpAnyH_done (by kernel_rfl) ?_ _
            go_wp2_with fail
            go_meet
            exact ⟨_, A7, m7, c7, us7, A8, m8, c8, us8, rfl, Blk.new _ _ _, D77.alloc _, hN7, hv7, hm7, D87.alloc _, hN8, hv8, hm8, I7.r.alloc _, I7.bel.alloc I7.bel.size _⟩
          refine AllReadyH.cons rfl (fun K hK => ?_) AllReadyH.nil
          go_simp
          refine hK.out _ _ ?_ (fun hHeld => ?_)
          · exact (I6.alloc _).cells
          clear hK K
          try simp only [Act.put, List.setIfInBounds_toArray, List.set_cons_zero, List.set_cons_succ]
          have Ia := I6.alloc (.cells #[.bool false, .slice none 0 0, .slice none 0 0] 67)
          have Za : Blk ((w6 : World).alloc (.cells #[.bool false, .slice none 0 0, .slice none 0 0] 67)) (w6 : World).heap.size 67 #[.bool false, .slice none 0 0, .slice none 0 0] := Blk.new w6 67 #[.bool false, .slice none 0 0, .slice none 0 0]
          have hgz := Lib.hid (show g1 ≠ (w6 : World).heap.size by have h1 := hlt1; skip; have h5 := hs5; have h6 := hs6; omega)
          have hg2 := Lib.hid (show w.heap.size + 1 ≠ (w6 : World).heap.size by have h1 := hlt2; skip; have h5 := hs5; have h6 := hs6; omega)
          have hg3 := Lib.hid (show w.heap.size ≤ (w6 : World).heap.size by have h1 := hlt2; skip; have h5 := hs5; have h6 := hs6; omega)
          have D7a := D76.alloc (.cells #[.bool false, .slice none 0 0, .slice none 0 0] 67)
          have D8a := hD8.alloc (.cells #[.bool false, .slice none 0 0, .slice none 0 0] 67)
          refine wpAnyH_ready (rs := [15]) (by kernel_rfl) (by simp) ?_
          refine AllReadyH.cons rfl (fun K hK => ?_) AllReadyH.nil
          go_simp
          refine (signed_any _ _ _ _ _ _ _ _ (by omega)).mono ?_
          rintro r w7 ⟨rfl, hb7⟩
          have I7 := Ia.below hb7
          have D77 := D7a.below hb7
          have D87 := D8a.below hb7
          have Z7 := Za.below hb7
          go_wp2_with fail
          refine hK.out _ _ ?_ (fun hHeld => ?_)
          · exact I7.cells
          clear hK K
          try simp only [Act.put, List.setIfInBounds_toArray, List.set_cons_zero, List.set_cons_succ]
          refine wpAnyH_ready (rs := [17]) (by kernel_rfl) (by simp) ?_
          refine AllReadyH.cons rfl (fun K hK => ?_) AllReadyH.nil
          have r0 := Z7.cell 0
          have r1 := Z7.cell 1
          have r2 := Z7.cell 2
          have f0 := Z7.frozen 0
          have f1 := Z7.frozen 1
          have f2 := Z7.frozen 2
          go_simp
          refine hK.out _ _ ?_ (fun hHeld => ?_)
          · exact I7.cells3 hgz.out _ _ _
          clear hK K
          try simp only [Act.put, List.setIfInBounds_toArray, List.set_cons_zero, List.set_cons_succ]
          refine wpAnyH_done (by kernel_rfl) ?_ _
          go_wp2_with fail
          go_meet
          exact ⟨_, A7, m7, c7, us7, A8, m8, c8, us8, rfl, ((Z7.set_ 0 _).set_ 1 _).set_ 2 _, D77.set3 Z7 _ _ _, hN7, hv7, hm7, D87.set3 Z7 _ _ _, hN8, hv8, hm8, ((I7.r.far hg2.out _).far hg2.out _).far hg2.out _, bel_set3 I7.bel hg3.out _ _ _⟩
        refine AllReadyH.cons rfl (fun K hK => ?_) AllReadyH.nil
        go_simp
        refine hK.out _ _ ?_ (fun hHeld => ?_)
        · exact (I5.alloc _).cells
        clear hK K
        try simp only [Act.put, List.setIfInBounds_toArray, List.set_cons_zero, List.set_cons_succ]
        have Ia := I5.alloc (.cells #[.bool false, .slice none 0 0, .slice none 0 0] 67)
        have Za : Blk ((w5 : World).alloc (.cells #[.bool false, .slice none 0 0, .slice none 0 0] 67)) (w5 : World).heap.size 67 #[.bool false, .slice none 0 0, .slice none 0 0] := Blk.new w5 67 #[.bool false, .slice none 0 0, .slice none 0 0]
        have hgz := Lib.hid (show g1 ≠ (w5 : World).heap.size by have h1 := hlt1; skip; have h5 := hs5; omega)
        have hg2 := Lib.hid (show w.heap.size + 1 ≠ (w5 : World).heap.size by have h1 := hlt2; skip; have h5 := hs5; omega)
        have hg3 := Lib.hid (show w.heap.size ≤ (w5 : World).heap.size by have h1 := hlt2; skip; have h5 := hs5; omega)
        have D7a := hD7.alloc (.cells #[.bool false, .slice none 0 0, .slice none 0 0] 67)
        refine wpAnyH_ready (rs := [14]) (by kernel_rfl) (by simp) ?_
        refine AllReadyH.cons rfl (fun K hK => ?_) AllReadyH.nil
        go_simp
        refine (pow64_any _ _ _ _ E _ _ Ia.d6 D hv6 (by omega) (by omega) (by omega) (by omega)).mono ?_
        rintro r w6 ⟨A8, m8, c8, us8, rfl, hD8, hN8, hv8, hm8, hb6⟩
        have I6 := Ia.below hb6
        have D76 := D7a.below hb6
        have Z6 := Za.below hb6
        go_wp2_with fail
        refine hK.out _ _ ?_ (fun hHeld => ?_)
        · exact I6.cells
        clear hK K
        try simp only [Act.put, List.setIfInBounds_toArray, List.set_cons_zero, List.set_cons_succ]
        refine wpAnyH_ready (rs := [15]) (by kernel_rfl) (by simp) ?_
        refine AllReadyH.cons rfl (fun K hK => ?_) AllReadyH.nil
        go_simp
        refine (signed_any _ _ _ _ _ _ _ _ (by omega)).mono ?_
        rintro r w7 ⟨rfl, hb7⟩
        have I7 := I6.below hb7
        have D77 := D76.below hb7
        have D87 := hD8.below hb7
        have Z7 := Z6.below hb7
        go_wp2_with fail
        refine hK.out _ _ ?_ (fun hHeld => ?_)
        · exact I7.cells
        clear hK K
        try simp only [Act.put, List.setIfInBounds_toArray, List.set_cons_zero, List.set_cons_succ]
        refine wpAnyH_ready (rs := [17]) (by kernel_rfl) (by simp) ?_
        refine AllReadyH.cons rfl (fun K hK => ?_) AllReadyH.nil
        have r0 := Z7.cell 0
        have r1 := Z7.cell 1
        have r2 := Z7.cell 2
        have f0 := Z7.frozen 0
        have f1 := Z7.frozen 1
        have f2 := Z7.frozen 2
        go_simp
        refine hK.out _ _ ?_ (fun hHeld => ?_)
        · exact I7.cells3 hgz.out _ _ _
        clear hK K
        try simp only [Act.put, List.setIfInBounds_toArray, List.set_cons_zero, List.set_cons_succ]
        refine wpAnyH_done (by kernel_rfl) ?_ _
        go_wp2_with fail
        go_meet
        exact ⟨_, A7, m7, c7, us7, A8, m8, c8, us8, rfl, ((Z7.set_ 0 _).set_ 1 _).set_ 2 _, D77.set3 Z7 _ _ _, hN7, hv7, hm7, D87.set3 Z7 _ _ _, hN8, hv8, hm8, ((I7.r.far hg2.out _).far hg2.out _).far hg2.out _, bel_set3 I7.bel hg3.out _ _ _⟩
      refine AllReadyH.cons rfl (fun K hK => ?_) AllReadyH.nil
      go_simp
      refine hK.out _ _ ?_ (fun hHeld => ?_)
      · exact (I0.drew.alloc _).cells
      clear hK K
      try simp only [Act.put, List.setIfInBounds_toArray, List.set_cons_zero, List.set_cons_succ]
      have Ia := I0.drew.alloc (.cells #[.bool false, .slice none 0 0, .slice none 0 0] 67)
      have Za : Blk ((wa.drew : World).alloc (.cells #[.bool false, .slice none 0 0, .slice none 0 0] 67)) wa.heap.size 67 #[.bool false, .slice none 0 0, .slice none 0 0] := Blk.new wa.drew 67 #[.bool false, .slice none 0 0, .slice none 0 0]
      have hgz := Lib.hid (show g1 ≠ wa.heap.size by have h1 := hlt1; skip; omega)
      have hg2 := Lib.hid (show w.heap.size + 1 ≠ wa.heap.size by have h1 := hlt2; skip; omega)
      have hg3 := Lib.hid (show w.heap.size ≤ wa.heap.size by have h1 := hlt2; skip; omega)
      refine wpAnyH_ready (rs := [10]) (by kernel_rfl) (by simp) ?_
      refine AllReadyH.cons rfl (fun K hK => ?_) AllReadyH.nil
      go_simp
      refine (pow64_any _ _ _ _ E _ _ Ia.d5 N hv5 (by omega) (by omega) (by omega) (by omega)).mono ?_
      rintro r w5 ⟨A7, m7, c7, us7, rfl, hD7, hN7, hv7, hm7, hb5⟩
      have I5 := Ia.below hb5
      have Z5 := Za.below hb5
      go_wp2_with fail
      refine hK.out _ _ ?_ (fun hHeld => ?_)
      · exact I5.cells
      clear hK K
      try simp only [Act.put, List.setIfInBounds_toArray, List.set_cons_zero, List.set_cons_succ]
      refine wpAnyH_ready (rs := [14]) (by kernel_rfl) (by simp) ?_
      refine AllReadyH.cons rfl (fun K hK => ?_) AllReadyH.nil
      go_simp
      refine (pow64_any _ _ _ _ E _ _ I5.d6 D hv6 (by omega) (by omega) (by omega) (by omega)).mono ?_
      rintro r w6 ⟨A8, m8, c8, us8, rfl, hD8, hN8, hv8, hm8, hb6⟩
      have I6 := I5.below hb6
      have D76 := hD7.below hb6
      have Z6 := Z5.below hb6
      go_wp2_with fail
      refine hK.out _ _ ?_ (fun hHeld => ?_)
      · exact I6.cells
      clear hK K
      try simp only [Act.put, List.setIfInBounds_toArray, List.set_cons_zero, List.set_cons_succ]
      refine wpAnyH_ready (rs := [15]) (by kernel_rfl) (by simp) ?_
      refine AllReadyH.cons rfl (fun K hK => ?_) AllReadyH.nil
      go_simp
      refine (signed_any _ _ _ _ _ _ _ _ (by omega)).mono ?_
      rintro r w7 ⟨rfl, hb7⟩
      have I7 := I6.below hb7
      have D77 := D76.below hb7
      have D87 := hD8.below hb7
      have Z7 := Z6.below hb7
      go_wp2_with fail
      refine hK.out _ _ ?_ (fun hHeld => ?_)
      · exact I7.cells
      clear hK K
      try simp only [Act.put, List.setIfInBounds_toArray, List.set_cons_zero, List.set_cons_succ]
      refine wpAnyH_ready (rs := [17]) (by kernel_rfl) (by simp) ?_
      refine AllReadyH.cons rfl (fun K hK => ?_) AllReadyH.nil
      have r0 := Z7.cell 0
      have r1 := Z7.cell 1
      have r2 := Z7.cell 2
      have f0 := Z7.frozen 0
      have f1 := Z7.frozen 1
      have f2 := Z7.frozen 2
      go_simp
      refine hK.out _ _ ?_ (fun hHeld => ?_)
      · exact I7.cells3 hgz.out _ _ _
      clear hK K
      try simp only [Act.put, List.setIfInBounds_toArray, List.set_cons_zero, List.set_cons_succ]
      refine wpAnyH_done (by kernel_rfl) ?_ _
      go_wp2_with fail
      go_meet
      exact ⟨_, A7, m7, c7, us7, A8, m8, c8, us8, rfl, ((Z7.set_ 0 _).set_ 1 _).set_ 2 _, D77.set3 Z7 _ _ _, hN7, hv7, hm7, D87.set3 Z7 _ _ _, hN8, hv8, hm8, ((I7.r.far hg2.out _).far hg2.out _).far hg2.out _, bel_set3 I7.bel hg3.out _ _ _⟩
    case rest =>
      clear I0 k0 k1 k2 hlt1 hlt2
      obtain ⟨g, A7, m7, c7, us7, A8, m8, c8, us8, rfl, G1, D7, N7, V7, M7, D8, N8, V8, M8, R, hwc⟩ := hcut
      have g0 := G1.cell 0
      have g1 := G1.cell 1
      have g2 := G1.cell 2
      have hRL : RL _ (.agg #[.bool (od && decide (0 < m7)), .slice A7 m7 c7, .slice A8 m8 c8]) (q1 ^ n) E := ⟨_, _, by rw [show (od && decide (0 < m7)) = decide ((q1 ^ n).num < 0) from by rw [nv_pos D7 N7 (by decide) V7, hsgn.out]], NV.mk D7 N7 (show _ = _ by rw [V7.out, hNum.out, Rat.num_pow, Int.natAbs_pow]) M7, NV.mk D8 N8 (show _ = _ by rw [V8.out, hDen.out, Rat.den_pow]) M8⟩
      go_wp2_with fail
      refine (keepO _ (q1 ^ n) E _ hRL (by omega)).mono ?_
      rintro r w8 ⟨_, rfl, hq8, hb8⟩
      have R2 := R.below hb8
      have hw8 := hwc.trans (hb8.mono hwc.size)
      have r0 := R2.cell 0
      have r1 := R2.cell 1
      have r2 := R2.cell 2
      have f0 := R2.frozen 0
      have f1 := R2.frozen 1
      have f2 := R2.frozen 2
      obtain ⟨s8, A9, m9, c9, A10, m10, c10, rfl⟩ := hq8.form
      go_wp2
      exact ret_frac2 rfl rfl (((R2.set_ 0 _).set_ 1 _).set_ 2 _) rfl ⟨_, rfl, (hq8.set3 R2 _ _ _).lower hwc.size, bel_set3 hw8 (by omega) _ _ _⟩
end Go.Proofs.YtbgihlfblmilmaaGreatDoor.Fr

/- Appending a whole slice, nil or not, empty or not, to a row of the call's own. -/
namespace Go.Proofs.YtbgihlfblmilmaaGreatDoor.Fr
open Go.RowKit Num

theorem grown_refl (w : World) (row : Option Nat) : w.grownBy w row := ⟨rfl, rfl, rfl, Nat.le_refl _, fun _ _ _ => rfl⟩

/-- what the source's cells are -/
structure Src (w : World) (A : Option Addr) (m c : Nat) (news : List Value) (size : Nat) : Prop where
  len : news.length = m * size
  none_ : A = none → m = 0 ∧ c = 0
  cell : ∀ ad, A = some ad → ∀ j u, news[j]? = some u → w.cell? (ad.add j) = some u
  one : ∀ u ∈ news, u.oneCell' = true
theorem Src.of_dg {k : IntKind} {w : World} {A : Option Addr} {n c : Nat} {xs : List Nat} (h : Dg k w A n c xs) (hA : A = none → c = 0) : Src w A n c (dcs k xs) 1 :=
  ⟨by rw [dcs_len, h.len, Nat.mul_one], fun e => by
      have h1 := hA e
      have := h.cap
      exact ⟨by omega, h1⟩, fun ad e j u hu => by
        have hj : j < xs.length := by
          rcases Nat.lt_or_ge j xs.length with h9 | h9
          · exact h9
          · rw [List.getElem?_eq_none (by rw [dcs_len]; exact h9)] at hu; cases hu
        obtain ⟨ad', e', hc⟩ := h.cell (by rw [← h.len]; omega)
        rw [e] at e'
        injection e' with e'
        subst e'
        have h2 := hc j _ (List.getElem?_eq_getElem hj)
        rw [h2]
        unfold dcs at hu
        rw [List.getElem?_map, List.getElem?_eq_getElem hj] at hu
        exact hu, oneCell_dcs k xs⟩

section
variable {P : Program} {w : World} {o : Oper} {a : Act} {Q : Exit → Act → World → Prop}
theorem run_append_any (t ty : TypeId) (base : Nat) (e : TypeId) (i : TypeInfo) (z : Value) (size bytes : Nat) (ht : P.underlying t = some (.slice e)) (hi : P.info? e = some i) (hz : i.zero = some z)
    (hsize : i.size = size) (hby : i.bytes = bytes) (hzs : z.cells.size = size) (hsz : 0 < size)
    (v : Value) (n : Nat) (xs : List Value) (hown : w.ownsRow base e size v n xs)
    (A : Option Addr) (m c : Nat) (news : List Value) (hS : Src w A m c news size)
    (h63 : n + m ≤ maxLen) (hbytes : (n + m) * bytes ≤ 140737488355328) (hbase : base ≤ w.heap.size) :
    ∃ v' w', (Builtin.append_ #[t, t] ty #[v, .slice A m c]).run P w = .ok v' w' ∧ w'.ownsRow base e size v' (n + m) (xs ++ news) ∧ w.grownBy w' v.ownBlock ∧ (v'.ownBlock = v.ownBlock ∨ v'.ownBlock = some w.heap.size) := by
  cases A with
  | none =>
    obtain ⟨rfl, rfl⟩ := hS.none_ rfl
    have hnil : news = [] := List.eq_nil_of_length_eq_zero (by have := hS.len; omega)
    subst hnil
    rw [List.append_nil]
    exact ⟨v, w, run_append_owned_none (P := P) (w := w) base t ty e i size ht hi v n xs hown, hown, grown_refl w _, .inl rfl⟩
  | some ad =>
    obtain ⟨v', w', hr, h2, h3, _, h5⟩ := run_append_own_at (P := P) w base t ty e i z size bytes ht hi hz hsize hby hzs hsz v n xs hown ad m c news hS.len (hS.cell ad rfl) hS.one h63 hbytes hbase
    exact ⟨v', w', hr, h2, h3, h5⟩
theorem wp_append_any {K : Act → World → Prop} (s x : Operand) (t : TypeId)
    (ho : o.op = .call { callee := .builtin .append, args := #[s, x], argTypes := #[t, t] })
    (base : Nat) (e : TypeId) (i : TypeInfo) (z : Value) (size bytes : Nat) (ht : P.underlying t = some (.slice e)) (hi : P.info? e = some i) (hz : i.zero = some z)
    (hsize : i.size = size) (hby : i.bytes = bytes) (hzs : z.cells.size = size) (hsz : 0 < size)
    (v : Value) (n : Nat) (xs : List Value) (hs : a.eval s = v) (hown : w.ownsRow base e size v n xs)
    (A : Option Addr) (m c : Nat) (news : List Value) (hx : a.eval x = .slice A m c) (hS : Src w A m c news size)
    (h63 : n + m ≤ maxLen) (hbytes : (n + m) * bytes ≤ 140737488355328) (hbase : base ≤ w.heap.size)
    (h : ∀ v' w', w'.ownsRow base e size v' (n + m) (xs ++ news) → w.grownBy w' v.ownBlock → (v'.ownBlock = v.ownBlock ∨ v'.ownBlock = some w.heap.size) → K (a.put o.dst v') w') : o.wp P a w K Q := by
  obtain ⟨v', w', hr, h2, h3, h5⟩ := run_append_any (P := P) (w := w) t o.type base e i z size bytes ht hi hz hsize hby hzs hsz v n xs hown A m c news hS h63 hbytes hbase
  unfold Oper.wp execOp
  simp only [ho, resolve, invoke, builtin, Sem.run_bind, Sem.run_pure, Result.andThen_ok, List.map_toArray, List.map_cons, List.map_nil, hs, hx, hr]
  exact h v' w' h2 h3 h5
theorem wpList_append_any {ops : Array Oper} {rest : List Oper} (hgd : o.guard = none) (s x : Operand) (t : TypeId)
    (ho : o.op = .call { callee := .builtin .append, args := #[s, x], argTypes := #[t, t] })
    (base : Nat) (e : TypeId) (i : TypeInfo) (z : Value) (size bytes : Nat) (ht : P.underlying t = some (.slice e)) (hi : P.info? e = some i) (hz : i.zero = some z)
    (hsize : i.size = size) (hby : i.bytes = bytes) (hzs : z.cells.size = size) (hsz : 0 < size)
    (v : Value) (n : Nat) (xs : List Value) (hs : a.eval s = v) (hown : w.ownsRow base e size v n xs)
    (A : Option Addr) (m c : Nat) (news : List Value) (hx : a.eval x = .slice A m c) (hS : Src w A m c news size)
    (h63 : n + m ≤ maxLen) (hbytes : (n + m) * bytes ≤ 140737488355328) (hbase : base ≤ w.heap.size)
    (h : ∀ v' w', w'.ownsRow base e size v' (n + m) (xs ++ news) → w.grownBy w' v.ownBlock → (v'.ownBlock = v.ownBlock ∨ v'.ownBlock = some w.heap.size) → wpList P ops Q rest (a.put o.dst v') w') : wpList P ops Q (o :: rest) a w :=
  wpList_plain hgd fun _ hK => wp_append_any s x t ho base e i z size bytes ht hi hz hsize hby hzs hsz v n xs hs hown A m c news hx hS h63 hbytes hbase fun v' w' h2 h3 h5 => hK _ _ (h v' w' h2 h3 h5)
theorem step_append_any {ops : Array Oper} {K : Act → World → Prop} {E : Prop} (hgd : o.guard = none) (s x : Operand) (t : TypeId)
    (ho : o.op = .call { callee := .builtin .append, args := #[s, x], argTypes := #[t, t] })
    (base : Nat) (e : TypeId) (i : TypeInfo) (z : Value) (size bytes : Nat) (ht : P.underlying t = some (.slice e)) (hi : P.info? e = some i) (hz : i.zero = some z)
    (hsize : i.size = size) (hby : i.bytes = bytes) (hzs : z.cells.size = size) (hsz : 0 < size)
    (v : Value) (n : Nat) (xs : List Value) (hs : a.eval s = v) (hown : w.ownsRow base e size v n xs)
    (A : Option Addr) (m c : Nat) (news : List Value) (hx : a.eval x = .slice A m c) (hS : Src w A m c news size)
    (h63 : n + m ≤ maxLen) (hbytes : (n + m) * bytes ≤ 140737488355328) (hbase : base ≤ w.heap.size)
    (h : ∀ v' w', w'.ownsRow base e size v' (n + m) (xs ++ news) → w.grownBy w' v.ownBlock → (v'.ownBlock = v.ownBlock ∨ v'.ownBlock = some w.heap.size) → K (a.put o.dst v') w') :
    if Region.wanted o (yielded ops a.tmps) = true then Oper.wp P o a w K Q else E := by
  have hw : Region.wanted o (yielded ops a.tmps) = true := by simp [Region.wanted, hgd]
  rw [if_pos hw]
  exact wp_append_any s x t ho base e i z size bytes ht hi hz hsize hby hzs hsz v n xs hs hown A m c news hx hS h63 hbytes hbase h
end
end Go.Proofs.YtbgihlfblmilmaaGreatDoor.Fr

/- Eight results in one slice, each in memory of the calls' own; writing into their digits. -/
namespace Go.Proofs.YtbgihlfblmilmaaGreatDoor.Fr
open Go.RowKit Num

/-- the cells of eight structs; their digits lie in blocks not below N; what lay below N is as it was in wN -/
structure R8 (N : Nat) (wN w : World) (g : Nat) (cs : Array Value) : Prop where
  b : Blk w g 24 cs
  o : ∀ j, j < 8 → ∃ s A n c B m d, cs[j * 3]? = some (.bool s) ∧ cs[j * 3 + 1]? = some (.slice A n c) ∧ cs[j * 3 + 2]? = some (.slice B m d) ∧ OwA N w A n ∧ OwA N w B m ∧ n ≤ 1000 ∧ m ≤ 1000
  bel : Below N wN w
theorem R8.set {N : Nat} {wN w : World} {g : Nat} {cs : Array Value} (h : R8 N wN w g cs) {g2 : Nat} {cs2 : Array Value} (h2 : w.heap[g2]? = some (.cells cs2 63 (0, 0))) (hN : N ≤ g2) (k : Nat) (u : Value) : R8 N wN (w.setCell ⟨g2, k, none⟩ u) g cs := by
  have hne : g ≠ g2 := by
    intro e
    subst e
    have hb := h.b
    unfold Blk at hb
    rw [h2] at hb
    injection hb with hb
    injection hb with _ hb
    exact absurd hb (by decide)
  refine ⟨h.b.far (p := ⟨g2, k, none⟩) hne u, fun j hj => ?_, h.bel.setCell (p := ⟨g2, k, none⟩) hN u⟩
  obtain ⟨s, A, n, c, B, m, d, e1, e2, e3, o1, o2, b1, b2⟩ := h.o j hj
  exact ⟨s, A, n, c, B, m, d, e1, e2, e3, o1.set _ _, o2.set _ _, b1, b2⟩
theorem R8.below {N : Nat} {wN w w' : World} {g : Nat} {cs : Array Value} (h : R8 N wN w g cs) (hb : Below w.heap.size w w') (hN : N ≤ w.heap.size) : R8 N wN w' g cs :=
  ⟨h.b.below hb, fun j hj => by
    obtain ⟨s, A, n, c, B, m, d, e1, e2, e3, o1, o2, b1, b2⟩ := h.o j hj
    exact ⟨s, A, n, c, B, m, d, e1, e2, e3, o1.below hb, o2.below hb, b1, b2⟩, h.bel.trans (hb.mono hN)⟩
theorem cell_add {w : World} {g : Nat} {t : TypeId} {cs : Array Value} (h : Blk w g t cs) {k : Nat} {v : Value} (hv : cs[k]? = some v) {ad : Addr} (ha : ad = ⟨g, 0, none⟩) : w.cell? (ad.add k) = some v := by
  subst ha
  have e : ((⟨g, 0, none⟩ : Addr).add k) = ⟨g, k, none⟩ := by
    unfold Addr.add
    split
    · next h => subst h; rfl
    · simp
  rw [e, h.cell]; exact hv
theorem cell_add1 {w : World} {g : Nat} {t : TypeId} {cs : Array Value} (h : Blk w g t cs) {k i : Nat} {v : Value} (hv : cs[k + i]? = some v) {ad : Addr} (ha : ad = ⟨g, 0, none⟩) : w.cell? ⟨(ad.add k).block, (ad.add k).off + i, none⟩ = some v := by
  subst ha
  have e : ((⟨g, 0, none⟩ : Addr).add k) = ⟨g, k, none⟩ := by
    unfold Addr.add
    split
    · next h => subst h; rfl
    · simp
  rw [e]
  show w.cell? ⟨g, k + i, none⟩ = _
  rw [h.cell]; exact hv
theorem noi3c (s : Bool) (A B : Option Addr) (n c m d : Nat) : Noi #[.bool s, .slice A n c, .slice B m d] := by
  intro i v hv k x
  match i, hv with
  | 0, hv => injection hv with hv; subst hv; intro h; cases h
  | 1, hv => injection hv with hv; subst hv; intro h; cases h
  | 2, hv => injection hv with hv; subst hv; intro h; cases h
  | i + 3, hv => simp at hv
theorem Dg.setc {k : IntKind} {w : World} {A : Option Addr} {m c : Nat} {us : List Nat} (hD : Dg k w A m c us) {g : Nat} {t : TypeId} {cs : Array Value} (hB : Blk w g t cs) (hc : Noi cs) (i : Nat) (u : Value) : Dg k (w.setCell ⟨g, i, none⟩ u) A m c us := by
  refine hD.farp (fun hp ad he hg => ?_) i u
  obtain ⟨ad', y, e2, hcy, _⟩ := hD.at_ hp
  rw [he] at e2
  injection e2 with e2
  subst e2
  rw [show ad.add 0 = ad from rfl] at hcy
  unfold Blk at hB
  rw [← hg] at hB
  simp only [World.cell?, hB] at hcy
  split at hcy
  · cases hcy
  · exact hc _ _ hcy _ _ rfl
theorem r8_new {N : Nat} {wN w6 w : World} {s1 s2 s3 s4 s5 s6 s7 s8 : Bool} {A1 A2 A3 A4 A5 A6 A7 A8 B1 B2 B3 B4 B5 B6 B7 B8 : Option Addr} {n1 n2 n3 n4 n5 n6 n7 n8 c1 c2 c3 c4 c5 c6 c7 c8 m1 m2 m3 m4 m5 m6 m7 m8 d1 d2 d3 d4 d5 d6 d7 d8 : Nat} (hB : Below w6.heap.size w6 w) (hE : Below N wN w6) (hN6 : N ≤ w6.heap.size)
    (o1 : Own N w (.agg #[.bool s1, .slice A1 n1 c1, .slice B1 m1 d1]) ∧ n1 ≤ 1000 ∧ m1 ≤ 1000) (o2 : Own N w (.agg #[.bool s2, .slice A2 n2 c2, .slice B2 m2 d2]) ∧ n2 ≤ 1000 ∧ m2 ≤ 1000) (o3 : Own N w (.agg #[.bool s3, .slice A3 n3 c3, .slice B3 m3 d3]) ∧ n3 ≤ 1000 ∧ m3 ≤ 1000) (o4 : Own N w (.agg #[.bool s4, .slice A4 n4 c4, .slice B4 m4 d4]) ∧ n4 ≤ 1000 ∧ m4 ≤ 1000) (o5 : Own N w (.agg #[.bool s5, .slice A5 n5 c5, .slice B5 m5 d5]) ∧ n5 ≤ 1000 ∧ m5 ≤ 1000) (o6 : Own N w (.agg #[.bool s6, .slice A6 n6 c6, .slice B6 m6 d6]) ∧ n6 ≤ 1000 ∧ m6 ≤ 1000) (o7 : Own N w (.agg #[.bool s7, .slice A7 n7 c7, .slice B7 m7 d7]) ∧ n7 ≤ 1000 ∧ m7 ≤ 1000) (o8 : Own N w (.agg #[.bool s8, .slice A8 n8 c8, .slice B8 m8 d8]) ∧ n8 ≤ 1000 ∧ m8 ≤ 1000) :
    ∃ g cs, Value.slice (some ⟨w.heap.size, 0, none⟩) 8 8 = .slice (some ⟨g, 0, none⟩) 8 8 ∧ R8 N wN (w.alloc (.cells #[.bool s1, .slice A1 n1 c1, .slice B1 m1 d1, .bool s2, .slice A2 n2 c2, .slice B2 m2 d2, .bool s3, .slice A3 n3 c3, .slice B3 m3 d3, .bool s4, .slice A4 n4 c4, .slice B4 m4 d4, .bool s5, .slice A5 n5 c5, .slice B5 m5 d5, .bool s6, .slice A6 n6 c6, .slice B6 m6 d6, .bool s7, .slice A7 n7 c7, .slice B7 m7 d7, .bool s8, .slice A8 n8 c8, .slice B8 m8 d8] 24)) g cs ∧ Below w6.heap.size w6 (w.alloc (.cells #[.bool s1, .slice A1 n1 c1, .slice B1 m1 d1, .bool s2, .slice A2 n2 c2, .slice B2 m2 d2, .bool s3, .slice A3 n3 c3, .slice B3 m3 d3, .bool s4, .slice A4 n4 c4, .slice B4 m4 d4, .bool s5, .slice A5 n5 c5, .slice B5 m5 d5, .bool s6, .slice A6 n6 c6, .slice B6 m6 d6, .bool s7, .slice A7 n7 c7, .slice B7 m7 d7, .bool s8, .slice A8 n8 c8, .slice B8 m8 d8] 24)) := by
  refine ⟨_, _, rfl, ⟨Blk.new _ _ _, fun j hj => ?_, (hE.trans (hB.mono hN6)).alloc (Nat.le_trans hN6 hB.size) _⟩, hB.alloc hB.size _⟩
  match j, hj with
  | 0, _ => exact ⟨_, _, _, _, _, _, _, rfl, rfl, rfl, o1.1.get.1.alloc _, o1.1.get.2.alloc _, o1.2⟩
  | 1, _ => exact ⟨_, _, _, _, _, _, _, rfl, rfl, rfl, o2.1.get.1.alloc _, o2.1.get.2.alloc _, o2.2⟩
  | 2, _ => exact ⟨_, _, _, _, _, _, _, rfl, rfl, rfl, o3.1.get.1.alloc _, o3.1.get.2.alloc _, o3.2⟩
  | 3, _ => exact ⟨_, _, _, _, _, _, _, rfl, rfl, rfl, o4.1.get.1.alloc _, o4.1.get.2.alloc _, o4.2⟩
  | 4, _ => exact ⟨_, _, _, _, _, _, _, rfl, rfl, rfl, o5.1.get.1.alloc _, o5.1.get.2.alloc _, o5.2⟩
  | 5, _ => exact ⟨_, _, _, _, _, _, _, rfl, rfl, rfl, o6.1.get.1.alloc _, o6.1.get.2.alloc _, o6.2⟩
  | 6, _ => exact ⟨_, _, _, _, _, _, _, rfl, rfl, rfl, o7.1.get.1.alloc _, o7.1.get.2.alloc _, o7.2⟩
  | 7, _ => exact ⟨_, _, _, _, _, _, _, rfl, rfl, rfl, o8.1.get.1.alloc _, o8.1.get.2.alloc _, o8.2⟩
end Go.Proofs.YtbgihlfblmilmaaGreatDoor.Fr
