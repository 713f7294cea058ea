/- The order of readings. -/
import Derived.Test.YtpdfjlbfhnapkaaGreatDoorTS
import Derived.Sort.OwnSorted
import Derived.Laws.EntriesVeiled
namespace Go.Proofs.YtpdfjlbfhnapkaaGreatDoor
open Go.RowKit
set_option linter.unusedSimpArgs false
set_option linter.unusedVariables false
set_option maxRecDepth 100000

def cmpR (a b : Str) : Int := if Lib.compareInt (Lib.countByte a 32 : Nat) (Lib.countByte b 32 : Nat) = 0 then Lib.compareBytes a b else Lib.compareInt (Lib.countByte a 32 : Nat) (Lib.countByte b 32 : Nat)
theorem cb_cases (a b : Str) : Lib.compareBytes a b = -1 ∨ Lib.compareBytes a b = 0 ∨ Lib.compareBytes a b = 1 := by
  induction a generalizing b with
  | nil => cases b <;> simp [Lib.compareBytes]
  | cons x xs ih =>
    cases b with
    | nil => simp [Lib.compareBytes]
    | cons y ys =>
      unfold Lib.compareBytes
      split
      · simp
      · split
        · simp
        · exact ih ys
theorem cb_eq (a b : Str) : Lib.compareBytes a b = 0 ↔ a = b := by
  induction a generalizing b with
  | nil => cases b <;> simp [Lib.compareBytes]
  | cons x xs ih =>
    cases b with
    | nil => simp [Lib.compareBytes]
    | cons y ys =>
      unfold Lib.compareBytes
      split
      · rename_i h
        constructor
        · intro h2; simp at h2
        · intro h2; injection h2 with h2 _; subst h2; exact absurd h (UInt8.lt_irrefl _)
      · split
        · rename_i h
          constructor
          · intro h2; simp at h2
          · intro h2; injection h2 with h2 _; subst h2; exact absurd h (UInt8.lt_irrefl _)
        · rename_i h1 h2
          have he : x = y := by
            apply UInt8.toNat_inj.1
            have h3 : ¬ x.toNat < y.toNat := h1
            have h4 : ¬ y.toNat < x.toNat := h2
            omega
          rw [ih ys]
          constructor
          · intro h3; rw [he, h3]
          · intro h3; injection h3
theorem cb_swap (a b : Str) : Lib.compareBytes a b < 0 ↔ 0 < Lib.compareBytes b a := by
  induction a generalizing b with
  | nil => cases b <;> simp [Lib.compareBytes]
  | cons x xs ih =>
    cases b with
    | nil => simp [Lib.compareBytes]
    | cons y ys =>
      unfold Lib.compareBytes
      by_cases h1 : x < y
      · have h2 : ¬ y < x := fun h => by
          have h3 : x.toNat < y.toNat := h1
          have h4 : y.toNat < x.toNat := h
          omega
        rw [if_pos h1, if_neg h2, if_pos h1]; simp
      · rw [if_neg h1]
        by_cases h2 : y < x
        · rw [if_pos h2, if_pos h2]; simp
        · rw [if_neg h2, if_neg h2, if_neg h1]; exact ih ys
theorem cb_trans (a b c : Str) : Lib.compareBytes a b < 0 → Lib.compareBytes b c < 0 → Lib.compareBytes a c < 0 := by
  induction a generalizing b c with
  | nil =>
    cases b with
    | nil => intro h; simp [Lib.compareBytes] at h
    | cons y ys =>
      cases c with
      | nil => intro _ h; simp [Lib.compareBytes] at h
      | cons z zs => intro _ _; simp [Lib.compareBytes]
  | cons x xs ih =>
    cases b with
    | nil => intro h; simp [Lib.compareBytes] at h
    | cons y ys =>
      cases c with
      | nil => intro _ h; simp [Lib.compareBytes] at h
      | cons z zs =>
        intro h1 h2
        unfold Lib.compareBytes at h1 h2 ⊢
        have t1 : ∀ p q : UInt8, p < q ↔ p.toNat < q.toNat := fun p q => Iff.rfl
        simp only [t1] at h1 h2 ⊢
        by_cases e1 : x.toNat < y.toNat
        · by_cases e2 : y.toNat < z.toNat
          · rw [if_pos (by omega)]; decide
          · rw [if_neg e2] at h2
            by_cases e3 : z.toNat < y.toNat
            · rw [if_pos e3] at h2; exact absurd h2 (by decide)
            · rw [if_pos (by omega)]; decide
        · rw [if_neg e1] at h1
          by_cases e2 : y.toNat < x.toNat
          · rw [if_pos e2] at h1; exact absurd h1 (by decide)
          · rw [if_neg e2] at h1
            by_cases e3 : y.toNat < z.toNat
            · rw [if_pos (by omega)]; decide
            · rw [if_neg e3] at h2
              by_cases e4 : z.toNat < y.toNat
              · rw [if_pos e4] at h2; exact absurd h2 (by decide)
              · rw [if_neg e4] at h2
                rw [if_neg (by omega), if_neg (by omega)]
                exact ih ys zs h1 h2
theorem cmpR_lt (a b : Str) : cmpR a b < 0 ↔ Lib.countByte a 32 < Lib.countByte b 32 ∨ (Lib.countByte a 32 = Lib.countByte b 32 ∧ Lib.compareBytes a b < 0) := by
  unfold cmpR Lib.compareInt
  generalize Lib.countByte a 32 = m
  generalize Lib.countByte b 32 = n
  by_cases h1 : (m : Int) < (n : Int)
  · rw [if_pos h1, if_neg (by decide)]
    exact ⟨fun _ => Or.inl (by omega), fun _ => by decide⟩
  · rw [if_neg h1]
    by_cases h2 : (m : Int) > (n : Int)
    · rw [if_pos h2, if_neg (by decide)]
      exact ⟨fun h => absurd h (by decide), fun h => by omega⟩
    · rw [if_neg h2, if_pos rfl]
      exact ⟨fun h => Or.inr ⟨by omega, h⟩, fun h => by rcases h with h | h; omega; exact h.2⟩
theorem cmpR_swo : Sort.SWO (ltOf cmpR) := by
  refine ⟨fun x => ?_, fun x y z h1 h2 => ?_, fun x y z h1 h2 => ?_⟩
  · refine decide_eq_false (fun h => ?_)
    rcases (cmpR_lt x x).1 h with h | h
    · omega
    · rw [(cb_eq x x).2 rfl] at h; exact absurd h.2 (by decide)
  · have h1 := (cmpR_lt x y).1 (of_decide_eq_true h1)
    have h2 := (cmpR_lt y z).1 (of_decide_eq_true h2)
    refine decide_eq_true ((cmpR_lt x z).2 ?_)
    rcases h1 with h1 | ⟨h1, h3⟩ <;> rcases h2 with h2 | ⟨h2, h4⟩
    · left; omega
    · left; omega
    · left; omega
    · right; exact ⟨by omega, cb_trans _ _ _ h3 h4⟩
  · have h1 : ¬ cmpR x y < 0 := of_decide_eq_false h1
    have h2 : ¬ cmpR y z < 0 := of_decide_eq_false h2
    rw [cmpR_lt] at h1 h2
    refine decide_eq_false (fun h => ?_)
    have h := (cmpR_lt x z).1 h
    have k1 : ¬ Lib.countByte x 32 < Lib.countByte y 32 := fun e => h1 (Or.inl e)
    have k2 : ¬ Lib.countByte y 32 < Lib.countByte z 32 := fun e => h2 (Or.inl e)
    rcases h with h | ⟨h, h5⟩
    · omega
    · have k3 : ¬ Lib.compareBytes x y < 0 := fun e => h1 (Or.inr ⟨by omega, e⟩)
      have k4 : ¬ Lib.compareBytes y z < 0 := fun e => h2 (Or.inr ⟨by omega, e⟩)
      rcases cb_cases x y with e | e | e
      · exact k3 (by omega)
      · rw [(cb_eq x y).1 e] at h5; exact k4 h5
      · have e2 := (cb_swap y x).2 (by omega)
        exact k4 (cb_trans _ _ _ e2 h5)
/-- equal in the order, equal -/
theorem cmpR_anti {a b : Str} (h1 : ¬ cmpR a b < 0) (h2 : ¬ cmpR b a < 0) : a = b := by
  rw [cmpR_lt] at h1 h2
  have k1 : Lib.countByte a 32 = Lib.countByte b 32 := by
    have := fun e => h1 (Or.inl e)
    have := fun e => h2 (Or.inl e)
    omega
  have k3 : ¬ Lib.compareBytes a b < 0 := fun e => h1 (Or.inr ⟨k1, e⟩)
  have k4 : ¬ Lib.compareBytes b a < 0 := fun e => h2 (Or.inr ⟨k1.symm, e⟩)
  rcases cb_cases a b with e | e | e
  · exact absurd (by omega) k3
  · exact (cb_eq a b).1 e
  · exact absurd ((cb_swap b a).2 (by omega)) k4
def leR (a b : Str) : Bool := !ltOf cmpR b a
/-- readings in their order -/
def sortR (xs : List Str) : List Str := xs.mergeSort leR
theorem leR_iff (a b : Str) : leR a b = true ↔ ¬ cmpR b a < 0 := by
  unfold leR ltOf
  simp
theorem leR_trans (a b c : Str) : leR a b = true → leR b c = true → leR a c = true := by
  intro h1 h2
  have k1 : ltOf cmpR b a = false := decide_eq_false ((leR_iff a b).1 h1)
  have k2 : ltOf cmpR c b = false := decide_eq_false ((leR_iff b c).1 h2)
  have := cmpR_swo.ntrans c b a k2 k1
  unfold leR
  rw [this]; rfl
theorem leR_total (a b : Str) : (leR a b || leR b a) = true := by
  rw [Bool.or_eq_true]
  by_cases h : cmpR b a < 0
  · right
    rw [leR_iff]
    intro h2
    have h3 := cmpR_swo.trans a b a (decide_eq_true h2) (decide_eq_true h)
    rw [cmpR_swo.irrefl] at h3
    cases h3
  · left
    rw [leR_iff]; exact h
theorem sorted_unique : ∀ (xs ys : List Str), xs.Perm ys → xs.Pairwise (fun a b => leR a b = true) → ys.Pairwise (fun a b => leR a b = true) → xs = ys := by
  intro xs
  induction xs with
  | nil => intro ys h _ _; exact h.nil_eq
  | cons x xs ih =>
    intro ys h h1 h2
    cases ys with
    | nil => exact absurd h.length_eq (by simp)
    | cons y ys =>
      have hx : x ∈ y :: ys := h.subset List.mem_cons_self
      have hy : y ∈ x :: xs := h.symm.subset List.mem_cons_self
      have hxy : x = y := by
        rcases List.mem_cons.1 hx with e | e
        · exact e
        · rcases List.mem_cons.1 hy with e2 | e2
          · exact e2.symm
          · have k1 := (leR_iff _ _).1 ((List.pairwise_cons.1 h2).1 x e)
            have k2 := (leR_iff _ _).1 ((List.pairwise_cons.1 h1).1 y e2)
            exact cmpR_anti k1 k2
      subst hxy
      rw [ih ys (h.cons_inv) (List.pairwise_cons.1 h1).2 (List.pairwise_cons.1 h2).2]
theorem sortR_is {xs ys : List Str} (h : ys.Perm xs) (h2 : ys.Pairwise (fun a b => leR a b = true)) : ys = sortR xs :=
  sorted_unique _ _ (h.trans (List.mergeSort_perm xs leR).symm) h2 (List.pairwise_mergeSort leR_trans leR_total xs)
def orI (x y : Int) : Int := if x = 0 then y else x
theorem cmpOr_any (x y : Int) (g : Nat) (w : World) (hB : Blk w g 3 #[.int .i64 x, .int .i64 y]) : Calls Tryz.prog 110 #[.slice (some ⟨g, 0, none⟩) 2 2] w fun e w' => e = .returned (.int .i64 (orI x y)) ∧ w' = w := by
  have c0 : w.cell? ⟨g, 0, none⟩ = some (.int .i64 x) := hB.cell 0
  have c1 : w.cell? ⟨g, 1, none⟩ = some (.int .i64 y) := hB.cell 1
  go_enter Tryz.func110, Tryz.ntmps110
  go_wp2
  go_loopw [8] (fun iv wr' => ∃ (j : Nat) (wr : World), wr = wr' ∧ iv = .int .i64 (j : Int) ∧ j ≤ 2 ∧ Hid (0 < j → x = 0) ∧ Hid (1 < j → y = 0) ∧ wr = w) (fun iv _ => 2 - (intOf iv).toNat)
  case atStart => exact ⟨0, _, rfl, rfl, by decide, (fun h => by omega), (fun h => by omega), rfl⟩
  case round =>
    obtain ⟨j, wr, rfl, rfl, hj, h1, h2, rfl⟩ := hrel
    rcases (show j = 0 ∨ j = 1 ∨ j = 2 by omega) with rfl | rfl | rfl
    · by_cases hx : x = 0
      · have e1 : (x == 0) = true := by rw [hx]; rfl
        have hx := Lib.hid hx
        go_wp2
        exact ⟨⟨0 + 1, _, rfl, rfl, by decide, (fun _ => hx.out), (fun h => by omega), rfl⟩, by simp [intOf]⟩
      · have e1 : (x == 0) = false := by rw [beq_eq_false_iff_ne]; exact hx
        have hr := Lib.hid (show orI x y = x from if_neg hx)
        clear hx
        go_wp2
        go_ret
        exact ⟨ret_int hr.out.symm, rfl⟩
    · have hx := Lib.hid (h1.out (by decide))
      have hr := Lib.hid (show orI x y = y from if_pos hx.out)
      by_cases hy : y = 0
      · have e1 : (y == 0) = true := by rw [hy]; rfl
        have hy := Lib.hid hy
        go_wp2
        exact ⟨⟨1 + 1, _, rfl, rfl, by decide, (fun _ => hx.out), (fun _ => hy.out), rfl⟩, by simp [intOf]⟩
      · have e1 : (y == 0) = false := by rw [beq_eq_false_iff_ne]; exact hy
        clear hy
        go_wp2
        go_ret
        exact ⟨ret_int hr.out.symm, rfl⟩
    · have hr := Lib.hid (show orI x y = 0 by unfold orI; rw [if_pos (h1.out (by decide))]; exact h2.out (by decide))
      go_wp2
      go_ret
      exact ⟨ret_int hr.out.symm, rfl⟩
theorem cmpC_any (a b : Str) (w : World) : Calls Tryz.prog 109 #[.string ⟨a.toArray⟩, .string ⟨b.toArray⟩] w fun e w' => e = .returned (.int .i64 (cmpR a b)) ∧ ∃ o, w' = w.alloc o := by
  have h1 := Lib.hid (fun (s : Str) (w9 : World) => Tryz.strings_Count_one ⟨s.toArray⟩ 32 w9)
  have h2 := Lib.hid (fun (x y : Int) (w9 : World) => Tryz.cmp_Compare_int x y w9)
  have h3 := Lib.hid (fun (w9 : World) => Tryz.strings_Compare ⟨a.toArray⟩ ⟨b.toArray⟩ w9)
  have hr := Lib.hid (show cmpR a b = if Lib.compareInt (Lib.countByte a 32 : Nat) (Lib.countByte b 32 : Nat) = 0 then Lib.compareBytes a b else Lib.compareInt (Lib.countByte a 32 : Nat) (Lib.countByte b 32 : Nat) from rfl)
  go_enter Tryz.func109, Tryz.ntmps109
  go_wp2_with fail
  refine (h1.out a _).mono ?_
  rintro e w' ⟨rfl, rfl⟩
  go_wp2_with fail
  refine (h1.out b _).mono ?_
  rintro e w' ⟨rfl, rfl⟩
  go_wp2_with fail
  refine (h2.out _ _ _).mono ?_
  rintro e w' ⟨rfl, rfl⟩
  go_wp2_with fail
  refine (h3.out _).mono ?_
  rintro e w' ⟨rfl, rfl⟩
  have hr2 := Lib.hid (show orI (Lib.compareInt (Lib.countByte a 32 : Nat) (Lib.countByte b 32 : Nat)) (Lib.compareBytes a b) = cmpR a b from rfl)
  have e1 : (⟨a.toArray⟩ : ByteArray).data.toList = a := by simp
  generalize Lib.compareInt (Lib.countByte a 32 : Nat) (Lib.countByte b 32 : Nat) = C at *
  generalize Lib.compareBytes a b = D at *
  have hB := Blk.new w' 3 #[.int .i64 C, .int .i64 D]
  have ho := Lib.hid (cmpOr_any C D w'.heap.size _ hB)
  go_wp2_with fail
  refine ho.out.mono ?_
  rintro e w9 ⟨rfl, rfl⟩
  go_wp2
  go_ret
  exact ⟨ret_int hr2.out, _, rfl⟩
end Go.Proofs.YtpdfjlbfhnapkaaGreatDoor

/- Readings are sorted; readings are collected. -/
namespace Go.Proofs.YtpdfjlbfhnapkaaGreatDoor
open Go.RowKit
set_option linter.unusedSimpArgs false
set_option linter.unusedVariables false
set_option maxRecDepth 100000

theorem ins_nil (w : World) : Calls Tryz.prog 153 #[.slice none 0 0, .int .i64 0, .int .i64 0, .func (.func 109) #[] #[]] w fun e w' => e = .returned (.tuple #[]) ∧ w' = w := by
  go_enter Tryz.func153, Tryz.ntmps153
  go_wp2
  go_loopw [8] (fun iv wr => iv = .int .i64 1 ∧ wr = w) (fun _ _ => 0)
  case atStart => exact ⟨rfl, rfl⟩
  case round =>
    obtain ⟨rfl, rfl⟩ := hrel
    go_wp2
    go_end0
    exact ⟨rfl, rfl⟩
theorem pdq_nil (l : Int) (w : World) : Calls Tryz.prog 131 #[.slice none 0 0, .int .i64 0, .int .i64 0, .int .i64 l, .func (.func 109) #[] #[]] w fun e w' => e = .returned (.tuple #[]) ∧ w' = w := by
  have hi := Lib.hid (ins_nil w)
  go_enter Tryz.func131, Tryz.ntmps131
  go_wp2
  refine wp_loop_rounds 1 ?_
  rw [rounds_succ]
  go_wp2_with fail
  refine hi.out.mono ?_
  rintro e w' ⟨rfl, rfl⟩
  go_wp2
  (try simp only [Exit.inBlock, Exit.then])
  refine bodyPost_ret (results_none rfl _ _ _) rfl ?_
  exact ⟨rfl, rfl⟩
theorem sort_nil (w : World) : Calls Tryz.prog 108 #[.slice none 0 0, .func (.func 109) #[] #[]] w fun e w' => e = .returned (.tuple #[]) ∧ w' = w := by
  have hl := Lib.hid (fun w9 => Tryz.bits_Len 0 w9 (by decide) (by decide))
  have hp := Lib.hid (fun l w9 => pdq_nil l w9)
  go_enter Tryz.func108, Tryz.ntmps108
  go_wp2_with fail
  refine (hl.out _).mono ?_
  rintro e w' ⟨rfl, rfl⟩
  go_wp2_with fail
  refine (hp.out _ _).mono ?_
  rintro e w' ⟨rfl, rfl⟩
  go_wp2
  go_end0
  exact ⟨rfl, rfl⟩
theorem svs_enc (ys : List Str) : svs ys = ys.map encStr := rfl
theorem sort_any (ys : List Str) (hn : ys.length ≤ 100000) (V : Value) (base : Nat) (w : World) (hO : w.ownsRow base 9 1 V ys.length (svs ys)) :
    Calls Tryz.prog 108 #[V, .func (.func 109) #[] #[]] w fun e w' => e = .returned (.tuple #[]) ∧ w'.ownsRow base 9 1 V ys.length (svs (sortR ys)) ∧ w.grownBy w' V.ownBlock := by
  rcases hO.2 with ⟨rfl, h0⟩ | ⟨g, cap, cur, rfl, hg, hgc, hgl, hgm, hcs, ht⟩
  · have h1 : ys = [] := List.length_eq_zero_iff.1 h0
    subst h1
    refine (sort_nil w).mono ?_
    rintro e w' ⟨rfl, rfl⟩
    exact ⟨rfl, by have : sortR [] = [] := by (unfold sortR; simp)
                   rw [this]; exact World.ownsRow_nil _ _ _ _, grown_refl _ _⟩
  · have hH := holds_of_block hgc (ss := ys) (by rw [Nat.mul_one] at ht; rw [ht]; rfl)
    have hgz : g < w.heap.size := Blk.lt (show Blk w g 9 cur from hgc)
    have hsz : ys.toArray.size = ys.length := by simp
    have hS := Tryz.slices_SortFunc (α := Str) encStr (fun _ => rfl) cmpR cmpR_swo 109 #[] g 0 cap ys.toArray w (fun _ _ => rfl) (fun m os dk _ x y => by
      refine (cmpC_any x y _).mono ?_
      rintro e w' ⟨rfl, o, rfl⟩
      exact ⟨rfl, 0, #[o], by rw [Go.Sort.alloc_eq_grow]; rfl⟩) hH hgz (by rw [hsz]; omega)
    rw [hsz] at hS
    refine hS.mono ?_
    rintro e w' ⟨rfl, d', n, os, hp, hs, rfl⟩
    have hdl : d'.toList.length = ys.length := by rw [Array.length_toList, hp.1, hsz]
    have hperm : d'.toList.Perm ys := by
      have := hp.2.2
      have e1 : (d'.extract 0 ys.length).toList = d'.toList := by rw [show ys.length = d'.size by rw [hp.1, hsz]]; simp
      have e2 : (ys.toArray.extract 0 ys.length).toList = ys := by simp
      rw [e1, e2] at this
      exact this
    have hpw : d'.toList.Pairwise (fun a b => leR a b = true) := by
      rw [List.pairwise_iff_getElem]
      intro i j hi hj hij
      have := hs i j (Nat.zero_le _) hij (by omega)
      rw [Array.length_toList] at hi hj
      rw [getElem!_pos d' j hj, getElem!_pos d' i hi] at this
      unfold leR
      rw [Array.getElem_toList, Array.getElem_toList, this]; rfl
    have he := sortR_is hperm hpw
    have h9 := ownsRow_sorted (n := n) (os := os) (ss := ys) (ts := d'.toList) hdl hg hgc hgl hgm hcs
    have h8 := grownBy_sorted (w := w) (g := g) (n := n) (os := os) d'
    have e9 : d'.toList.toArray = d' := by simp
    rw [e9] at h9
    rw [svs_enc, ← he]
    exact ⟨rfl, h9, h8⟩
/-- the readings of words -/
def readR (ws : List Str) : List Str := sortR ((rd ws 0).map joinW)
set_option maxHeartbeats 8000000 in
theorem collect_any (ws : List Str) (hws : SmS ws) (hwn : ws.length ≤ 2001) (w2 : World) (g : Nat) (w : World) (hg : g + 1 < w.heap.size) (hst : St ws w2 g 0 (fun i => ((way ws i : Nat) : Int)) w) (hr : (rd ws 0).length ≤ 500) :
    Calls Tryz.prog 73 #[.slice (some ⟨g, 0, none⟩) ws.length ws.length, .slice (some ⟨g + 1, 0, none⟩) (ws.length + 1) (ws.length + 1)] w (RetW (readR ws) w) := by
  obtain ⟨n, hn⟩ : ∃ n, ws.length = n := ⟨_, rfl⟩
  have hread := Lib.hid (read_any ws hws hwn)
  have hnn := Lib.hid hn
  rw [hn]
  clear hn
  obtain ⟨b, hb⟩ : ∃ b, w.heap.size = b := ⟨_, rfl⟩
  have e1 : (w.alloc (.cells #[.slice (some ⟨g, 0, none⟩) n n] 77)).heap.size = w.heap.size + 1 := World.size_alloc _ _
  have e2 : ((w.alloc (.cells #[.slice (some ⟨g, 0, none⟩) n n] 77)).alloc (.cells #[.slice (some ⟨g + 1, 0, none⟩) (n + 1) (n + 1)] 56)).heap.size = w.heap.size + 1 + 1 := by rw [World.size_alloc, e1]
  have e3 : (((w.alloc (.cells #[.slice (some ⟨g, 0, none⟩) n n] 77)).alloc (.cells #[.slice (some ⟨g + 1, 0, none⟩) (n + 1) (n + 1)] 56)).alloc (.cells #[.slice none 0 0] 32)).heap.size = w.heap.size + 1 + 1 + 1 := by rw [World.size_alloc, e2]
  have B0 := (((Blk.new w 77 #[.slice (some ⟨g, 0, none⟩) n n]).alloc (.cells #[.slice (some ⟨g + 1, 0, none⟩) (n + 1) (n + 1)] 56)).alloc (.cells #[.slice none 0 0] 32)).alloc (.cells #[.func (.func 107) #[] #[.pointer (some ⟨w.heap.size, 0, none⟩), .pointer (some ⟨w.heap.size + 1 + 1, 0, none⟩), .pointer (some ⟨w.heap.size + 1, 0, none⟩), .pointer (some ⟨w.heap.size + 1 + 1 + 1, 0, none⟩)]] 109)
  have B1 := ((Blk.new (w.alloc (.cells #[.slice (some ⟨g, 0, none⟩) n n] 77)) 56 #[.slice (some ⟨g + 1, 0, none⟩) (n + 1) (n + 1)]).alloc (.cells #[.slice none 0 0] 32)).alloc (.cells #[.func (.func 107) #[] #[.pointer (some ⟨w.heap.size, 0, none⟩), .pointer (some ⟨w.heap.size + 1 + 1, 0, none⟩), .pointer (some ⟨w.heap.size + 1, 0, none⟩), .pointer (some ⟨w.heap.size + 1 + 1 + 1, 0, none⟩)]] 109)
  have B2 := (Blk.new ((w.alloc (.cells #[.slice (some ⟨g, 0, none⟩) n n] 77)).alloc (.cells #[.slice (some ⟨g + 1, 0, none⟩) (n + 1) (n + 1)] 56)) 32 #[.slice none 0 0]).alloc (.cells #[.func (.func 107) #[] #[.pointer (some ⟨w.heap.size, 0, none⟩), .pointer (some ⟨w.heap.size + 1 + 1, 0, none⟩), .pointer (some ⟨w.heap.size + 1, 0, none⟩), .pointer (some ⟨w.heap.size + 1 + 1 + 1, 0, none⟩)]] 109)
  have B3 := Blk.new (((w.alloc (.cells #[.slice (some ⟨g, 0, none⟩) n n] 77)).alloc (.cells #[.slice (some ⟨g + 1, 0, none⟩) (n + 1) (n + 1)] 56)).alloc (.cells #[.slice none 0 0] 32)) 109 #[.func (.func 107) #[] #[.pointer (some ⟨w.heap.size, 0, none⟩), .pointer (some ⟨w.heap.size + 1 + 1, 0, none⟩), .pointer (some ⟨w.heap.size + 1, 0, none⟩), .pointer (some ⟨w.heap.size + 1 + 1 + 1, 0, none⟩)]]
  rw [e1] at B1
  rw [e2] at B2
  rw [e3] at B3
  have e4 : ((((w.alloc (.cells #[.slice (some ⟨g, 0, none⟩) n n] 77)).alloc (.cells #[.slice (some ⟨g + 1, 0, none⟩) (n + 1) (n + 1)] 56)).alloc (.cells #[.slice none 0 0] 32)).alloc (.cells #[.func (.func 107) #[] #[.pointer (some ⟨w.heap.size, 0, none⟩), .pointer (some ⟨w.heap.size + 1 + 1, 0, none⟩), .pointer (some ⟨w.heap.size + 1, 0, none⟩), .pointer (some ⟨w.heap.size + 1 + 1 + 1, 0, none⟩)]] 109)).heap.size = w.heap.size + 1 + 1 + 1 + 1 := by rw [World.size_alloc, e3]
  have hbel : Below w.heap.size w ((((w.alloc (.cells #[.slice (some ⟨g, 0, none⟩) n n] 77)).alloc (.cells #[.slice (some ⟨g + 1, 0, none⟩) (n + 1) (n + 1)] 56)).alloc (.cells #[.slice none 0 0] 32)).alloc (.cells #[.func (.func 107) #[] #[.pointer (some ⟨w.heap.size, 0, none⟩), .pointer (some ⟨w.heap.size + 1 + 1, 0, none⟩), .pointer (some ⟨w.heap.size + 1, 0, none⟩), .pointer (some ⟨w.heap.size + 1 + 1 + 1, 0, none⟩)]] 109)) := ((((Below.refl w.heap.size w).alloc (Nat.le_refl _) _).alloc (by rw [e1]; omega) _).alloc (by rw [e2]; omega) _).alloc (by rw [e3]; omega) _
  clear e1 e2 e3
  rw [hb] at B0 B1 B2 B3 e4 hbel hg
  have hrdn : (rd ws 0).map (fun r => joinW ([] ++ r)) = (rd ws 0).map joinW := rfl
  have hlen : (readR ws).length = ((rd ws 0).map joinW).length := by unfold readR sortR; rw [List.length_mergeSort]
  have hrr := Lib.hid (show readR ws = sortR ((rd ws 0).map joinW) from rfl)
  have hlen := Lib.hid hlen
  have hml : ((rd ws 0).map joinW).length ≤ 100000 := by rw [List.length_map]; omega
  go_enter Tryz.func73, Tryz.ntmps73
  go_wp2_with fail
  generalize ((((w.alloc (.cells #[.slice (some ⟨g, 0, none⟩) n n] 77)).alloc (.cells #[.slice (some ⟨g + 1, 0, none⟩) (n + 1) (n + 1)] 56)).alloc (.cells #[.slice none 0 0] 32)).alloc (.cells #[.func (.func 107) #[] #[.pointer (some ⟨b, 0, none⟩), .pointer (some ⟨b + 1 + 1, 0, none⟩), .pointer (some ⟨b + 1, 0, none⟩), .pointer (some ⟨b + 1 + 1 + 1, 0, none⟩)]] 109)) = W4 at *
  have hE : Env ws w g b (.slice none 0 0) W4 := ⟨hbel, by rw [hnn.out]; exact B0.cell 0, by rw [hnn.out]; exact B1.cell 0, B3.cell 0, B2, by rw [e4]; omega⟩
  have hgo : Calls Tryz.prog 107 #[.int .i64 0, .slice none 0 0, .pointer (some ⟨b, 0, none⟩), .pointer (some ⟨b + 1 + 1, 0, none⟩), .pointer (some ⟨b + 1, 0, none⟩), .pointer (some ⟨b + 1 + 1 + 1, 0, none⟩)] W4 (RetRd ws w g b 0 [] [] (.slice none 0 0) (.slice none 0 0) W4) :=
    hread.out w w2 g b hg hb hst ws.length 0 (by omega) (Nat.zero_le _) [] [] (.slice none 0 0) (.slice none 0 0) W4 hE (fun x hx => by cases hx) (Nat.le_refl _) (by simp; omega) (World.ownsRow_nil _ _ _ _) (World.ownsRow_nil _ _ _ _) (fun k h => by cases h)
  refine hgo.mono ?_
  rintro e w5 ⟨R, rfl, hE5, hR5, _, _, _⟩
  rw [hrdn, List.nil_append] at hR5
  have c5 : w5.cell? ⟨b + 1 + 1, 0, none⟩ = some R := hE5.b5.cell 0
  have hs := Lib.hid (sort_any ((rd ws 0).map joinW) hml R (b + 4) w5 hR5)
  clear hgo hE B0 B1 B2 B3 e4
  go_wp2_with fail
  refine hs.out.mono ?_
  rintro e w6 ⟨rfl, hO6, hG6⟩
  have hRb : ∀ k, R.ownBlock = some k → b + 4 ≤ k := fun k h => (hR5.lt k h).1
  have hB6 := hE5.b5.grown hG6 (fun h => by have := hRb _ h.symm; omega)
  have c6 : w6.cell? ⟨b + 1 + 1, 0, none⟩ = some R := hB6.cell 0
  have hbel6 : Below w.heap.size w w6 := bel_grown2 (hb.symm ▸ hE5.bel) hG6 (fun k h => by have := hRb k h; omega)
  go_wp2
  go_ret
  rw [hrr.out]
  refine ⟨R, rfl, ?_, hbel6⟩
  rw [← hrr.out, hlen.out, hrr.out, hb]
  exact own_mono hO6 (by omega)
end Go.Proofs.YtpdfjlbfhnapkaaGreatDoor
