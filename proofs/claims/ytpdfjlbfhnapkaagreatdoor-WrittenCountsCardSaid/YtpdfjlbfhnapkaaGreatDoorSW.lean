/- The numbers of written forms, and their words. -/
import Derived.Test.YtpdfjlbfhnapkaaGreatDoorSV
import Derived.Lib.OthersKept
namespace Go.Proofs.YtpdfjlbfhnapkaaGreatDoor
open Go.RowKit
set_option linter.unusedSimpArgs false
set_option linter.unusedVariables false
set_option maxRecDepth 100000

/-- digits alone -/
def AllD (x : Str) : Prop := ∀ b ∈ x, 48 ≤ b.toNat ∧ b.toNat ≤ 57
/-- the number of digits -/
def valD (x : Str) : Nat := x.foldl (fun a b => a * 10 + (b.toNat - 48)) 0
theorem decFrom_val : ∀ (x : Str), AllD x → ∀ a : Nat, Lib.decFrom a x = some (x.foldl (fun a b => a * 10 + (b.toNat - 48)) a) := by
  intro x
  induction x with
  | nil => intro _ a; rfl
  | cons b r ih =>
    intro h a
    have hb := h b (List.mem_cons_self ..)
    unfold Lib.decFrom Lib.digitVal
    rw [if_pos hb]
    exact ih (fun c hc => h c (List.mem_cons_of_mem _ hc)) _
theorem fold_lt : ∀ (x : Str), AllD x → ∀ a : Nat, x.foldl (fun a b => a * 10 + (b.toNat - 48)) a < (a + 1) * 10 ^ x.length := by
  intro x
  induction x with
  | nil => intro _ a; simp
  | cons b r ih =>
    intro h a
    have hb := h b (List.mem_cons_self ..)
    have h1 := ih (fun c hc => h c (List.mem_cons_of_mem _ hc)) (a * 10 + (b.toNat - 48))
    rw [List.foldl_cons, List.length_cons, Nat.pow_succ]
    refine Nat.lt_of_lt_of_le h1 ?_
    rw [Nat.mul_comm (10 ^ r.length) 10, ← Nat.mul_assoc]
    exact Nat.mul_le_mul_right _ (by omega)
theorem valD_lt {x : Str} (h : AllD x) : valD x < 10 ^ x.length := by
  have := fold_lt x h 0
  rw [Nat.zero_add, Nat.one_mul] at this
  exact this
theorem valD_12 {x : Str} (h : AllD x) (hl : x.length ≤ 12) : valD x < 1000000000000 := Nat.lt_of_lt_of_le (valD_lt h) (Nat.le_trans (Nat.pow_le_pow_right (by decide) hl) (by decide))
theorem atoi_val {x : Str} (h : AllD x) (hne : x ≠ []) : Lib.atoi x = some ((valD x : Nat) : Int) := by
  cases x with
  | nil => exact absurd rfl hne
  | cons b r =>
    have hb := h b (List.mem_cons_self ..)
    have h1 : (b == 45) = false := by rw [beq_eq_false_iff_ne]; rintro rfl; exact absurd hb.1 (by decide)
    have h2 : (b == 43) = false := by rw [beq_eq_false_iff_ne]; rintro rfl; exact absurd hb.1 (by decide)
    show (if (b == 45) = true then _ else if (b == 43) = true then _ else Option.map _ (Lib.decNat (b :: r))) = _
    rw [h1, h2, if_neg Bool.false_ne_true, if_neg Bool.false_ne_true]
    unfold Lib.decNat
    rw [decFrom_val _ h]
    rfl
theorem parse_any (x : Str) (hD : AllD x) (hne : x ≠ []) (hl : x.length ≤ 18) (w : World) :
    Calls Tryz.prog 65 #[.string ⟨x.toArray⟩] w fun e w' => e = .returned (.tuple #[.int .i64 ((valD x : Nat) : Int), .nilIface]) ∧ Below w.heap.size w w' := by
  have hsz : (⟨x.toArray⟩ : ByteArray).size = x.length := by show x.toArray.size = _; simp
  refine (Tryz.strconv_Atoi ⟨x.toArray⟩ _ (by rw [hsz]; exact hl) (atoi_val hD hne) w).mono ?_
  rintro e w' ⟨rfl, t, rfl⟩
  exact ⟨rfl, Lib.bytesWorld_below w _ t⟩
/-- these digits are those of a cardinal -/
def isCard (x : Str) : Bool := decide (x.length ≤ 12) && (decide (x.headD 0 ≠ 48) || decide (x = [48]))
def cardI (x : Str) : Int := if isCard x = true then (valD x : Int) else -1
set_option maxRecDepth 100000 in
theorem cardinalOf_any (x : Str) (hD : AllD x) (hne : x ≠ []) (w : World) :
    Calls Tryz.prog 212 #[.string ⟨x.toArray⟩] w fun e w' => e = .returned (.int .i64 (cardI x)) ∧ Below w.heap.size w w' := by
  by_cases hl : x.length ≤ 12
  · have hp := Lib.hid (parse_any x hD hne (by omega) w)
    have hcd := Lib.hid (show cardI x = if (x.headD 0 ≠ 48 ∨ x = [48]) then (valD x : Int) else -1 by
      unfold cardI isCard
      rw [decide_eq_true hl]
      simp)
    cases x with
    | nil => exact absurd rfl hne
    | cons c cs =>
      have hl2 : cs.length + 1 ≤ 12 := by simpa using hl
      have hb : ((⟨(c :: cs).toArray⟩ : ByteArray)[0]'(by show 0 < (c :: cs).toArray.size; simp)).toNat = c.toNat := rfl
      have hl1 : ¬ (12 : Int) < (cs.length : Int) + 1 := by omega
      have hl3 : decide ((12 : Int) < (cs.length : Int) + 1) = false := decide_eq_false hl1
      clear hl hD hne
      generalize valD (c :: cs) = n at *
      by_cases hc : c = 48
      · have hc1 : ((c.toNat : Int) == 48) = true := by rw [hc]; rfl
        by_cases hcs : cs = []
        · subst hcs
          subst hc
          have hc2 := Lib.hid (show cardI [48] = (n : Int) by rw [hcd.out]; exact if_pos (Or.inr rfl))
          go_enter Tryz.func212, Tryz.ntmps212
          go_wp2_with fail
          refine hp.out.mono ?_
          rintro e w' ⟨rfl, hb⟩
          go_wp2
          go_ret
          exact ⟨ret_int hc2.out.symm, hb⟩
        · have hc2 := Lib.hid (show cardI (c :: cs) = -1 by
            rw [hcd.out]
            refine if_neg ?_
            rintro (h | h)
            · exact h hc
            · injection h with _ h; exact hcs h)
          subst hc
          have hn1 : cs.isEmpty = false := by cases cs with | nil => exact absurd rfl hcs | cons a b => rfl
          clear hcs
          go_enter Tryz.func212, Tryz.ntmps212
          go_wp2
          go_ret
          exact ⟨ret_int hc2.out.symm, Below.refl _ _⟩
      · have hc1 : ((c.toNat : Int) == 48) = false := by
          rw [beq_eq_false_iff_ne]
          intro e
          exact hc (UInt8.toNat_inj.1 (by rw [show (48 : UInt8).toNat = 48 from rfl]; omega))
        have hc2 := Lib.hid (show cardI (c :: cs) = (n : Int) by rw [hcd.out]; exact if_pos (Or.inl hc))
        clear hc
        go_enter Tryz.func212, Tryz.ntmps212
        go_wp2_with fail
        refine hp.out.mono ?_
        rintro e w' ⟨rfl, hb⟩
        go_wp2
        go_ret
        exact ⟨ret_int hc2.out.symm, hb⟩
  · have hl1 : (12 : Int) < (x.length : Int) := by omega
    have hl2 : decide ((12 : Int) < (x.length : Int)) = true := decide_eq_true hl1
    have hc2 := Lib.hid (show cardI x = -1 by
      unfold cardI isCard
      rw [decide_eq_false hl]
      rfl)
    go_enter Tryz.func212, Tryz.ntmps212
    go_wp2
    go_ret
    exact ⟨ret_int hc2.out.symm, Below.refl _ _⟩
/-- the number with so many digits -/
def fieldI (x : Str) (n : Nat) : Int := if x.length = n then (valD x : Int) else -1
theorem fieldOf_any (x : Str) (n : Nat) (hn : 1 ≤ n) (hn2 : n ≤ 18) (hD : AllD x) (w : World) :
    Calls Tryz.prog 244 #[.string ⟨x.toArray⟩, .int .i64 (n : Int)] w fun e w' => e = .returned (.int .i64 (fieldI x n)) ∧ Below w.heap.size w w' := by
  by_cases hl : x.length = n
  · have hp := Lib.hid (parse_any x hD (by rintro rfl; simp at hl; omega) (by omega) w)
    have hc2 := Lib.hid (show fieldI x n = (valD x : Int) from if_pos hl)
    generalize valD x = m at *
    have e1 : ((x.length : Int) == (n : Int)) = true := by rw [beq_iff_eq]; omega
    have e2 : ((x.length : Int) != (n : Int)) = false := by rw [bne_eq_false_iff_eq]; omega
    have e3 : (x.length : Int) = (n : Int) := by omega
    go_enter Tryz.func244, Tryz.ntmps244
    go_wp2_with fail
    refine hp.out.mono ?_
    rintro e w' ⟨rfl, hb⟩
    go_wp2
    go_ret
    exact ⟨ret_int hc2.out.symm, hb⟩
  · have hc2 := Lib.hid (show fieldI x n = -1 from if_neg hl)
    have e1 : ((x.length : Int) == (n : Int)) = false := by rw [beq_eq_false_iff_ne]; omega
    have e2 : ((x.length : Int) != (n : Int)) = true := by rw [bne_iff_ne]; omega
    have e3 : ¬ (x.length : Int) = (n : Int) := by omega
    go_enter Tryz.func244, Tryz.ntmps244
    go_wp2
    go_ret
    exact ⟨ret_int hc2.out.symm, Below.refl _ _⟩
theorem RetW.nil (w : World) : RetW [] w (.returned (.slice none 0 0)) w := ⟨_, rfl, World.ownsRow_nil _ _ _ _, Below.refl _ _⟩
/-- the words of digits that are those of a cardinal -/
def sayN (x : Str) : List Str := if isCard x = true then cntW (valD x) else []
theorem spokenCount_any (x : Str) (hD : AllD x) (hne : x ≠ []) (w : World) (hT : WT w) :
    Calls Tryz.prog 208 #[.string ⟨x.toArray⟩] w (RetW (sayN x) w) := by
  have hc := Lib.hid (cardinalOf_any x hD hne w)
  by_cases hi : isCard x = true
  · have hl : x.length ≤ 12 := by
      unfold isCard at hi
      rw [Bool.and_eq_true] at hi
      exact of_decide_eq_true hi.1
    have hlt := valD_12 hD hl
    have h1 : cardI x = (valD x : Int) := if_pos hi
    have h2 := Lib.hid (show sayN x = cntW (valD x) from if_pos hi)
    rw [h1] at hc
    clear h1 hi
    generalize valD x = n at *
    have hk := Lib.hid (fun (w9 : World) (h9 : WT w9) => sayCount_any n hlt w9 h9)
    have g1 : (0 : Int) ≤ (n : Int) := by omega
    generalize cntW n = W at *
    go_enter Tryz.func208, Tryz.ntmps208
    go_wp2_with fail
    refine hc.out.mono ?_
    rintro e w2 ⟨rfl, hb⟩
    go_wp2_with fail
    refine (hk.out w2 (hT.below hb)).mono ?_
    rintro e w3 ⟨V, rfl, hO, hb3⟩
    have hb4 := hb.trans (hb3.mono hb.size)
    have hO2 := own_mono hO hb.size
    go_wp2
    go_ret
    rw [h2.out]
    exact ⟨V, rfl, hO2, hb4⟩
  · have h1 : cardI x = -1 := if_neg hi
    have h2 := Lib.hid (show sayN x = [] from if_neg hi)
    rw [h1] at hc
    clear h1 hi
    go_enter Tryz.func208, Tryz.ntmps208
    go_wp2_with fail
    refine hc.out.mono ?_
    rintro e w2 ⟨rfl, hb⟩
    go_wp2
    go_ret
    rw [h2.out]
    exact ⟨_, rfl, World.ownsRow_nil _ _ _ _, hb⟩
theorem negative_any (ws : List Str) (hl : ws.length ≤ 1000) (A : Option Addr) (c : Nat) (w : World) (hS : Src w A ws.length c (svs ws) 1) :
    Calls Tryz.prog 209 #[.slice A ws.length c] w (RetW (negW ws) w) := by
  obtain ⟨i0, hi, hz0, hz1, hz2⟩ := info_parts info_str
  by_cases h : ws = []
  · subst h
    go_enter Tryz.func209, Tryz.ntmps209
    go_wp2
    go_ret
    exact RetW.nil w
  · have hw := Lib.hid (show negW ws = [[109, 105, 110, 117, 115]] ++ ws from if_neg h)
    obtain ⟨n, hn⟩ : ∃ n, ws.length = n := ⟨_, rfl⟩
    have h0 : 0 < n := by rw [← hn]; cases ws with | nil => exact absurd rfl h | cons a b => simp
    have hnl := Lib.hid hn
    rw [hn] at hS hl ⊢
    clear hn h
    have e1 : ((n : Int) == 0) = false := by rw [beq_eq_false_iff_ne]; omega
    have hAl := (Below.refl w.heap.size w).alloc (Nat.le_refl _) (.cells #[.string ⟨#[109, 105, 110, 117, 115]⟩] 9)
    have hSl := hS.below hAl
    have hOl := own_lit w [[109, 105, 110, 117, 115]] (by simp)
    go_enter Tryz.func209, Tryz.ntmps209
    go_wp2_with (at_builtin; refine wpList_append_any rfl (.tmp 6) (.tmp 7) 32 rfl w.heap.size 9 i0 (.string ⟨#[]⟩) 1 16 Tryz.underlying32 hi hz0 hz1 hz2 rfl (by decide) _ 1 (svs [[109, 105, 110, 117, 115]]) rfl hOl A n c (svs ws) rfl hSl (by unfold maxLen; omega) (by omega) hAl.size ?_; intro V5 x5 hOx hGx hZx; clear hZx)
    have hb5 : Below w.heap.size w x5 := bel_grown2 hAl hGx (fun k9 e => (hOl.lt k9 e).1)
    have hO5 := own_app hOx rfl hnl.out
    go_wp2
    go_ret
    rw [hw.out]
    exact ⟨V5, rfl, hO5, hb5⟩
end Go.Proofs.YtpdfjlbfhnapkaaGreatDoor

/- Strings are read rune by rune: words, and digits one by one. -/
namespace Go.Proofs.YtpdfjlbfhnapkaaGreatDoor
open Go.RowKit
set_option linter.unusedSimpArgs false
set_option linter.unusedVariables false
set_option maxRecDepth 100000

theorem isDigit_any (r : Int) (w : World) : Calls Tryz.prog 115 #[.int .i32 r] w fun e w' => e = .returned (.bool (decide (48 ≤ r) && decide (r ≤ 57))) ∧ w = w' := by
  by_cases h1 : 48 ≤ r
  · by_cases h2 : r ≤ 57
    · have q1 : decide (48 ≤ r) = true := decide_eq_true h1
      have q2 : decide (r ≤ 57) = true := decide_eq_true h2
      go_enter Tryz.func115, Tryz.ntmps115
      go_wp2
      go_ret
      exact ⟨by first | rfl | (rw [q1, q2]; rfl), rfl⟩
    · have q1 : decide (48 ≤ r) = true := decide_eq_true h1
      have q2 : decide (r ≤ 57) = false := decide_eq_false h2
      go_enter Tryz.func115, Tryz.ntmps115
      go_wp2
      go_ret
      exact ⟨by first | rfl | (rw [q1, q2]; rfl), rfl⟩
  · have q1 : decide (48 ≤ r) = false := decide_eq_false h1
    go_enter Tryz.func115, Tryz.ntmps115
    go_wp2
    go_ret
    exact ⟨by first | rfl | (rw [q1]; rfl), rfl⟩

theorem iterPos_of {w : World} {k : Nat} {s : ByteArray} {p : Nat} (h : w.heap[k]? = some (.stringIter s p)) : w.iterPos k = p := by simp [World.iterPos, h]
theorem own_iterAt {w : World} {base : Nat} {e : TypeId} {size : Nat} {v : Value} {n : Nat} {xs : List Value} (h : w.ownsRow base e size v n xs) {k : Nat} (hk : k < base) (s : ByteArray) (p : Nat) : (w.iterAt k s p).ownsRow base e size v n xs := by
  obtain ⟨h1, h2⟩ := h
  refine ⟨h1, ?_⟩
  rcases h2 with h2 | ⟨g, cap, cur, a, b, c, d⟩
  · exact .inl h2
  · exact .inr ⟨g, cap, cur, a, b, by rw [Lib.iterAt_other _ _ _ _ _ (by omega)]; exact c, d⟩
/-- what a string gives at a place: a byte below 128 is its own rune -/
theorem rune_at (s : Str) (pos : Nat) (b : UInt8) (h : s[pos]? = some b) : ∃ r wd : Nat, Hid (Utf8.decode ⟨s.toArray⟩ pos = (r, wd)) ∧ r ≤ 2147483647 ∧ 1 ≤ wd ∧ ((b.toNat < 128 ∧ r = b.toNat ∧ wd = 1) ∨ (128 ≤ b.toNat ∧ 128 ≤ r)) := by
  have hp : pos < (⟨s.toArray⟩ : ByteArray).size := by show pos < s.toArray.size; simp; exact lt_of_some h
  have hg : (⟨s.toArray⟩ : ByteArray)[pos]'hp = b := by
    have h2 : s[pos]'(lt_of_some h) = b := by rw [List.getElem?_eq_getElem (lt_of_some h)] at h; injection h
    rw [← h2]; rfl
  have hle := decode_le ⟨s.toArray⟩ pos
  by_cases hb : b.toNat < 128
  · have hd := decode_ascii ⟨s.toArray⟩ pos hp (by rw [hg]; exact hb)
    rw [hg] at hd
    exact ⟨b.toNat, 1, hd, by omega, Nat.le_refl _, .inl ⟨hb, rfl, rfl⟩⟩
  · have hd := decode_high ⟨s.toArray⟩ pos hp (by rw [hg]; omega)
    exact ⟨_, _, rfl, hle, hd.2, .inr ⟨by omega, hd.1⟩⟩
theorem next_at {wr : World} {k : Nat} {s : Str} {pos r wd : Nat} (hit : wr.heap[k]? = some (.stringIter ⟨s.toArray⟩ pos)) (hp : pos < s.length) (hd : Hid (Utf8.decode ⟨s.toArray⟩ pos = (r, wd))) (ty : TypeId) :
    (Instr.next (.pointer (some ⟨k, 0, none⟩)) true ty).run Tryz.prog wr = .ok (.tuple #[.bool true, .int .i64 pos, .int .i32 r]) (wr.iterAt k ⟨s.toArray⟩ (pos + wd)) := by
  have h := Lib.run_next_any_at (P := Tryz.prog) wr k ⟨s.toArray⟩ pos ty hit (by show pos < s.toArray.size; simp; exact hp)
  rw [hd.out] at h
  exact h
theorem next_end {wr : World} {k : Nat} {s : Str} {pos : Nat} (hit : wr.heap[k]? = some (.stringIter ⟨s.toArray⟩ pos)) (hp : ¬ pos < s.length) (ty : TypeId) :
    (Instr.next (.pointer (some ⟨k, 0, none⟩)) true ty).run Tryz.prog wr = .ok (.tuple #[.bool false]) wr :=
  Lib.run_next_end_at (P := Tryz.prog) wr k ⟨s.toArray⟩ pos ty hit (by show ¬ pos < s.toArray.size; simp; omega)

def lowB (b : UInt8) : Bool := decide (97 ≤ b.toNat) && decide (b.toNat ≤ 122)
/-- the string is a word -/
def wdB (s : Str) : Bool := !s.isEmpty && s.all lowB
theorem all_take_succ {s : Str} {p : Str → Bool} {f : UInt8 → Bool} {pos : Nat} {b : UInt8} (h : (s.take pos).all f = true) (hb : s[pos]? = some b) (hf : f b = true) : (s.take (pos + 1)).all f = true := by
  rw [List.take_add_one, hb, List.all_append, h]
  simp [hf]
theorem wdB_false {s : Str} {pos : Nat} {b : UInt8} (hb : s[pos]? = some b) (hf : lowB b = false) : wdB s = false := by
  unfold wdB
  have : s.all lowB = false := by
    rw [List.all_eq_false]
    exact ⟨b, List.mem_of_getElem? hb, by simp [hf]⟩
  rw [this, Bool.and_false]
theorem isWord_any (s : Str) (w : World) : Calls Tryz.prog 71 #[.string ⟨s.toArray⟩] w fun e w' => e = .returned (.bool (wdB s)) ∧ Below w.heap.size w w' := by
  go_enter Tryz.func71, Tryz.ntmps71
  go_wp2
  go_loopw [] (fun wr => ∃ (pos : Nat), wr.heap[w.heap.size]? = some (.stringIter ⟨s.toArray⟩ pos) ∧ Below w.heap.size w wr ∧ Hid ((s.take pos).all lowB = true) ∧ pos ≤ s.length) (fun wr => s.length - wr.iterPos w.heap.size)
  case atStart => exact ⟨0, World.iter_heap w _ 0, (Below.refl _ _).alloc (Nat.le_refl _) _, rfl, Nat.zero_le _⟩
  case round =>
    obtain ⟨pos, hit, hbw, hall, hle⟩ := hrel
    have hpos0 := iterPos_of hit
    by_cases hp : pos < s.length
    · obtain ⟨b, hb⟩ : ∃ b, s[pos]? = some b := ⟨_, List.getElem?_eq_getElem hp⟩
      obtain ⟨r, wd, hd, hr1, hr2, hr3⟩ := rune_at s pos b hb
      have hnx := next_at hit hp hd
      have hit2 := Lib.iterAt_heap wr w.heap.size _ pos (pos + wd) hit
      have hbw2 := Lib.below_iterAt hbw (k := w.heap.size) (Nat.le_refl _) ⟨s.toArray⟩ (pos + wd)
      by_cases h1 : r < 97
      · have hw := Lib.hid (show wdB s = false from wdB_false hb (by unfold lowB; rcases hr3 with ⟨_, rfl, _⟩ | ⟨_, h⟩ <;> simp <;> omega))
        have g1 : (r : Int) < 97 := by omega
        clear hr3 hd hb
        go_wp2
        go_ret
        exact ⟨ret_bool hw.out.symm, hbw2⟩
      · have g1 : ¬ (r : Int) < 97 := by omega
        have g2 : decide ((r : Int) < 97) = false := decide_eq_false g1
        by_cases h2 : 122 < r
        · have hw := Lib.hid (show wdB s = false from wdB_false hb (by unfold lowB; rcases hr3 with ⟨_, rfl, _⟩ | ⟨_, h⟩ <;> simp <;> omega))
          have g3 : (122 : Int) < (r : Int) := by omega
          clear hr3 hd hb
          go_wp2
          go_ret
          exact ⟨ret_bool hw.out.symm, hbw2⟩
        · have g3 : ¬ (122 : Int) < (r : Int) := by omega
          have g4 : decide ((122 : Int) < (r : Int)) = false := decide_eq_false g3
          obtain ⟨hb1, hb2, rfl⟩ : b.toNat < 128 ∧ r = b.toNat ∧ wd = 1 := by rcases hr3 with h | ⟨_, h⟩; exact h; omega
          have ha2 := Lib.hid (all_take_succ (p := fun _ => true) hall.out hb (show lowB b = true by unfold lowB; simp; omega))
          clear hr3 hd hb
          go_wp2
          exact ⟨⟨pos + 1, hit2, hbw2, ha2, by omega⟩, by rw [iterPos_of hit2, hpos0]; omega⟩
    · have hnx := next_end hit hp
      have hw := Lib.hid (show wdB s = !s.isEmpty by
        have h1 := hall.out
        rw [List.take_of_length_le (by omega)] at h1
        unfold wdB
        rw [h1, Bool.and_true])
      go_wp2
      go_ret
      exact ⟨ret_bool (by rw [hw.out]), hbw⟩

/-- the words of digits, one by one -/
def digW (x : Str) : List Str := x.map fun b => smallN (b.toNat - 48)
theorem digW_len (x : Str) : (digW x).length = x.length := by unfold digW; simp
theorem digW_take {x : Str} {pos : Nat} {b : UInt8} (hb : x[pos]? = some b) : digW (x.take (pos + 1)) = digW (x.take pos) ++ [smallN (b.toNat - 48)] := by
  unfold digW
  rw [List.take_add_one, hb, List.map_append]
  rfl
theorem digitByDigit_any (x : Str) (hD : AllD x) (hl : x.length ≤ 2000) (w : World) (hT : WT w) : Calls Tryz.prog 235 #[.string ⟨x.toArray⟩] w (RetW (digW x) w) := by
  obtain ⟨i0, hi, hz0, hz1, hz2⟩ := info_parts info_str
  go_enter Tryz.func235, Tryz.ntmps235
  go_wp2
  go_loopw [3] (fun Vv wr' => ∃ (pos : Nat) (V : Value) (wr : World), wr = wr' ∧ V = Vv ∧ wr.heap[w.heap.size]? = some (.stringIter ⟨x.toArray⟩ pos) ∧ Below w.heap.size w wr ∧ wr.ownsRow (w.heap.size + 1) 9 1 V pos (svs (digW (x.take pos))) ∧ pos ≤ x.length) (fun _ wr => x.length - wr.iterPos w.heap.size)
  case atStart => exact ⟨0, _, _, rfl, rfl, World.iter_heap w _ 0, (Below.refl _ _).alloc (Nat.le_refl _) _, World.ownsRow_nil _ _ _ _, Nat.zero_le _⟩
  case round =>
    obtain ⟨pos, V, wr, rfl, rfl, hit, hbw, hown, hle⟩ := hrel
    have hpos0 := iterPos_of hit
    by_cases hp : pos < x.length
    · obtain ⟨b, hb⟩ : ∃ b, x[pos]? = some b := ⟨_, List.getElem?_eq_getElem hp⟩
      have hbD := hD b (List.mem_of_getElem? hb)
      obtain ⟨r, wd, hd, hr1, hr2, hr3⟩ := rune_at x pos b hb
      have hnx := next_at hit hp hd
      obtain ⟨rfl, rfl⟩ : r = b.toNat ∧ wd = 1 := by rcases hr3 with h | ⟨h, _⟩; exact h.2; omega
      have hit2 := Lib.iterAt_heap wr w.heap.size _ pos (pos + 1) hit
      have hbw2 := Lib.below_iterAt hbw (k := w.heap.size) (Nat.le_refl _) ⟨x.toArray⟩ (pos + 1)
      have hown2 := own_iterAt hown (k := w.heap.size) (by omega) ⟨x.toArray⟩ (pos + 1)
      obtain ⟨W1, hW1⟩ : ∃ W1, W1 = wr.iterAt w.heap.size ⟨x.toArray⟩ (pos + 1) := ⟨_, rfl⟩
      rw [← hW1] at hnx hit2 hbw2 hown2
      obtain ⟨d, hdd⟩ : ∃ d, b.toNat - 48 = d := ⟨_, rfl⟩
      obtain ⟨rr, hrr⟩ : ∃ rr, b.toNat = rr := ⟨_, rfl⟩
      have hT1 := hT.below hbw2
      have hs := Lib.hid (small_any d (by omega) (by omega) W1 hT1)
      have hq := Lib.hid (digW_take hb)
      rw [hdd] at hq
      have hlq := Lib.hid (digW_len (x.take pos))
      rw [hrr] at hnx hbD hdd
      have d1 : (rr : Int) - 48 = (d : Int) := by omega
      have wq : IntKind.i32.wrap (d : Int) = (d : Int) := by first | exact IntWalk.i32_in _ (by omega) | (unfold IntKind.wrap; simp [IntKind.bits, IntKind.signed]; omega)
      have wq2 : IntKind.i64.wrap (d : Int) = (d : Int) := IntWalk.i64_in _ (by omega)
      clear hW1 hit hown hbw hr3 hd hb hrr
      generalize smallN d = X at *
      have hszl := (lt_of_block hit2)
      go_wp2_with fail
      refine hs.out.mono ?_
      rintro e w' ⟨rfl, rfl⟩
      have hAl := (Below.refl W1.heap.size W1).alloc (Nat.le_refl _) (.cells #[.string ⟨X.toArray⟩] 9)
      have hOl := own_below hown2 hAl
      have hSl := src_lit (x := X) (Blk.new W1 9 #[.string ⟨X.toArray⟩])
      have hbl := hbw2.trans (hAl.mono hbw2.size)
      have hitl := (hAl.block w.heap.size hszl).trans hit2
      go_wp2_with (at_builtin; refine wpList_append_any rfl (.tmp 11) (.tmp 16) 32 rfl (w.heap.size + 1) 9 i0 (.string ⟨#[]⟩) 1 16 Tryz.underlying32 hi hz0 hz1 hz2 rfl (by decide) V pos (svs (digW (x.take pos))) rfl hOl _ 1 1 (svs [X]) rfl hSl (by unfold maxLen; omega) (by omega) (by have := hAl.size; omega) ?_; intro V5 x5 hOx hGx hZx; clear hZx)
      have hb5 : Below w.heap.size w x5 := bel_grown2 hbl hGx (fun k9 e => by have := (hOl.lt k9 e).1; omega)
      have hit5 : x5.heap[w.heap.size]? = some (.stringIter ⟨x.toArray⟩ (pos + 1)) := (hGx.block w.heap.size (lt_of_block hitl) (fun e => by have := (hOl.lt _ e.symm).1; omega)).trans hitl
      rw [← svs_app, ← hq.out] at hOx
      go_wp2
      exact ⟨⟨pos + 1, V5, _, rfl, rfl, hit5, hb5, hOx, by omega⟩, by rw [iterPos_of hit5, hpos0]; omega⟩
    · have hnx := next_end hit hp
      have hpe : pos = x.length := by omega
      rw [List.take_of_length_le (by omega), hpe, ← digW_len x] at hown
      have hO2 := own_mono hown (Nat.le_succ w.heap.size)
      go_wp2
      go_ret
      exact ⟨V, rfl, hO2, hbw⟩
end Go.Proofs.YtpdfjlbfhnapkaaGreatDoor
