/- How a written form is cut: what holds while it is read. -/
import Derived.Test.YtpdfjlbfhnapkaaGreatDoorSW
import Derived.Laws.Cover4
namespace Go.Proofs.YtpdfjlbfhnapkaaGreatDoor
open Go.RowKit
set_option linter.unusedSimpArgs false
set_option linter.unusedVariables false

/-- a row of the call's own, one element stored -/
theorem own_set {w : World} {base e g n cap i : Nat} {xs : List Value} (h : w.ownsRow base e 1 (.slice (some ⟨g, 0, none⟩) n cap) n xs) (hi : i < n) (u : Value) : (w.setCell ⟨g, i, none⟩ u).ownsRow base e 1 (.slice (some ⟨g, 0, none⟩) n cap) n (xs.set i u) := by
  obtain ⟨hl, h2⟩ := h
  refine ⟨by rw [List.length_set]; exact hl, ?_⟩
  rcases h2 with ⟨h2, _⟩ | ⟨g2, cap2, cur, h2, h3, h4, h5, h6, h7, h8⟩
  · cases h2
  · injection h2 with e5 e6 e7
    injection e5 with e5
    injection e5 with e5
    subst e5
    subst e7
    refine .inr ⟨g, cap, cur.setIfInBounds i u, rfl, h3, Blk.set_ (show Blk w g e cur from h4) i u, h5, h6, by rw [Array.size_setIfInBounds]; exact h7, ?_⟩
    rw [Array.toList_setIfInBounds, List.take_set, h8]
theorem own_types {w : World} {b b' e e' size size' n n' : Nat} {V U : Value} {xs ys : List Value} (h : w.ownsRow b e size V n xs) (k : w.ownsRow b' e' size' U n' ys) (hne : e ≠ e') : ∀ g, V.ownBlock = some g → U.ownBlock ≠ some g := by
  intro g hV
  rcases h.2 with ⟨rfl, _⟩ | ⟨g1, cap, cur, rfl, h3, h4, _⟩
  · cases hV
  · simp only [Value.ownBlock, Option.some.injEq] at hV
    subst hV
    exact fun e2 => blk_row (show Blk w g1 e cur from h4) k hne e2.symm
/-- a row that lies elsewhere -/
theorem own_far {a b : World} {base e size n : Nat} {v : Value} {xs : List Value} {row : Option Nat} (h : a.ownsRow base e size v n xs) (hb : a.grownBy b row) (hr : ∀ g, v.ownBlock = some g → row ≠ some g) : b.ownsRow base e size v n xs := by
  obtain ⟨hl, h2⟩ := h
  rcases h2 with h2 | ⟨g, cap, cur, rfl, h3, h4, h5⟩
  · exact ⟨hl, .inl h2⟩
  · exact ⟨hl, .inr ⟨g, cap, cur, rfl, h3, (show Blk b g e cur from Blk.grown (show Blk a g e cur from h4) hb (fun e2 => hr g rfl e2.symm)), h5⟩⟩
theorem grown_set (w : World) (g i : Nat) (u : Value) : w.grownBy (w.setCell ⟨g, i, none⟩ u) (some g) :=
  ⟨rfl, rfl, rfl, by simp [World.setCell], fun k _ hk => Below.heap_setCell w _ u k (fun e => hk (by rw [e]))⟩

def isDg (b : UInt8) : Bool := decide (48 ≤ b.toNat) && decide (b.toNat ≤ 57)
theorem isDg_iff {b : UInt8} : isDg b = true ↔ 48 ≤ b.toNat ∧ b.toNat ≤ 57 := by unfold isDg; simp
def ascB (b : UInt8) : Bool := decide (b.toNat < 128)
/-- one byte more: the shape, the numbers, and whether the last byte is a digit -/
def stepC (st : Str × List Str × Bool) (b : UInt8) : Str × List Str × Bool :=
  if isDg b = true then (if st.2.2 = true then (st.1, st.2.1.dropLast ++ [st.2.1.getLastD [] ++ [b]], true) else (st.1 ++ [48], st.2.1 ++ [[b]], true)) else (st.1 ++ [b], st.2.1, false)
def cutS (x : Str) : Str × List Str × Bool := x.foldl stepC ([], [], false)
theorem cutS_succ {s : Str} {pos : Nat} {b : UInt8} (h : s[pos]? = some b) : cutS (s.take (pos + 1)) = stepC (cutS (s.take pos)) b := by
  unfold cutS
  rw [List.take_add_one, h, List.foldl_append]
  rfl
theorem stepC_dig1 {st : Str × List Str × Bool} {b : UInt8} (h : isDg b = true) (h2 : st.2.2 = true) : stepC st b = (st.1, st.2.1.dropLast ++ [st.2.1.getLastD [] ++ [b]], true) := by unfold stepC; rw [if_pos h, if_pos h2]
theorem stepC_dig2 {st : Str × List Str × Bool} {b : UInt8} (h : isDg b = true) (h2 : st.2.2 = false) : stepC st b = (st.1 ++ [48], st.2.1 ++ [[b]], true) := by unfold stepC; rw [if_pos h, h2]; rfl
theorem stepC_oth {st : Str × List Str × Bool} {b : UInt8} (h : isDg b = false) : stepC st b = (st.1 ++ [b], st.2.1, false) := by unfold stepC; rw [h]; rfl
def lstD (s : Str) : Nat → Bool
  | 0 => false
  | p + 1 => isDg (s.getD p 0)
/-- what holds while a written form is cut -/
structure CutI (s : Str) (pos : Nat) (rs : List Int) (ns : List Str) (st : Nat) : Prop where
  asc : (s.take pos).all ascB = true → rs = (cutS (s.take pos)).1.map (fun b => (b.toNat : Int)) ∧ ns = (cutS (s.take pos)).2.1 ∧ (cutS (s.take pos)).2.2 = lstD s pos
  non : (s.take pos).all ascB = false → ∃ r ∈ rs, (128 : Int) ≤ r
  all_ : ∀ x ∈ ns, AllD x ∧ x ≠ []
  last : lstD s pos = true → st < pos ∧ ns ≠ [] ∧ ns.getLastD [] = (s.drop st).take (pos - st)
  len : rs.length ≤ pos ∧ ns.length ≤ pos ∧ st ≤ pos ∧ pos ≤ s.length
theorem CutI.zero (s : Str) : CutI s 0 [] [] 0 := ⟨fun _ => ⟨rfl, rfl, rfl⟩, (fun h => by simp at h), (fun x hx => by simp at hx), (fun h => by cases h), by simp⟩
theorem lstD_at {s : Str} {pos : Nat} {b : UInt8} (h : s[pos]? = some b) : lstD s (pos + 1) = isDg b := by
  show isDg (s.getD pos 0) = _
  rw [List.getD_eq_getElem?_getD, h]; rfl
theorem all_split {s : Str} {f : UInt8 → Bool} {pos wd : Nat} (h : (s.take (pos + wd)).all f = true) : (s.take pos).all f = true := by
  rw [List.all_eq_true] at h ⊢
  intro x hx
  refine h x ?_
  rw [show s.take pos = (s.take (pos + wd)).take pos by rw [List.take_take, Nat.min_eq_left (by omega)]] at hx
  exact List.mem_of_mem_take hx
theorem all_false {s : Str} {f : UInt8 → Bool} {pos : Nat} {b : UInt8} (h : (s.take (pos + 1)).all f = false) (hb : s[pos]? = some b) (hf : f b = true) : (s.take pos).all f = false := by
  rw [List.take_add_one, hb, List.all_append] at h
  cases h2 : (s.take pos).all f with
  | false => rfl
  | true => rw [h2] at h; simp [hf] at h
theorem CutI.new {s : Str} {pos st : Nat} {rs : List Int} {ns : List Str} {b : UInt8} (h : CutI s pos rs ns st) (hb : s[pos]? = some b) (hd : isDg b = true) (hl : lstD s pos = false) : CutI s (pos + 1) (rs ++ [48]) (ns ++ [[b]]) pos := by
  have hlt := lt_of_some hb
  have hbd := isDg_iff.1 hd
  have hab : ascB b = true := by unfold ascB; exact decide_eq_true (by omega)
  refine ⟨fun ha => ?_, fun hn => ?_, fun x hx => ?_, fun _ => ⟨by omega, by simp, ?_⟩, by have := h.len; simp; omega⟩
  · obtain ⟨h1, h2, h3⟩ := h.asc (all_split ha)
    rw [cutS_succ hb, stepC_dig2 hd (h3.trans hl)]
    exact ⟨by simp [h1], by rw [h2], by rw [lstD_at hb, hd]⟩
  · obtain ⟨r, hr, h2⟩ := h.non (all_false hn hb hab)
    exact ⟨r, List.mem_append_left _ hr, h2⟩
  · rcases List.mem_append.1 hx with hx | hx
    · exact h.all_ x hx
    · simp only [List.mem_singleton] at hx
      subst hx
      exact ⟨fun c hc => by simp only [List.mem_singleton] at hc; subst hc; exact hbd, by simp⟩
  · rw [show pos + 1 - pos = 1 by omega]
    rw [List.getLastD_eq_getLast?, List.getLast?_append]
    simp only [List.getLast?_singleton, Option.some_or, Option.getD_some]
    rw [show s.drop pos = b :: s.drop (pos + 1) from by rw [List.drop_eq_getElem_cons hlt]; congr 1; rw [List.getElem?_eq_getElem hlt] at hb; injection hb]
    rfl
theorem set_last {ns : List Str} (hne : ns ≠ []) (x : Str) : ns.set (ns.length - 1) x = ns.dropLast ++ [x] := by
  rcases List.eq_nil_or_concat ns with h | ⟨i, l, h⟩
  · exact absurd h hne
  · rw [List.concat_eq_append] at h
    rw [h, List.dropLast_concat, List.length_append, List.length_singleton, Nat.add_sub_cancel, List.set_append_right _ _ (Nat.le_refl _), Nat.sub_self]
    rfl
theorem CutI.more {s : Str} {pos st : Nat} {rs : List Int} {ns : List Str} {b : UInt8} (h : CutI s pos rs ns st) (hb : s[pos]? = some b) (hd : isDg b = true) (hl : lstD s pos = true) : CutI s (pos + 1) rs (ns.set (ns.length - 1) ((s.drop st).take (pos + 1 - st))) st := by
  have hlt := lt_of_some hb
  have hbd := isDg_iff.1 hd
  have hab : ascB b = true := by unfold ascB; exact decide_eq_true (by omega)
  obtain ⟨h1, h2, h3⟩ := h.last hl
  have hx : (s.drop st).take (pos + 1 - st) = ns.getLastD [] ++ [b] := by
    rw [h3, show pos + 1 - st = (pos - st) + 1 by omega, List.take_add_one, List.getElem?_drop, show st + (pos - st) = pos by omega, hb]
    rfl
  rw [hx, set_last h2]
  have hm : ns.getLastD [] ∈ ns := by
    rw [List.getLastD_eq_getLast?]
    cases hq : ns.getLast? with
    | none => rw [List.getLast?_eq_none_iff] at hq; exact absurd hq h2
    | some l => exact List.mem_of_getLast? hq
  refine ⟨fun ha => ?_, fun hn => ?_, fun x hx2 => ?_, fun _ => ⟨by omega, by simp, ?_⟩, ?_⟩
  · obtain ⟨k1, k2, k3⟩ := h.asc (all_split ha)
    rw [cutS_succ hb, stepC_dig1 hd (k3.trans hl)]
    exact ⟨k1, by rw [k2], by rw [lstD_at hb, hd]⟩
  · exact h.non (all_false hn hb hab)
  · rcases List.mem_append.1 hx2 with hx2 | hx2
    · exact h.all_ x (List.dropLast_subset _ hx2)
    · simp only [List.mem_singleton] at hx2
      subst hx2
      refine ⟨fun c hc => ?_, by simp⟩
      rcases List.mem_append.1 hc with hc | hc
      · exact (h.all_ _ hm).1 c hc
      · simp only [List.mem_singleton] at hc; subst hc; exact hbd
  · rw [List.getLastD_eq_getLast?, List.getLast?_append]
    simp only [List.getLast?_singleton, Option.some_or, Option.getD_some]
    exact hx.symm
  · have := h.len
    have h5 : ns.length ≠ 0 := fun e => h2 (List.length_eq_zero_iff.1 e)
    rw [List.length_append, List.length_dropLast]
    simp
    omega
theorem decode_last (s : ByteArray) (pos : Nat) (h : pos < s.size) (ha : 128 ≤ (s[pos]'h).toNat) : pos + (Utf8.decode s pos).2 ≤ s.size ∧ 128 ≤ (s.get! (pos + (Utf8.decode s pos).2 - 1)).toNat := by
  have hn : ¬ (s[pos]'h).toNat < 128 := by omega
  have hg := get_at s pos h
  have h1 : s.get! pos = s[pos]'h := hg
  simp only [Utf8.decode, get_at s pos h, hn, if_false]
  repeat' split
  all_goals simp_all [Utf8.runeError]
  all_goals omega
theorem rune_end {s : Str} {pos r wd : Nat} {b : UInt8} (h : s[pos]? = some b) (hd : Hid (Utf8.decode ⟨s.toArray⟩ pos = (r, wd))) (hb : 128 ≤ b.toNat) : pos + wd ≤ s.length ∧ ∃ b', s[pos + wd - 1]? = some b' ∧ 128 ≤ b'.toNat := by
  have hp : pos < (⟨s.toArray⟩ : ByteArray).size := by show pos < s.toArray.size; simp; exact lt_of_some h
  have hg : (⟨s.toArray⟩ : ByteArray)[pos]'hp = b := by
    have h2 : s[pos]'(lt_of_some h) = b := by rw [List.getElem?_eq_getElem (lt_of_some h)] at h; injection h
    rw [← h2]; rfl
  have h1 := decode_last ⟨s.toArray⟩ pos hp (by rw [hg]; exact hb)
  rw [hd.out] at h1
  have h2 : pos + wd ≤ s.length := by
    have := h1.1
    rw [show (⟨s.toArray⟩ : ByteArray).size = s.length by show s.toArray.size = _; simp] at this
    exact this
  have hw : 1 ≤ wd := by
    have h9 := decode_high ⟨s.toArray⟩ pos hp (by rw [hg]; exact hb)
    rw [hd.out] at h9
    exact h9.2
  have h3 : pos + wd - 1 < s.length := by omega
  refine ⟨h2, s[pos + wd - 1]'h3, List.getElem?_eq_getElem h3, ?_⟩
  have h4 := h1.2
  have e : (⟨s.toArray⟩ : ByteArray).get! (pos + wd - 1) = s[pos + wd - 1]'h3 := by
    show (s.toArray)[pos + wd - 1]! = _
    rw [getElem!_pos _ _ (by simp; exact h3)]
    rfl
  rw [e] at h4
  exact h4
theorem CutI.other {s : Str} {pos st r wd : Nat} {rs : List Int} {ns : List Str} {b : UInt8} (h : CutI s pos rs ns st) (hb : s[pos]? = some b) (hn : isDg b = false) (hd : Hid (Utf8.decode ⟨s.toArray⟩ pos = (r, wd))) (hw : 1 ≤ wd) (hr : (b.toNat < 128 ∧ r = b.toNat ∧ wd = 1) ∨ (128 ≤ b.toNat ∧ 128 ≤ r)) : CutI s (pos + wd) (rs ++ [(r : Int)]) ns st := by
  have hlt := lt_of_some hb
  rcases hr with ⟨h1, rfl, rfl⟩ | ⟨h1, h2⟩
  · have hab : ascB b = true := by unfold ascB; exact decide_eq_true h1
    refine ⟨fun ha => ?_, fun hn => ?_, h.all_, fun hl => ?_, by have := h.len; simp; omega⟩
    · obtain ⟨k1, k2, k3⟩ := h.asc (all_split ha)
      rw [cutS_succ hb, stepC_oth hn]
      exact ⟨by simp [k1], k2, by rw [lstD_at hb, hn]⟩
    · obtain ⟨r, hr, h2⟩ := h.non (all_false hn hb hab)
      exact ⟨r, List.mem_append_left _ hr, h2⟩
    · rw [lstD_at hb, hn] at hl; cases hl
  · obtain ⟨h3, b', h4, h5⟩ := rune_end hb hd h1
    refine ⟨fun ha => ?_, fun hn => ⟨(r : Int), by simp, by omega⟩, h.all_, fun hl => ?_, by have := h.len; simp; omega⟩
    · exfalso
      have h6 := all_split (pos := pos + 1) (wd := wd - 1) (by rw [show pos + 1 + (wd - 1) = pos + wd by omega]; exact ha)
      rw [List.take_add_one, hb, List.all_append, Bool.and_eq_true] at h6
      have h7 := h6.2
      simp [ascB] at h7
      omega
    · exfalso
      rw [show pos + wd = (pos + wd - 1) + 1 by omega, lstD_at h4] at hl
      have := isDg_iff.1 hl
      omega
theorem runes_fold (rs : List Int) : ∀ a : ByteArray, (rs.foldl (fun r n => r ++ Utf8.encode n) a).data.toList = a.data.toList ++ rs.flatMap fun n => (Utf8.encode n).data.toList := by
  induction rs with
  | nil => intro a; simp
  | cons n ns ih =>
    intro a
    rw [List.foldl_cons, ih, List.flatMap_cons, ← List.append_assoc]
    congr 1
theorem runes_list (rs : List Int) : (runesBytes rs).data.toList = rs.flatMap fun n => (Utf8.encode n).data.toList := by
  unfold runesBytes
  rw [runes_fold]
  rfl
theorem enc_asc {b : UInt8} (h : b.toNat < 128) : (Utf8.encode (b.toNat : Int)).data.toList = [b] := by
  have h0 : decide ((0 : Int) ≤ (b.toNat : Int)) = true := decide_eq_true (by omega)
  have h2 : decide ((b.toNat : Int) < 55296) = true := decide_eq_true (by omega)
  have h1 : Utf8.valid (b.toNat : Int) = true := by
    unfold Utf8.valid
    rw [h0, h2, Bool.and_true, Bool.true_or]
  have h3 : (if Utf8.valid (b.toNat : Int) = true then (b.toNat : Int).toNat else Utf8.runeError) = b.toNat := by rw [h1, if_pos rfl, Int.toNat_natCast]
  have h4 : Utf8.encode (b.toNat : Int) = ⟨#[UInt8.ofNat b.toNat]⟩ := by
    unfold Utf8.encode
    simp only [h3]
    rw [if_pos h]
  rw [h4]
  show [UInt8.ofNat b.toNat] = [b]
  rw [UInt8.ofNat_toNat]
theorem enc_non {r : Int} (h : 128 ≤ r) : ∃ b ∈ (Utf8.encode r).data.toList, 128 ≤ b.toNat := by
  unfold Utf8.encode
  simp only
  obtain ⟨c, hc, hc1, hc2⟩ : ∃ c, (if Utf8.valid r = true then r.toNat else Utf8.runeError) = c ∧ 128 ≤ c ∧ c ≤ 1114111 := by
    refine ⟨_, rfl, ?_, ?_⟩
    · split
      · omega
      · decide
    · split
      · rename_i hv
        unfold Utf8.valid at hv
        simp at hv
        omega
      · decide
  rw [hc]
  rw [if_neg (by omega)]
  split
  · exact ⟨_, List.mem_cons_self .., by simp; omega⟩
  · split
    · exact ⟨_, List.mem_cons_self .., by simp; omega⟩
    · exact ⟨_, List.mem_cons_self .., by simp; omega⟩
theorem runes_asc {l : Str} (h : l.all ascB = true) : (runesBytes (l.map fun b => (b.toNat : Int))).data.toList = l := by
  rw [runes_list]
  induction l with
  | nil => rfl
  | cons b r ih =>
    rw [List.all_cons, Bool.and_eq_true] at h
    rw [List.map_cons, List.flatMap_cons, ih h.2, enc_asc (of_decide_eq_true h.1)]
    rfl
theorem runes_non {rs : List Int} (h : ∃ r ∈ rs, (128 : Int) ≤ r) : ∃ b ∈ (runesBytes rs).data.toList, 128 ≤ b.toNat := by
  obtain ⟨r, hr, h1⟩ := h
  obtain ⟨b, hb, h2⟩ := enc_non h1
  exact ⟨b, by rw [runes_list, List.mem_flatMap]; exact ⟨r, hr, hb⟩, h2⟩
theorem cutS_asc_fold : ∀ (x : Str) (st : Str × List Str × Bool), x.all ascB = true → st.1.all ascB = true → (x.foldl stepC st).1.all ascB = true := by
  intro x
  induction x with
  | nil => intro st _ h; exact h
  | cons b r ih =>
    intro st h hs
    rw [List.all_cons, Bool.and_eq_true] at h
    rw [List.foldl_cons]
    refine ih _ h.2 ?_
    unfold stepC
    split
    · split
      · exact hs
      · rw [List.all_append, hs]; rfl
    · rw [List.all_append, hs]; simp [h.1]
theorem cutS_asc {x : Str} (h : x.all ascB = true) : (cutS x).1.all ascB = true := cutS_asc_fold x _ h rfl
/-- what cut gives: the shape and the numbers -/
structure CutQ (s sh : Str) (ns : List Str) : Prop where
  asc : s.all ascB = true → sh = (cutS s).1 ∧ ns = (cutS s).2.1
  non : s.all ascB = false → ∃ b ∈ sh, 128 ≤ b.toNat
  all_ : ∀ x ∈ ns, AllD x ∧ x ≠ []
  len : ns.length ≤ s.length
theorem CutI.done {s : Str} {pos st : Nat} {rs : List Int} {ns : List Str} (h : CutI s pos rs ns st) (hp : ¬ pos < s.length) : CutQ s (runesBytes rs).data.toList ns := by
  have h1 := h.asc
  have h2 := h.non
  rw [List.take_of_length_le (by omega)] at h1 h2
  refine ⟨fun ha => ?_, fun hn => runes_non (h2 hn), h.all_, by have := h.len; omega⟩
  obtain ⟨k1, k2, _⟩ := h1 ha
  exact ⟨by rw [k1]; exact runes_asc (cutS_asc ha), k2⟩
end Go.Proofs.YtpdfjlbfhnapkaaGreatDoor

/- A written form is cut. -/
namespace Go.Proofs.YtpdfjlbfhnapkaaGreatDoor
open Go.RowKit
set_option linter.unusedSimpArgs false
set_option linter.unusedVariables false
set_option maxRecDepth 100000

theorem info_rune : (Tryz.prog.info? 21).map (fun i => (i.zero, i.size, i.bytes)) = some (some (.int .i32 0), 1, 4) := by kernel_rfl
def rvs (rs : List Int) : List Value := rs.map (Value.int .i32)
theorem rvs_app (a b : List Int) : rvs (a ++ b) = rvs a ++ rvs b := by simp [rvs]
theorem rvs_len (a : List Int) : (rvs a).length = a.length := by simp [rvs]
theorem src_rune {w : World} {g : Nat} {r : Int} (h : Blk w g 21 #[.int .i32 r]) : Src w (some ⟨g, 0, none⟩) 1 1 (rvs [r]) 1 :=
  ⟨rfl, (fun e => by cases e), (fun ad e j u hu => by
    injection e with e
    subst e
    cases j with
    | zero => injection hu with hu; subst hu; rw [add_new]; exact h.cell 0
    | succ j => cases hu), (fun u hu => by simp [rvs] at hu; subst hu; rfl)⟩
theorem ix_str {s : Str} {q : Nat} {b : UInt8} (h : s[q]? = some b) (W : World) : (Instr.index 9 (.string ⟨s.toArray⟩) (.int .i64 (q : Int))).run Tryz.prog W = .ok (.int .u8 (b.toNat : Int)) W := by
  have hlt := lt_of_some h
  have hsz : (⟨s.toArray⟩ : ByteArray).size = s.length := by show s.toArray.size = _; simp
  rw [run_index_string _ _ _ _ _ Tryz.underlying9, dif_pos ⟨by omega, by rw [hsz]; omega⟩]
  have h2 : s[q]'hlt = b := by rw [List.getElem?_eq_getElem hlt] at h; injection h
  rw [← h2]
  rfl
theorem sl_str {s : Str} {i j : Nat} (hij : i ≤ j) (hj : j ≤ s.length) (W : World) : (Instr.slice 9 (.string ⟨s.toArray⟩) (some (.int .i64 (i : Int))) (some (.int .i64 (j : Int))) none).run Tryz.prog W = .ok (.string ⟨((s.drop i).take (j - i)).toArray⟩) W := by
  have hsz : (⟨s.toArray⟩ : ByteArray).size = s.length := by show s.toArray.size = _; simp
  rw [run_slice_string _ _ _ _ _ _ _ Tryz.underlying9 (by omega) (by omega) (by rw [hsz]; omega)]
  congr 2
  refine bytes_ext ?_
  apply Array.toList_inj.1
  rw [Lib.extract_data]
  simp
theorem load_pieces {g : Nat} {W : World} {a b : Value} (h : Blk W g 87 #[a, b]) : (loadVar 87 ⟨g, 0, none⟩).run Tryz.prog W = .ok (.agg #[a, b]) W := by
  have q0 : W.cell? ⟨g, 0, none⟩ = some a := h.cell 0
  have q1 : W.cell? ⟨g, 1, none⟩ = some b := h.cell 1
  simp [go_sem, q0, q1]
theorem results_cell {fn : Func} {p : Tmp} {ty : TypeId} (h : fn.results = #[.cell p ty]) (tmps : Array Value) (P : Program) (w : World) :
    (results fn tmps).run P w = ((asAddr (tmps.getD p undef)).run P w).andThen fun a w₁ => (loadVar ty a).run P w₁ := by
  simp only [results, h]
  simp [Sem.run_bind, Result.andThen]
theorem ret_pieces {fn : Func} {R : Ending → World → Prop} {act : Act} {W : World} {g p : Nat} {a b : Value} (hr : fn.results = #[.cell p 87]) (hs : act.tmps.getD p undef = .pointer (some ⟨g, 0, none⟩))
    (hB : Blk W g 87 #[a, b]) (hd : act.defers = []) (hR : R (.returned (.agg #[a, b])) W) : bodyPost Tryz.prog fn R .ret act W :=
  bodyPost_ret (v := .agg #[a, b]) (by rw [results_cell hr, hs]; simp [asAddr, load_pieces hB]) hd hR
/-- the call returned the pieces of a string -/
def RetP2 (s : Str) (w : World) (e : Ending) (w' : World) : Prop := ∃ A c sh ns, e = .returned (.agg #[.string ⟨sh.toArray⟩, .slice A ns.length c]) ∧ CutQ s sh ns ∧ Ss w' A ns.length c ns ∧ Below w.heap.size w w'

set_option maxHeartbeats 4000000 in
theorem cut_any (s : Str) (hsl : s.length ≤ 2000) (w : World) : Calls Tryz.prog 80 #[.string ⟨s.toArray⟩] w (RetP2 s w) := by
  obtain ⟨i0, hi, hz0, hz1, hz2⟩ := info_parts info_str
  obtain ⟨i1, hj, hy0, hy1, hy2⟩ := info_parts info_rune
  go_enter Tryz.func80, Tryz.ntmps80
  go_wp2
  go_loopw [3, 4, 5] (fun Vv Uv sv wr' => ∃ (pos st : Nat) (V U : Value) (rs : List Int) (ns : List Str) (wr : World), wr = wr' ∧ V = Vv ∧ U = Uv ∧ sv = .int .i64 (st : Int) ∧ wr.heap[w.heap.size + 1]? = some (.stringIter ⟨s.toArray⟩ pos) ∧ Below w.heap.size w wr ∧ Blk wr w.heap.size 87 #[.string ⟨#[]⟩, .slice none 0 0] ∧ wr.ownsRow (w.heap.size + 2) 21 1 V rs.length (rvs rs) ∧ wr.ownsRow (w.heap.size + 2) 9 1 U ns.length (svs ns) ∧ CutI s pos rs ns st) (fun _ _ _ wr => s.length - wr.iterPos (w.heap.size + 1))
  case atStart =>
    refine ⟨0, 0, _, _, [], [], _, rfl, rfl, rfl, rfl, ?_, ?_, ?_, World.ownsRow_nil _ _ _ _, World.ownsRow_nil _ _ _ _, CutI.zero s⟩
    · have h := World.iter_heap (w.alloc (.cells #[.string ⟨#[]⟩, .slice none 0 0] 87)) ⟨s.toArray⟩ 0
      rw [World.size_alloc] at h
      exact h
    · exact ((Below.refl _ _).alloc (Nat.le_refl _) _).alloc (by rw [World.size_alloc]; omega) _
    · exact (Blk.new w _ _).alloc _
  case round =>
    obtain ⟨pos, st, V, U, rs, ns, wr, rfl, rfl, rfl, rfl, hit, hbw, hB, hV, hU, hI⟩ := hrel
    have hpos0 := iterPos_of hit
    have hlen := hI.len
    by_cases hp : pos < s.length
    · obtain ⟨b, hb⟩ : ∃ b, s[pos]? = some b := ⟨_, List.getElem?_eq_getElem hp⟩
      obtain ⟨r, wd, hd, hr1, hr2, hr3⟩ := rune_at s pos b hb
      have hnx := next_at hit hp hd
      have hit2 := Lib.iterAt_heap wr (w.heap.size + 1) _ pos (pos + wd) hit
      have hbw2 := Lib.below_iterAt hbw (k := w.heap.size + 1) (Nat.le_succ _) ⟨s.toArray⟩ (pos + wd)
      have hV2 := own_iterAt hV (k := w.heap.size + 1) (by omega) ⟨s.toArray⟩ (pos + wd)
      have hU2 := own_iterAt hU (k := w.heap.size + 1) (by omega) ⟨s.toArray⟩ (pos + wd)
      have hB2 : Blk (wr.iterAt (w.heap.size + 1) ⟨s.toArray⟩ (pos + wd)) w.heap.size 87 #[.string ⟨#[]⟩, .slice none 0 0] := (Lib.iterAt_other wr (w.heap.size + 1) w.heap.size _ _ (by omega)).trans hB
      obtain ⟨W1, hW1⟩ : ∃ W1, W1 = wr.iterAt (w.heap.size + 1) ⟨s.toArray⟩ (pos + wd) := ⟨_, rfl⟩
      rw [← hW1] at hnx hit2 hbw2 hV2 hU2 hB2
      have hlt2 := lt_of_block hit2
      have hlb2 := hB2.lt
      have hty := own_types hV2 hU2 (by decide)
      have hty2 := own_types hU2 hV2 (by decide)
      clear hW1 hit hbw hV hU hB
      by_cases hdg : isDg b = true
      · have hbd := isDg_iff.1 hdg
        obtain ⟨rfl, rfl⟩ : r = b.toNat ∧ wd = 1 := by rcases hr3 with h | ⟨h, _⟩; exact h.2; omega
        have hc := Lib.hid (isDigit_any ((b.toNat : Nat) : Int) W1)
        rw [show (decide ((48 : Int) ≤ ((b.toNat : Nat) : Int)) && decide (((b.toNat : Nat) : Int) ≤ 57)) = true by rw [decide_eq_true (by omega), decide_eq_true (by omega)]; rfl] at hc
        clear hr3 hd
        cases pos with
        | zero =>
          have hlD : lstD s 0 = false := rfl
          have hlen2 : rs.length ≤ 2000 ∧ ns.length ≤ 2000 := by omega
          clear hlen
          have hI2 := CutI.new hI hb hdg hlD
          have hsx := sl_str (s := s) (i := 0) (j := 0 + 1) (by omega) (by omega)
          rw [show ((0 : Nat) : Int) = 0 from rfl, show ((0 + 1 : Nat) : Int) = 1 from rfl, show (s.drop 0).take (0 + 1 - 0) = [b] by
            rw [show 0 + 1 - 0 = 1 by omega, List.drop_eq_getElem_cons hp]
            rw [List.getElem?_eq_getElem hp] at hb
            injection hb with hb
            rw [hb]; rfl] at hsx
          clear hI hb hdg hlD hr1
          generalize b.toNat = rr at *
          go_wp2_with fail
          refine hc.out.mono ?_
          rintro e w' ⟨rfl, rfl⟩
          have hAl := (Below.refl W1.heap.size W1).alloc (Nat.le_refl _) (.cells #[.int .i32 48] 21)
          have hOl := own_below hV2 hAl
          have hUl := own_below hU2 hAl
          have hSl := src_rune (r := 48) (Blk.new W1 21 #[.int .i32 48])
          have hbl := hbw2.trans (hAl.mono hbw2.size)
          have hitl := (hAl.block (w.heap.size + 1) hlt2).trans hit2
          have hBl := hB2.below hAl
          have hsl2 := hAl.size
          go_wp2_with (at_builtin; first
            | (refine wpList_append_any rfl (.tmp 15) (.tmp 16) 113 rfl (w.heap.size + 2) 21 i1 (.int .i32 0) 1 4 Tryz.underlying113 hj hy0 hy1 hy2 rfl (by decide) V rs.length (rvs rs) rfl hOl _ 1 1 (rvs [48]) rfl hSl (by unfold maxLen; omega) (by omega) (by omega) ?_; intro V5 xV5 hOx hGx hZx; clear hZx
               have hb5 : Below w.heap.size w xV5 := bel_grown2 hbl hGx (fun k9 e => by have := (hOl.lt k9 e).1; omega)
               have hit5 : xV5.heap[w.heap.size + 1]? = some (.stringIter ⟨s.toArray⟩ (0 + 1)) := (hGx.block (w.heap.size + 1) (lt_of_block hitl) (fun e => by have := (hOl.lt _ e.symm).1; omega)).trans hitl
               have hB5 := hBl.grown hGx (fun e => by have := (hOl.lt _ e.symm).1; omega)
               have hU5 := own_far hUl hGx (fun g hg e => hty2 g hg e)
               have hsz5 := hGx.size
               rw [← rvs_app, show rs.length + 1 = (rs ++ [(48 : Int)]).length by simp] at hOx
               have hV5 := hOx
               clear hOx hGx hbl hitl hBl hUl hOl hSl hAl
               have hty5 := own_types hV5 hU5 (by decide)
               have hAl := (Below.refl xV5.heap.size xV5).alloc (Nat.le_refl _) (.cells #[.string ⟨#[b]⟩] 9)
               have hOl := own_below hU5 hAl
               have hVl := own_below hV5 hAl
               have hSl := src_lit (x := [b]) (Blk.new xV5 9 #[.string ⟨#[b]⟩])
               have hbl := hb5.trans (hAl.mono hb5.size)
               have hitl := (hAl.block (w.heap.size + 1) (lt_of_block hit5)).trans hit5
               have hBl := hB5.below hAl
               have hsl2 := hAl.size)
            | (refine wpList_append_any rfl (.tmp 18) (.tmp 24) 32 rfl (w.heap.size + 2) 9 i0 (.string ⟨#[]⟩) 1 16 Tryz.underlying32 hi hz0 hz1 hz2 rfl (by decide) U ns.length (svs ns) rfl hOl _ 1 1 (svs [[b]]) rfl hSl (by unfold maxLen; omega) (by omega) (by omega) ?_; intro U6 xU6 hOx hGx hZx; clear hZx))
          have hb6 : Below w.heap.size w xU6 := bel_grown2 hbl hGx (fun k9 e => by have := (hOl.lt k9 e).1; omega)
          have hit6 : xU6.heap[w.heap.size + 1]? = some (.stringIter ⟨s.toArray⟩ (0 + 1)) := (hGx.block (w.heap.size + 1) (lt_of_block hitl) (fun e => by have := (hOl.lt _ e.symm).1; omega)).trans hitl
          have hB6 := hBl.grown hGx (fun e => by have := (hOl.lt _ e.symm).1; omega)
          have hV6 := own_far hVl hGx (fun g hg e => hty5 g hg e)
          rw [← svs_app, show ns.length + 1 = (ns ++ [[b]]).length by simp] at hOx
          go_wp2
          exact ⟨⟨0 + 1, 0, V5, U6, rs ++ [48], ns ++ [[b]], _, rfl, rfl, rfl, rfl, hit6, hb6, hB6, hV6, hOx, hI2⟩, by rw [iterPos_of hit6, hpos0]; omega⟩
        | succ q =>
          obtain ⟨b0, hb0⟩ : ∃ b0, s[q]? = some b0 := ⟨_, List.getElem?_eq_getElem (by omega)⟩
          have hix := ix_str hb0
          have hlq := lstD_at hb0
          have d1 : ((q + 1 : Nat) : Int) - 1 = (q : Int) := by omega
          have d2 : (q : Int) + 1 - 1 = (q : Int) := by omega
          have wb0 : IntKind.i32.wrap (b0.toNat : Int) = (b0.toNat : Int) := IntWalk.i32_in _ (by have := b0.toNat_lt; omega)
          have hc0 := Lib.hid (isDigit_any ((b0.toNat : Nat) : Int) W1)
          by_cases h0 : isDg b0 = true
          · have h0d := isDg_iff.1 h0
            rw [show (decide ((48 : Int) ≤ ((b0.toNat : Nat) : Int)) && decide (((b0.toNat : Nat) : Int) ≤ 57)) = true by rw [decide_eq_true (by omega), decide_eq_true (by omega)]; rfl] at hc0
            have hlD : lstD s (q + 1) = true := hlq.trans h0
            have hI2 := CutI.more hI hb hdg hlD
            obtain ⟨hs1, hs2, _⟩ := hI.last hlD
            have hsx := sl_str (s := s) (i := st) (j := q + 1 + 1) (by omega) (by omega)
            rw [show ((q + 1 + 1 : Nat) : Int) = (q : Int) + 1 + 1 by omega] at hsx
            obtain ⟨m, hm⟩ : ∃ m, ns.length = m + 1 := ⟨ns.length - 1, by have : ns.length ≠ 0 := (fun e => hs2 (List.length_eq_zero_iff.1 e)); omega⟩
            rw [hm, Nat.add_sub_cancel] at hI2
            generalize (s.drop st).take (q + 1 + 1 - st) = X at *
            rw [hm] at hU2
            have hml := Lib.hid hm
            clear hI hb hdg hlD hr1 hs2 hlq hb0 hm h0
            generalize b.toNat = rr at *
            generalize b0.toNat = r0 at *
            rcases hU2.2 with ⟨_, h⟩ | ⟨g, cap, cur, rfl, hg, hgc, hg2⟩
            · omega
            obtain ⟨v0, hv0⟩ : ∃ v0, W1.cell? ⟨g, m, none⟩ = some v0 := by
              have h9 := hU2.cells (g := g) rfl m _ (List.getElem?_eq_getElem (by rw [svs_len, hml.out]; omega))
              rw [add_new] at h9
              exact ⟨_, h9⟩
            have dm : ((m + 1 : Nat) : Int) - 1 = (m : Int) := by omega
            have dm2 : (m : Int) + 1 - 1 = (m : Int) := by omega
            have hfz : W1.frozen? ⟨g, m, none⟩ = false := Blk.frozen (show Blk W1 g 9 cur from hgc) m
            clear hgc hg2
            have hm9 : m ≤ 3000 := by have := hml.out; omega
            go_wp2_with fail
            refine hc.out.mono ?_
            rintro e w' ⟨rfl, rfl⟩
            go_wp2_with fail
            refine hc0.out.mono ?_
            rintro e w' ⟨rfl, rfl⟩
            go_wp2
            have hset := own_set hU2 (i := m) (by omega) (.string ⟨X.toArray⟩)
            have hGs := grown_set W1 g m (.string ⟨X.toArray⟩)
            have hV5 := own_far hV2 hGs (fun g9 h9 e => hty g9 h9 (by injection e with e; rw [← e]; rfl))
            have hit5 : (W1.setCell ⟨g, m, none⟩ (.string ⟨X.toArray⟩)).heap[w.heap.size + 1]? = some (.stringIter ⟨s.toArray⟩ (q + 1 + 1)) := (hGs.block (w.heap.size + 1) hlt2 (fun e => by injection e with e; omega)).trans hit2
            have hB5 := hB2.grown hGs (fun e => by injection e with e; omega)
            have hb5 : Below w.heap.size w (W1.setCell ⟨g, m, none⟩ (.string ⟨X.toArray⟩)) := bel_grown2 hbw2 hGs (fun k9 e => by injection e with e; omega)
            have hset2 : (W1.setCell ⟨g, m, none⟩ (.string ⟨X.toArray⟩)).ownsRow (w.heap.size + 2) 9 1 (.slice (some ⟨g, 0, none⟩) (m + 1) cap) (ns.set m X).length (svs (ns.set m X)) := by
              rw [List.length_set, hml.out, show svs (ns.set m X) = (svs ns).set m (.string ⟨X.toArray⟩) by simp [svs, List.map_set]]
              exact hset
            exact ⟨⟨q + 1 + 1, st, V, _, rs, ns.set m X, _, rfl, rfl, rfl, rfl, hit5, hb5, hB5, hV5, hset2, hI2⟩, by rw [iterPos_of hit5, hpos0]; omega⟩
          · have h0f : isDg b0 = false := by cases hq : isDg b0 with | true => exact absurd hq h0 | false => rfl
            rw [show (decide ((48 : Int) ≤ ((b0.toNat : Nat) : Int)) && decide (((b0.toNat : Nat) : Int) ≤ 57)) = false by
              rw [Bool.and_eq_false_iff, decide_eq_false_iff_not, decide_eq_false_iff_not]
              have h9 : ¬ (48 ≤ b0.toNat ∧ b0.toNat ≤ 57) := fun h => h0 (isDg_iff.2 h)
              omega] at hc0
            have hlD : lstD s (q + 1) = false := hlq.trans h0f
            have hI2 := CutI.new hI hb hdg hlD
            have hsx := sl_str (s := s) (i := (q + 1)) (j := (q + 1) + 1) (by omega) (by omega)
            rw [show ((q + 1 : Nat) : Int) = (q : Int) + 1 by omega, show ((q + 1 + 1 : Nat) : Int) = (q : Int) + 1 + 1 by omega, show (s.drop (q + 1)).take ((q + 1) + 1 - (q + 1)) = [b] by
              rw [show (q + 1) + 1 - (q + 1) = 1 by omega, List.drop_eq_getElem_cons hp]
              rw [List.getElem?_eq_getElem hp] at hb
              injection hb with hb
              rw [hb]; rfl] at hsx
            clear hI hb hdg hlD hr1 h0 h0f hlq hb0
            generalize b.toNat = rr at *
            generalize b0.toNat = r0 at *
            go_wp2_with fail
            refine hc.out.mono ?_
            rintro e w' ⟨rfl, rfl⟩
            go_wp2_with fail
            refine hc0.out.mono ?_
            rintro e w' ⟨rfl, rfl⟩
            have hAl := (Below.refl W1.heap.size W1).alloc (Nat.le_refl _) (.cells #[.int .i32 48] 21)
            have hOl := own_below hV2 hAl
            have hUl := own_below hU2 hAl
            have hSl := src_rune (r := 48) (Blk.new W1 21 #[.int .i32 48])
            have hbl := hbw2.trans (hAl.mono hbw2.size)
            have hitl := (hAl.block (w.heap.size + 1) hlt2).trans hit2
            have hBl := hB2.below hAl
            have hsl2 := hAl.size
            go_wp2_with (at_builtin; first
              | (refine wpList_append_any rfl (.tmp 15) (.tmp 16) 113 rfl (w.heap.size + 2) 21 i1 (.int .i32 0) 1 4 Tryz.underlying113 hj hy0 hy1 hy2 rfl (by decide) V rs.length (rvs rs) rfl hOl _ 1 1 (rvs [48]) rfl hSl (by unfold maxLen; omega) (by omega) (by omega) ?_; intro V5 xV5 hOx hGx hZx; clear hZx
                 have hb5 : Below w.heap.size w xV5 := bel_grown2 hbl hGx (fun k9 e => by have := (hOl.lt k9 e).1; omega)
                 have hit5 : xV5.heap[w.heap.size + 1]? = some (.stringIter ⟨s.toArray⟩ ((q + 1) + 1)) := (hGx.block (w.heap.size + 1) (lt_of_block hitl) (fun e => by have := (hOl.lt _ e.symm).1; omega)).trans hitl
                 have hB5 := hBl.grown hGx (fun e => by have := (hOl.lt _ e.symm).1; omega)
                 have hU5 := own_far hUl hGx (fun g hg e => hty2 g hg e)
                 have hsz5 := hGx.size
                 rw [← rvs_app, show rs.length + 1 = (rs ++ [(48 : Int)]).length by simp] at hOx
                 have hV5 := hOx
                 clear hOx hGx hbl hitl hBl hUl hOl hSl hAl
                 have hty5 := own_types hV5 hU5 (by decide)
                 have hAl := (Below.refl xV5.heap.size xV5).alloc (Nat.le_refl _) (.cells #[.string ⟨#[b]⟩] 9)
                 have hOl := own_below hU5 hAl
                 have hVl := own_below hV5 hAl
                 have hSl := src_lit (x := [b]) (Blk.new xV5 9 #[.string ⟨#[b]⟩])
                 have hbl := hb5.trans (hAl.mono hb5.size)
                 have hitl := (hAl.block (w.heap.size + 1) (lt_of_block hit5)).trans hit5
                 have hBl := hB5.below hAl
                 have hsl2 := hAl.size)
              | (refine wpList_append_any rfl (.tmp 18) (.tmp 24) 32 rfl (w.heap.size + 2) 9 i0 (.string ⟨#[]⟩) 1 16 Tryz.underlying32 hi hz0 hz1 hz2 rfl (by decide) U ns.length (svs ns) rfl hOl _ 1 1 (svs [[b]]) rfl hSl (by unfold maxLen; omega) (by omega) (by omega) ?_; intro U6 xU6 hOx hGx hZx; clear hZx))
            have hb6 : Below w.heap.size w xU6 := bel_grown2 hbl hGx (fun k9 e => by have := (hOl.lt k9 e).1; omega)
            have hit6 : xU6.heap[w.heap.size + 1]? = some (.stringIter ⟨s.toArray⟩ ((q + 1) + 1)) := (hGx.block (w.heap.size + 1) (lt_of_block hitl) (fun e => by have := (hOl.lt _ e.symm).1; omega)).trans hitl
            have hB6 := hBl.grown hGx (fun e => by have := (hOl.lt _ e.symm).1; omega)
            have hV6 := own_far hVl hGx (fun g hg e => hty5 g hg e)
            rw [← svs_app, show ns.length + 1 = (ns ++ [[b]]).length by simp] at hOx
            go_wp2
            exact ⟨⟨(q + 1) + 1, (q + 1), V5, U6, rs ++ [48], ns ++ [[b]], _, rfl, rfl, rfl, rfl, hit6, hb6, hB6, hV6, hOx, hI2⟩, by rw [iterPos_of hit6, hpos0]; omega⟩
      · have hdn : isDg b = false := by cases hq : isDg b with | true => exact absurd hq hdg | false => rfl
        have hr9 : (decide ((48 : Int) ≤ (r : Int)) && decide ((r : Int) ≤ 57)) = false := by
          rw [Bool.and_eq_false_iff, decide_eq_false_iff_not, decide_eq_false_iff_not]
          have h9 : ¬ (48 ≤ b.toNat ∧ b.toNat ≤ 57) := fun h => hdg (isDg_iff.2 h)
          rcases hr3 with ⟨_, rfl, _⟩ | ⟨_, h⟩ <;> omega
        have hc := Lib.hid (isDigit_any (r : Int) W1)
        rw [hr9] at hc
        have hI2 := CutI.other hI hb hdn hd hr2 hr3
        clear hr9 hr3 hdg hdn hd hb hI
        go_wp2_with fail
        refine hc.out.mono ?_
        rintro e w' ⟨rfl, rfl⟩
        have hAl := (Below.refl W1.heap.size W1).alloc (Nat.le_refl _) (.cells #[.int .i32 (r : Int)] 21)
        have hOl := own_below hV2 hAl
        have hUl := own_below hU2 hAl
        have hSl := src_rune (r := (r : Int)) (Blk.new W1 21 #[.int .i32 (r : Int)])
        have hbl := hbw2.trans (hAl.mono hbw2.size)
        have hitl := (hAl.block (w.heap.size + 1) hlt2).trans hit2
        have hBl := hB2.below hAl
        have hsl2 := hAl.size
        go_wp2_with (at_builtin; refine wpList_append_any rfl (.tmp 30) (.tmp 32) 113 rfl (w.heap.size + 2) 21 i1 (.int .i32 0) 1 4 Tryz.underlying113 hj hy0 hy1 hy2 rfl (by decide) V rs.length (rvs rs) rfl hOl _ 1 1 (rvs [(r : Int)]) rfl hSl (by unfold maxLen; omega) (by omega) (by omega) ?_; intro V5 xV5 hOx hGx hZx; clear hZx)
        have hb5 : Below w.heap.size w xV5 := bel_grown2 hbl hGx (fun k9 e => by have := (hOl.lt k9 e).1; omega)
        have hit5 : xV5.heap[w.heap.size + 1]? = some (.stringIter ⟨s.toArray⟩ (pos + wd)) := (hGx.block (w.heap.size + 1) (lt_of_block hitl) (fun e => by have := (hOl.lt _ e.symm).1; omega)).trans hitl
        have hB5 := hBl.grown hGx (fun e => by have := (hOl.lt _ e.symm).1; omega)
        have hU5 := own_far hUl hGx (fun g hg e => hty2 g hg e)
        rw [← rvs_app, show rs.length + 1 = (rs ++ [(r : Int)]).length by simp] at hOx
        go_wp2
        exact ⟨⟨pos + wd, st, V5, U, rs ++ [(r : Int)], ns, _, rfl, rfl, rfl, rfl, hit5, hb5, hB5, hOx, hU5, hI2⟩, by rw [iterPos_of hit5, hpos0]; omega⟩
    · have hnx := next_end hit hp
      have hQ := hI.done hp
      obtain ⟨AV, cV, rfl, hSV⟩ := Src.of_own hV (fun u hu => by simp [rvs] at hu; obtain ⟨_, _, rfl⟩ := hu; rfl)
      obtain ⟨AU, cU, rfl, hSU, _, hAU⟩ := Ss.of_own hU
      have hcv : ∀ W, (∀ ad, AV = some ad → ∀ j u, (rvs rs)[j]? = some u → W.cell? (ad.add j) = some u) → (convert 113 9 (.slice AV rs.length cV)).run Tryz.prog W = .ok (.string ⟨(runesBytes rs).data.toList.toArray⟩) W := by
        intro W hW
        rw [show (⟨(runesBytes rs).data.toList.toArray⟩ : ByteArray) = runesBytes rs by cases runesBytes rs; simp]
        cases AV with
        | none =>
          have h9 := hSV.none_ rfl
          have h8 : rs = [] := List.length_eq_zero_iff.1 h9.1
          subst h8
          rw [run_convert_runes_nil W _ _ 21 _ _ Tryz.underlying113 Tryz.underlying21 Tryz.underlying9]
          rfl
        | some ad =>
          rw [run_convert_runes W _ _ 21 ad _ _ rs (Nat.le_refl _) Tryz.underlying113 Tryz.underlying21 Tryz.underlying9 (fun j hj => hW ad rfl j _ (by unfold rvs; rw [List.getElem?_map, List.getElem?_eq_getElem hj, List.getD_eq_getElem?_getD, List.getElem?_eq_getElem hj]; rfl)), List.take_of_length_le (Nat.le_refl _)]
      have hcv2 := hcv wr hSV.cell
      generalize (runesBytes rs).data.toList = SH at *
      have k0 := hB.cell 0
      have k1 := hB.cell 1
      clear hcv hSV
      have f0 := hB.frozen 0
      have f1 := hB.frozen 1
      have hG0 := grown_set wr w.heap.size 0 (.string ⟨SH.toArray⟩)
      have hG1 := grown_set (wr.setCell ⟨w.heap.size, 0, none⟩ (.string ⟨SH.toArray⟩)) w.heap.size 1 (.slice AU ns.length cU)
      have hbz := bel_grown2 (bel_grown2 hbw hG0 (fun k9 e => by injection e with e; omega)) hG1 (fun k9 e => by injection e with e; omega)
      have hSz : Ss ((wr.setCell ⟨w.heap.size, 0, none⟩ (.string ⟨SH.toArray⟩)).setCell ⟨w.heap.size, 1, none⟩ (.slice AU ns.length cU)) AU ns.length cU ns := ⟨hSU.len, hSU.cap, hSU.top, fun h0 => by
        obtain ⟨ad, h8, h9⟩ := hSU.cell h0
        have hne := hAU ad h8
        refine ⟨ad, h8, fun j x hx => ?_⟩
        rw [World.cell?_setCell_other _ _ _ _ (fun e => by have h2 := congrArg Addr.block e; rw [block_of_add] at h2; simp at h2; omega), World.cell?_setCell_other _ _ _ _ (fun e => by have h2 := congrArg Addr.block e; rw [block_of_add] at h2; simp at h2; omega)]
        exact h9 j x hx⟩
      clear hG0 hG1
      go_wp2
      refine ret_pieces rfl rfl ((hB.set_ 0 (.string ⟨SH.toArray⟩)).set_ 1 (.slice AU ns.length cU)) rfl ?_
      exact ⟨AU, cU, SH, ns, rfl, hQ, hSz, hbz⟩
end Go.Proofs.YtpdfjlbfhnapkaaGreatDoor
