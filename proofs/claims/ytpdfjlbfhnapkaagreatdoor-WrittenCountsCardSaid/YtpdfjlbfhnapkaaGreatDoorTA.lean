/- The words of written numbers and of strings of digits. -/
import Derived.Test.YtpdfjlbfhnapkaaGreatDoorSY
namespace Go.Proofs.YtpdfjlbfhnapkaaGreatDoor
open Go.RowKit
set_option linter.unusedSimpArgs false
set_option linter.unusedVariables false
set_option maxRecDepth 100000

/-- the pieces of a written form: so many numbers as the shape has zeros -/
def PiQ (sh : Str) (ns : List Str) : Prop := (sh.all ascB = true → sh.count 48 = ns.length) ∧ ∀ x ∈ ns, AllD x ∧ x ≠ []
theorem cut_count_fold : ∀ (x : Str) (st : Str × List Str × Bool), (st.2.2 = true → st.2.1 ≠ []) → st.1.count 48 = st.2.1.length → (x.foldl stepC st).1.count 48 = (x.foldl stepC st).2.1.length := by
  intro x
  induction x with
  | nil => intro st _ h; exact h
  | cons b r ih =>
    intro st h1 h2
    rw [List.foldl_cons]
    by_cases hd : isDg b = true
    · by_cases hp : st.2.2 = true
      · rw [stepC_dig1 hd hp]
        have h3 := h1 hp
        have h4 : st.2.1.length ≠ 0 := fun e => h3 (List.length_eq_zero_iff.1 e)
        exact ih _ (fun _ => by simp) (by simp only; rw [List.length_append, List.length_dropLast, h2]; simp; omega)
      · have hp2 : st.2.2 = false := by cases hq : st.2.2 with | true => exact absurd hq hp | false => rfl
        rw [stepC_dig2 hd hp2]
        exact ih _ (fun _ => by simp) (by simp only; rw [List.count_append, List.length_append, h2]; rfl)
    · have hd2 : isDg b = false := by cases hq : isDg b with | true => exact absurd hq hd | false => rfl
      rw [stepC_oth hd2]
      have h5 : ¬ b = 48 := by rintro rfl; exact hd (by decide)
      exact ih _ (fun h => by cases h) (by simp only; rw [List.count_append, h2, List.count_singleton]; simp [h5])
theorem CutQ.pi {s sh : Str} {ns : List Str} (h : CutQ s sh ns) : PiQ sh ns := by
  refine ⟨fun ha => ?_, h.all_⟩
  by_cases hs : s.all ascB = true
  · obtain ⟨h1, h2⟩ := h.asc hs
    rw [h1, h2]
    exact cut_count_fold s _ (fun h => by cases h) rfl
  · have hs2 : s.all ascB = false := by cases hq : s.all ascB with | true => exact absurd hq hs | false => rfl
    obtain ⟨b, hb, h2⟩ := h.non hs2
    have h3 := List.all_eq_true.1 ha b hb
    have h4 := of_decide_eq_true h3
    omega
theorem ns_one {sh : Str} {ns : List Str} (h : PiQ sh ns) (ha : sh.all ascB = true) (hc : sh.count 48 = 1) : ∃ x, ns = [x] ∧ AllD x ∧ x ≠ [] := by
  have h1 := h.1 ha
  rw [hc] at h1
  obtain ⟨x, rfl⟩ := List.length_eq_one_iff.1 h1.symm
  exact ⟨x, rfl, h.2 x (List.mem_singleton.2 rfl)⟩
theorem ns_two {sh : Str} {ns : List Str} (h : PiQ sh ns) (ha : sh.all ascB = true) (hc : sh.count 48 = 2) : ∃ x y, ns = [x, y] ∧ (AllD x ∧ x ≠ []) ∧ AllD y ∧ y ≠ [] := by
  have h1 := h.1 ha
  rw [hc] at h1
  match ns, h1, h with
  | [x, y], _, h => exact ⟨x, y, rfl, h.2 x (by simp), h.2 y (by simp)⟩
theorem RetW.up {ws : List Str} {w w1 : World} {e : Ending} {w' : World} (hb : Below w.heap.size w w1) (h : RetW ws w1 e w') : RetW ws w e w' := by
  obtain ⟨V, h1, h2, h3⟩ := h
  exact ⟨V, h1, own_mono h2 hb.size, hb.trans (h3.mono hb.size)⟩
def kNum (sh : Str) (ns : List Str) : List Str :=
  if sh = [48] then sayN (ns.headD []) else if sh = [45, 48] then (if ns.headD [] = [48] then [] else negW (sayN (ns.headD []))) else []
theorem lastW_len2 (n : Nat) : True := trivial
theorem loopW_len (cnt : Nat → List Str) (hc : ∀ q, (cnt q).length ≤ 100) : ∀ (ps : List (Nat × Str)) (pre : List Str) (n : Nat), (loopW cnt ps pre n).1.length ≤ pre.length + ps.length * 101 := by
  intro ps
  induction ps with
  | nil => intro pre n; simp [loopW]
  | cons p ps ih =>
    intro pre n
    unfold loopW
    split
    · have h1 := ih (pre ++ cnt (n / p.1) ++ [p.2]) (n % p.1)
      have h2 := hc (n / p.1)
      rw [List.length_append, List.length_append] at h1
      simp at h1 ⊢
      omega
    · have h1 := ih pre n
      simp
      omega
theorem cntW_len (n : Nat) : (cntW n).length ≤ 400 := by
  unfold cntW cntG
  have h1 := tailW_len (loopW cnt3 powL [] n).1 (loopW cnt3 powL [] n).2
  have h2 := loopW_len cnt3 (fun q => by have := tailW_len [] q; unfold cnt3; simp at this; omega) powL [] n
  have h3 : powL.length = 3 := rfl
  rw [h3] at h2
  simp at h2
  omega
theorem sayN_len (x : Str) : (sayN x).length ≤ 400 := by
  unfold sayN
  split
  · exact cntW_len _
  · simp
set_option maxHeartbeats 1600000 in
theorem numberSay_any (sh : Str) (ns : List Str) (A : Option Addr) (c : Nat) (w : World) (hT : WT w) (hS : Ss w A ns.length c ns) (hQ : PiQ sh ns) :
    Calls Tryz.prog 206 #[.agg #[], .agg #[.string ⟨sh.toArray⟩, .slice A ns.length c]] w (RetW (kNum sh ns) w) := by
  have hal : ∀ (o1 o2 : Obj), Below w.heap.size w ((w.alloc o1).alloc o2) := fun o1 o2 => ((Below.refl _ _).alloc (Nat.le_refl _) o1).alloc (by rw [World.size_alloc]; omega) o2
  by_cases h1 : sh = [48]
  · subst h1
    obtain ⟨x, rfl, hD, hne⟩ := ns_one hQ rfl rfl
    obtain ⟨ad, rfl, hc⟩ := hS.cell (by simp)
    have hc0 := hc 0 x rfl
    have hap : ad.block < w.heap.size := by have := blt_of_cell hc0; rw [block_of_add] at this; exact this
    rw [show ad.add 0 = ad from by unfold Addr.add; simp] at hc0
    have hk := Lib.hid (fun (w9 : World) (h9 : WT w9) => spokenCount_any x hD hne w9 h9)
    have hw := Lib.hid (show kNum [48] [x] = sayN x from if_pos rfl)
    clear hc hS hQ
    go_enter Tryz.func206, Tryz.ntmps206
    go_wp2_with fail
    refine (hk.out _ ((hT.alloc _).alloc _)).mono ?_
    rintro e w' h
    obtain ⟨V, rfl, hO, hb⟩ := RetW.up (hal _ _) h
    go_wp2
    go_ret
    rw [hw.out]
    exact ⟨V, rfl, hO, hb⟩
  · have g1 : (sh == [48]) = false := by rw [beq_eq_false_iff_ne]; exact h1
    by_cases h2 : sh = [45, 48]
    · subst h2
      obtain ⟨x, rfl, hD, hne⟩ := ns_one hQ rfl rfl
      obtain ⟨ad, rfl, hc⟩ := hS.cell (by simp)
      have hc0 := hc 0 x rfl
      have hap : ad.block < w.heap.size := by have := blt_of_cell hc0; rw [block_of_add] at this; exact this
      rw [show ad.add 0 = ad from by unfold Addr.add; simp] at hc0
      have hk := Lib.hid (fun (w9 : World) (h9 : WT w9) => spokenCount_any x hD hne w9 h9)
      have hn := Lib.hid (fun (A9 : Option Addr) (c9 : Nat) (w9 : World) (h9 : Src w9 A9 (sayN x).length c9 (svs (sayN x)) 1) => negative_any (sayN x) (by have := sayN_len x; omega) A9 c9 w9 h9)
      have hw : kNum [45, 48] [x] = if x = [48] then [] else negW (sayN x) := by
        unfold kNum
        rw [if_neg h1, if_pos rfl]; rfl
      clear hc hS hQ g1 h1
      by_cases h3 : x = [48]
      · subst h3
        have hw2 := Lib.hid (show kNum [45, 48] [[48]] = [] from hw.trans (if_pos rfl))
        clear hw
        go_enter Tryz.func206, Tryz.ntmps206
        go_wp2
        go_ret
        rw [hw2.out]
        exact ⟨_, rfl, World.ownsRow_nil _ _ _ _, hal _ _⟩
      · have g3 : (x == [48]) = false := by rw [beq_eq_false_iff_ne]; exact h3
        have hw2 := Lib.hid (show kNum [45, 48] [x] = negW (sayN x) from hw.trans (if_neg h3))
        clear h3 hw
        generalize sayN x = Y at *
        go_enter Tryz.func206, Tryz.ntmps206
        go_wp2_with fail
        refine (hk.out _ ((hT.alloc _).alloc _)).mono ?_
        rintro e w' h
        obtain ⟨V, rfl, hO, hb⟩ := RetW.up (hal _ _) h
        obtain ⟨A9, c9, rfl, hS9⟩ := Src.of_own hO (oneCell_svs Y)
        go_wp2_with fail
        refine (hn.out _ _ _ hS9).mono ?_
        rintro e w5 h5
        obtain ⟨V5, rfl, hO5, hb5⟩ := RetW.up hb h5
        go_wp2
        go_ret
        rw [hw2.out]
        exact ⟨V5, rfl, hO5, hb5⟩
    · have g2 : (sh == [45, 48]) = false := by rw [beq_eq_false_iff_ne]; exact h2
      have hw := Lib.hid (show kNum sh ns = [] by unfold kNum; rw [if_neg h1, if_neg h2])
      go_enter Tryz.func206, Tryz.ntmps206
      go_wp2
      go_ret
      rw [hw.out]
      exact ⟨_, rfl, World.ownsRow_nil _ _ _ _, hal _ _⟩
end Go.Proofs.YtpdfjlbfhnapkaaGreatDoor

/- The words of strings of digits, and of ordinals. -/
namespace Go.Proofs.YtpdfjlbfhnapkaaGreatDoor
open Go.RowKit
set_option linter.unusedSimpArgs false
set_option linter.unusedVariables false
set_option maxRecDepth 100000

theorem below_two (w : World) (o1 o2 : Obj) : Below w.heap.size w ((w.alloc o1).alloc o2) := ((Below.refl _ _).alloc (Nat.le_refl _) o1).alloc (by rw [World.size_alloc]; omega) o2
/-- the only number of a form -/
theorem one_cell {w : World} {A : Option Addr} {c : Nat} {x : Str} (hS : Ss w A [x].length c [x]) : ∃ ad, A = some ad ∧ w.cell? ad = some (.string ⟨x.toArray⟩) ∧ ad.block < w.heap.size := by
  obtain ⟨ad, rfl, hc⟩ := hS.cell (by simp)
  have hc0 := hc 0 x rfl
  have hap : ad.block < w.heap.size := by have := blt_of_cell hc0; rw [block_of_add] at this; exact this
  rw [show ad.add 0 = ad from by unfold Addr.add; simp] at hc0
  exact ⟨ad, rfl, hc0, hap⟩
def kDig (sh : Str) (ns : List Str) : List Str := if sh = [48] then (if digsB (ns.headD []) = true then [[100, 105, 103, 105, 116, 115]] ++ digW (ns.headD []) else []) else []
theorem digsB_len {x : Str} (h : digsB x = true) : x.length ≤ 20 := by
  unfold digsB wiB at h
  rw [Bool.and_eq_true, Bool.and_eq_true] at h
  exact of_decide_eq_true h.1.2
set_option maxHeartbeats 1600000 in
theorem digitsSay_any (sh : Str) (ns : List Str) (A : Option Addr) (c : Nat) (w : World) (hT : WT w) (hS : Ss w A ns.length c ns) (hQ : PiQ sh ns) :
    Calls Tryz.prog 232 #[.agg #[], .agg #[.string ⟨sh.toArray⟩, .slice A ns.length c]] w (RetW (kDig sh ns) w) := by
  obtain ⟨i0, hi, hz0, hz1, hz2⟩ := info_parts info_str
  by_cases h1 : sh = [48]
  · subst h1
    obtain ⟨x, rfl, hD, hne⟩ := ns_one hQ rfl rfl
    obtain ⟨ad, rfl, hc0, hap⟩ := one_cell hS
    have hk := Lib.hid (fun (w9 : World) => areDigits_any x w9)
    have hw : kDig [48] [x] = if digsB x = true then [[100, 105, 103, 105, 116, 115]] ++ digW x else [] := if_pos rfl
    clear hS hQ
    cases hd : digsB x with
    | false =>
      have hw2 := Lib.hid (show kDig [48] [x] = [] by rw [hw, hd]; rfl)
      rw [hd] at hk
      clear hw hd
      go_enter Tryz.func232, Tryz.ntmps232
      go_wp2_with fail
      refine (hk.out _).mono ?_
      rintro e w' ⟨rfl, rfl⟩
      go_wp2
      go_ret
      rw [hw2.out]
      exact ⟨_, rfl, World.ownsRow_nil _ _ _ _, below_two _ _ _⟩
    | true =>
      have hl := digsB_len hd
      have hw2 := Lib.hid (show kDig [48] [x] = [[100, 105, 103, 105, 116, 115]] ++ digW x by rw [hw, hd]; rfl)
      rw [hd] at hk
      have hdw := Lib.hid (fun (w9 : World) (h9 : WT w9) => digitByDigit_any x hD (by omega) w9 h9)
      have hlq : (digW x).length ≤ 20 := by rw [digW_len]; exact hl
      clear hw hd
      generalize digW x = Y at *
      go_enter Tryz.func232, Tryz.ntmps232
      go_wp2_with fail
      refine (hk.out _).mono ?_
      rintro e w' ⟨rfl, rfl⟩
      have hb0 := below_two w (.cells #[] 116) (.cells #[.string ⟨#[48]⟩, .slice (some ad) [x].length c] 87)
      have hT2 := hT.below hb0
      have k1 : ((w.alloc (.cells #[] 116)).alloc (.cells #[.string ⟨#[48]⟩, .slice (some ad) [x].length c] 87)).cell? ⟨w.heap.size + 1, 1, none⟩ = some (.slice (some ad) [x].length c) := by
        have h9 := (Blk.new (w.alloc (.cells #[] 116)) 87 #[.string ⟨#[48]⟩, .slice (some ad) [x].length c]).cell 1
        rw [World.size_alloc] at h9
        exact h9
      have hc1 : ((w.alloc (.cells #[] 116)).alloc (.cells #[.string ⟨#[48]⟩, .slice (some ad) [x].length c] 87)).cell? ad = some (.string ⟨x.toArray⟩) := (hb0.cell hap).trans hc0
      have hzz1 : w.heap.size + 1 < ((w.alloc (.cells #[] 116)).alloc (.cells #[.string ⟨#[48]⟩, .slice (some ad) [x].length c] 87)).heap.size := by rw [World.size_alloc, World.size_alloc]; omega
      generalize (w.alloc (.cells #[] 116)).alloc (.cells #[.string ⟨#[48]⟩, .slice (some ad) [x].length c] 87) = W1 at *
      have hap1 : ad.block < W1.heap.size := by omega
      go_wp2_with fail
      have hAl := (Below.refl W1.heap.size W1).alloc (Nat.le_refl _) (.cells #[.string ⟨#[100, 105, 103, 105, 116, 115]⟩] 9)
      have hOl := own_lit W1 [[100, 105, 103, 105, 116, 115]] (by simp)
      refine (hdw.out _ (hT2.alloc _)).mono ?_
      rintro e w5 ⟨V5, rfl, hO5, hb5⟩
      obtain ⟨A5, c5, rfl, hS5⟩ := Src.of_own hO5 (oneCell_svs Y)
      have hOl5 := own_below hOl hb5
      have hb6 := hAl.trans (hb5.mono hAl.size)
      have hb7 := hb0.trans (hb6.mono hb0.size)
      go_wp2_with (at_builtin; refine wpList_append_any rfl (.tmp 16) (.tmp 21) 32 rfl W1.heap.size 9 i0 (.string ⟨#[]⟩) 1 16 Tryz.underlying32 hi hz0 hz1 hz2 rfl (by decide) _ 1 (svs [[100, 105, 103, 105, 116, 115]]) rfl hOl5 A5 Y.length c5 (svs Y) rfl hS5 (by unfold maxLen; omega) (by omega) hb6.size ?_; intro V6 x6 hOx hGx hZx; clear hZx)
      have hb8 : Below w.heap.size w x6 := bel_grown2 hb7 hGx (fun k9 e => by have := (hOl5.lt k9 e).1; have := hb0.size; omega)
      have hO8 := own_mono (own_app hOx rfl rfl) hb0.size
      go_wp2
      go_ret
      rw [hw2.out]
      exact ⟨V6, rfl, hO8, hb8⟩
  · have g1 : (sh == [48]) = false := by rw [beq_eq_false_iff_ne]; exact h1
    have hw := Lib.hid (show kDig sh ns = [] from if_neg h1)
    go_enter Tryz.func232, Tryz.ntmps232
    go_wp2
    go_ret
    rw [hw.out]
    exact ⟨_, rfl, World.ownsRow_nil _ _ _ _, below_two _ _ _⟩
end Go.Proofs.YtpdfjlbfhnapkaaGreatDoor

/- The words of ordinals. -/
namespace Go.Proofs.YtpdfjlbfhnapkaaGreatDoor
open Go.RowKit
set_option linter.unusedSimpArgs false
set_option linter.unusedVariables false
set_option maxRecDepth 100000

theorem twoW_ne (n : Nat) : twoW n ≠ [] := by
  unfold twoW; split
  · simp
  · split <;> simp
theorem lastW_ne (pre : List Str) (n : Nat) : lastW pre n ≠ [] := by
  unfold lastW
  split
  · exact twoW_ne n
  · rename_i h
    split
    · exact h
    · simp
theorem cntW_ne (n : Nat) : cntW n ≠ [] := by
  unfold cntW cntG tailW
  split
  · exact lastW_ne _ _
  · exact lastW_ne _ _
/-- the words of an ordinal -/
def sordW (n : Nat) : List Str := (cntW n).set ((cntW n).length - 1) (ordW ((cntW n).getD ((cntW n).length - 1) []))
set_option maxHeartbeats 1600000 in
theorem spokenOrdinal_any (n : Nat) (hn : n < 1000000000000) (hwl : ∀ x ∈ cntW n, x.length ≤ 100000) (w : World) (hT : WT w) : Calls Tryz.prog 227 #[.int .i64 (n : Int)] w (RetW (sordW n) w) := by
  have hc := Lib.hid (sayCount_any n hn w hT)
  have hsw := Lib.hid (show sordW n = (cntW n).set ((cntW n).length - 1) (ordW ((cntW n).getD ((cntW n).length - 1) [])) from rfl)
  have hne := cntW_ne n
  have hll := cntW_len n
  generalize cntW n = Y at *
  obtain ⟨m, hm⟩ : ∃ m, Y.length = m + 1 := ⟨Y.length - 1, by have : Y.length ≠ 0 := (fun e => hne (List.length_eq_zero_iff.1 e)); omega⟩
  obtain ⟨x, hx⟩ : ∃ x, Y[m]? = some x := ⟨_, List.getElem?_eq_getElem (by omega)⟩
  have hsw2 := Lib.hid (show sordW n = Y.set m (ordW x) by rw [hsw.out, hm, Nat.add_sub_cancel, List.getD_eq_getElem?_getD, hx]; rfl)
  have hxl := hwl x (List.mem_of_getElem? hx)
  have ho := Lib.hid (fun (w9 : World) (h9 : WT w9) => ordinalWord_any x hxl w9 h9)
  have hml := Lib.hid hm
  rw [hm] at hll
  clear hsw hne hwl
  generalize ordW x = X at *
  go_enter Tryz.func227, Tryz.ntmps227
  go_wp2_with fail
  refine hc.out.mono ?_
  rintro e w2 ⟨V, rfl, hO, hb⟩
  rw [hm] at hO
  rcases hO.2 with ⟨_, h⟩ | ⟨g, cap, cur, rfl, hg, hgc, hgl, hgm, _⟩
  · omega
  have hT2 := hT.below hb
  have hv0 : w2.cell? ⟨g, m, none⟩ = some (.string ⟨x.toArray⟩) := by
    have h9 := hO.cells (g := g) rfl m (.string ⟨x.toArray⟩) (by simp [svs, hx])
    rw [add_new] at h9
    exact h9
  have hfz : w2.frozen? ⟨g, m, none⟩ = false := Blk.frozen (show Blk w2 g 9 cur from hgc) m
  have dm2 : (m : Int) + 1 - 1 = (m : Int) := by omega
  have hm9 : m ≤ 3000 := by omega
  have hlen : (Builtin.len_ #[32] 3 #[.slice (some ⟨g, 0, none⟩) (m + 1) cap]).run Tryz.prog w2 = .ok (.int .i64 ((m + 1 : Nat) : Int)) w2 := by go_simp
  have hgB : Blk w2 g 9 cur := hgc
  clear hgc hx hm
  go_wp2_with fail
  refine (ho.out _ hT2).mono ?_
  rintro e w3 ⟨rfl, hb3⟩
  have hO3 := own_below hO hb3
  have hv3 := (hb3.cell (p := ⟨g, m, none⟩) hgB.lt).trans hv0
  have hfz3 := (hgB.below hb3).frozen m
  have hb := hb.trans (hb3.mono hb.size)
  clear hfz hv0 hb3 hgB
  go_wp2
  go_ret
  have hset := own_set hO3 (i := m) (by omega) (.string ⟨X.toArray⟩)
  have hb5 : Below w.heap.size w (w3.setCell ⟨g, m, none⟩ (.string ⟨X.toArray⟩)) := bel_grown2 hb (grown_set w3 g m (.string ⟨X.toArray⟩)) (fun k9 e => by injection e with e; omega)
  rw [hsw2.out]
  refine ⟨_, rfl, ?_, hb5⟩
  rw [List.length_set, hml.out, show svs (Y.set m X) = (svs Y).set m (.string ⟨X.toArray⟩) by simp [svs, List.map_set]]
  exact hset
end Go.Proofs.YtpdfjlbfhnapkaaGreatDoor

/- The words of years; what kinds there are. -/
namespace Go.Proofs.YtpdfjlbfhnapkaaGreatDoor
open Go.RowKit
set_option linter.unusedSimpArgs false
set_option linter.unusedVariables false
set_option maxRecDepth 100000

theorem pairW_len (n : Nat) : (pairW n).length ≤ 2 := by
  unfold pairW
  split
  · simp
  · exact twoW_len n
/-- the words of a year -/
def yrW (y : Nat) : List Str := if y % 1000 < 10 then cntW y else if y % 100 = 0 then cntW (y / 100) ++ [[104, 117, 110, 100, 114, 101, 100]] else cntW (y / 100) ++ pairW (y % 100)
set_option maxHeartbeats 1600000 in
theorem spokenYear_any (y : Nat) (hy : y ≤ 9999) (w : World) (hT : WT w) : Calls Tryz.prog 251 #[.int .i64 (y : Int)] w (RetW (yrW y) w) := by
  obtain ⟨i0, hi, hz0, hz1, hz2⟩ := info_parts info_str
  have hr := Lib.hid (isRound_any y w)
  by_cases h1 : y % 1000 < 10
  · have hw := Lib.hid (show yrW y = cntW y from if_pos h1)
    rw [decide_eq_true h1] at hr
    have hc := Lib.hid (sayCount_any y (by omega) w hT)
    clear h1
    generalize cntW y = Y at *
    go_enter Tryz.func251, Tryz.ntmps251
    go_wp2_with fail
    refine hr.out.mono ?_
    rintro e w' ⟨rfl, rfl⟩
    go_wp2_with fail
    refine hc.out.mono ?_
    rintro e w2 ⟨V, rfl, hO, hb⟩
    go_wp2
    go_ret
    rw [hw.out]
    exact ⟨V, rfl, hO, hb⟩
  · rw [decide_eq_false h1] at hr
    obtain ⟨a, ha⟩ : ∃ a, y / 100 = a := ⟨_, rfl⟩
    obtain ⟨b, hb9⟩ : ∃ b, y % 100 = b := ⟨_, rfl⟩
    have d1 : (y : Int).tdiv 100 = (a : Int) := by rw [Int.tdiv_eq_ediv_of_nonneg (by omega)]; omega
    have d2 : (y : Int) / 100 = (a : Int) := by omega
    have d3 : (y : Int).tmod 100 = (b : Int) := by rw [Int.tmod_eq_emod_of_nonneg (by omega)]; omega
    have d4 : (y : Int) % 100 = (b : Int) := by omega
    have wa : IntKind.i64.wrap (a : Int) = (a : Int) := IntWalk.i64_in _ (by omega)
    have hw0 : yrW y = if b = 0 then cntW a ++ [[104, 117, 110, 100, 114, 101, 100]] else cntW a ++ pairW b := by
      unfold yrW
      rw [if_neg h1, ha, hb9]
    have hb100 : b < 100 := by omega
    have hc := Lib.hid (sayCount_any a (by omega) w hT)
    have hp := Lib.hid (fun (w9 : World) (h9 : WT w9) => sayPair_any b hb100 w9 h9)
    have hl := cntW_len a
    have hpl := pairW_len b
    clear h1 ha hb9
    generalize cntW a = Y at *
    generalize pairW b = Z at *
    by_cases h0 : b = 0
    · subst h0
      have hw := Lib.hid (show yrW y = Y ++ [[104, 117, 110, 100, 114, 101, 100]] from hw0.trans (if_pos rfl))
      clear hw0
      go_enter Tryz.func251, Tryz.ntmps251
      go_wp2_with fail
      refine hr.out.mono ?_
      rintro e w' ⟨rfl, rfl⟩
      go_wp2_with fail
      refine hc.out.mono ?_
      rintro e w2 ⟨V, rfl, hO, hb⟩
      have hAl := (Below.refl w2.heap.size w2).alloc (Nat.le_refl _) (.cells #[.string ⟨#[104, 117, 110, 100, 114, 101, 100]⟩] 9)
      have hOl := own_below hO hAl
      have hSl := src_lit (x := [104, 117, 110, 100, 114, 101, 100]) (Blk.new w2 9 #[.string ⟨#[104, 117, 110, 100, 114, 101, 100]⟩])
      have hbl := hb.trans (hAl.mono hb.size)
      go_wp2_with (at_builtin; refine wpList_append_any rfl (.tmp 14) (.tmp 15) 32 rfl w.heap.size 9 i0 (.string ⟨#[]⟩) 1 16 Tryz.underlying32 hi hz0 hz1 hz2 rfl (by decide) V Y.length (svs Y) rfl hOl _ 1 1 (svs [[104, 117, 110, 100, 114, 101, 100]]) rfl hSl (by unfold maxLen; omega) (by omega) hbl.size ?_; intro V6 x6 hOx hGx hZx; clear hZx)
      have hb8 : Below w.heap.size w x6 := bel_grown2 hbl hGx (fun k9 e => (hOl.lt k9 e).1)
      have hO8 := own_app hOx rfl rfl
      go_wp2
      go_ret
      rw [hw.out]
      exact ⟨V6, rfl, hO8, hb8⟩
    · have hw := Lib.hid (show yrW y = Y ++ Z from hw0.trans (if_neg h0))
      have g0 : ((b : Int) == 0) = false := by rw [beq_eq_false_iff_ne]; omega
      clear hw0
      go_enter Tryz.func251, Tryz.ntmps251
      go_wp2_with fail
      refine hr.out.mono ?_
      rintro e w' ⟨rfl, rfl⟩
      go_wp2_with fail
      refine hc.out.mono ?_
      rintro e w2 ⟨V, rfl, hO, hb⟩
      go_wp2_with fail
      refine (hp.out w2 (hT.below hb)).mono ?_
      rintro e w3 ⟨V3, rfl, hO3, hb3⟩
      obtain ⟨A3, c3, rfl, hS3⟩ := Src.of_own hO3 (oneCell_svs Z)
      have hOl := own_below hO hb3
      have hbl := hb.trans (hb3.mono hb.size)
      go_wp2_with (at_builtin; refine wpList_append_any rfl (.tmp 19) (.tmp 22) 32 rfl w.heap.size 9 i0 (.string ⟨#[]⟩) 1 16 Tryz.underlying32 hi hz0 hz1 hz2 rfl (by decide) V Y.length (svs Y) rfl hOl A3 Z.length c3 (svs Z) rfl hS3 (by unfold maxLen; omega) (by omega) hbl.size ?_; intro V6 x6 hOx hGx hZx; clear hZx)
      have hb8 : Below w.heap.size w x6 := bel_grown2 hbl hGx (fun k9 e => (hOl.lt k9 e).1)
      have hO8 := own_app hOx rfl rfl
      go_wp2
      go_ret
      rw [hw.out]
      exact ⟨V6, rfl, hO8, hb8⟩
theorem numberKind_any (w : World) : Calls Tryz.prog 205 #[.agg #[]] w fun e w' => e = .returned (.int .i64 1) ∧ Below w.heap.size w w' := by
  have hb := (Below.refl w.heap.size w).alloc (Nat.le_refl _) (.cells #[] 72)
  go_enter Tryz.func205, Tryz.ntmps205
  go_wp2
  go_ret
  exact ⟨rfl, hb⟩
theorem ordinalKind_any (w : World) : Calls Tryz.prog 224 #[.agg #[]] w fun e w' => e = .returned (.int .i64 2) ∧ Below w.heap.size w w' := by
  have hb := (Below.refl w.heap.size w).alloc (Nat.le_refl _) (.cells #[] 115)
  go_enter Tryz.func224, Tryz.ntmps224
  go_wp2
  go_ret
  exact ⟨rfl, hb⟩
theorem digitsKind_any (w : World) : Calls Tryz.prog 231 #[.agg #[]] w fun e w' => e = .returned (.int .i64 3) ∧ Below w.heap.size w w' := by
  have hb := (Below.refl w.heap.size w).alloc (Nat.le_refl _) (.cells #[] 116)
  go_enter Tryz.func231, Tryz.ntmps231
  go_wp2
  go_ret
  exact ⟨rfl, hb⟩
theorem decimalKind_any (w : World) : Calls Tryz.prog 237 #[.agg #[]] w fun e w' => e = .returned (.int .i64 4) ∧ Below w.heap.size w w' := by
  have hb := (Below.refl w.heap.size w).alloc (Nat.le_refl _) (.cells #[] 117)
  go_enter Tryz.func237, Tryz.ntmps237
  go_wp2
  go_ret
  exact ⟨rfl, hb⟩
theorem clockKind_any (w : World) : Calls Tryz.prog 241 #[.agg #[]] w fun e w' => e = .returned (.int .i64 5) ∧ Below w.heap.size w w' := by
  have hb := (Below.refl w.heap.size w).alloc (Nat.le_refl _) (.cells #[] 118)
  go_enter Tryz.func241, Tryz.ntmps241
  go_wp2
  go_ret
  exact ⟨rfl, hb⟩
theorem dateKind_any (w : World) : Calls Tryz.prog 248 #[.agg #[]] w fun e w' => e = .returned (.int .i64 6) ∧ Below w.heap.size w w' := by
  have hb := (Below.refl w.heap.size w).alloc (Nat.le_refl _) (.cells #[] 119)
  go_enter Tryz.func248, Tryz.ntmps248
  go_wp2
  go_ret
  exact ⟨rfl, hb⟩
theorem moneyKind_any (w : World) : Calls Tryz.prog 255 #[.agg #[]] w fun e w' => e = .returned (.int .i64 7) ∧ Below w.heap.size w w' := by
  have hb := (Below.refl w.heap.size w).alloc (Nat.le_refl _) (.cells #[] 120)
  go_enter Tryz.func255, Tryz.ntmps255
  go_wp2
  go_ret
  exact ⟨rfl, hb⟩
end Go.Proofs.YtpdfjlbfhnapkaaGreatDoor
