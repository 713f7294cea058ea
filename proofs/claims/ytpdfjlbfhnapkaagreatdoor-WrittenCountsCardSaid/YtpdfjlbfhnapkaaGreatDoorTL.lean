/- Strings are joined; Kind, Speak. -/
import Derived.Test.YtpdfjlbfhnapkaaGreatDoorTK
namespace Go.Proofs.YtpdfjlbfhnapkaaGreatDoor
open Go.RowKit
set_option linter.unusedSimpArgs false
set_option linter.unusedVariables false
set_option maxRecDepth 100000

/-- few short words -/
def Sm (k : Nat) (ws : List Str) : Prop := ws.length ≤ k ∧ ∀ x ∈ ws, x.length ≤ 30
theorem Sm.nil (k : Nat) : Sm k [] := ⟨Nat.zero_le _, fun _ h => by cases h⟩
theorem Sm.mono {k m : Nat} {ws : List Str} (h : Sm k ws) (hm : k ≤ m) : Sm m ws := ⟨Nat.le_trans h.1 hm, h.2⟩
theorem Sm.app {k m : Nat} {a b : List Str} (h : Sm k a) (h2 : Sm m b) : Sm (k + m) (a ++ b) := ⟨by rw [List.length_append]; have := h.1; have := h2.1; omega, fun x hx => by
  rcases List.mem_append.1 hx with h9 | h9
  · exact h.2 x h9
  · exact h2.2 x h9⟩
theorem Sm.one {x : Str} (h : x.length ≤ 30) : Sm 1 [x] := ⟨Nat.le_refl _, fun y hy => by rw [List.mem_singleton] at hy; subst hy; exact h⟩
theorem Sm.cnt {n : Nat} (h : n < 1000000000000) : Sm 400 (cntW n) := ⟨cntW_len n, fun x hx => by have := cntW_short h x hx; omega⟩
theorem Sm.neg {k : Nat} {ws : List Str} (h : Sm k ws) : Sm (k + 1) (negW ws) := by
  unfold negW
  split
  · exact Sm.nil _
  · have := (Sm.one (x := [109, 105, 110, 117, 115]) (by decide)).app h
    exact this.mono (by omega)
theorem valD_card {x : Str} (h : AllD x) (hi : isCard x = true) : valD x < 1000000000000 := by
  unfold isCard at hi
  rw [Bool.and_eq_true] at hi
  exact valD_12 h (of_decide_eq_true hi.1)
theorem Sm.say {x : Str} (h : AllD x) : Sm 400 (sayN x) := by
  unfold sayN
  split
  · rename_i hi; exact Sm.cnt (valD_card h hi)
  · exact Sm.nil _
theorem Sm.dig {x : Str} (k : Nat) (hk : x.length ≤ k) : Sm k (digW x) := ⟨by rw [digW_len]; exact hk, fun y hy => by
  unfold digW at hy
  rw [List.mem_map] at hy
  obtain ⟨b, _, rfl⟩ := hy
  have := cnt_short_small (b.toNat - 48)
  omega⟩
theorem headD_allD {ns : List Str} (h : ∀ x ∈ ns, AllD x ∧ x ≠ []) : AllD (ns.headD []) := by
  cases ns with
  | nil => intro b hb; cases hb
  | cons a b => exact (h a List.mem_cons_self).1
theorem getD_allD {ns : List Str} (h : ∀ x ∈ ns, AllD x ∧ x ≠ []) (i : Nat) : AllD (ns.getD i []) := by
  rw [List.getD_eq_getElem?_getD]
  cases hq : ns[i]? with
  | none => intro b hb; cases hb
  | some x => exact (h x (List.mem_of_getElem? hq)).1
theorem ordW_short {x : Str} (h : x.length ≤ 20) : (ordW x).length ≤ 30 := by
  unfold ordW
  split
  · rename_i y hy
    have key : ∀ (ps : List (Str × Str)), (∀ p ∈ ps, p.2.length ≤ 30) → findL ps x = some y → y.length ≤ 30 := by
      intro ps
      induction ps with
      | nil => intro _ h; cases h
      | cons p ps ih =>
        intro h1 h2
        unfold findL at h2
        split at h2
        · injection h2 with h2; subst h2; exact h1 p List.mem_cons_self
        · exact ih (fun q hq => h1 q (List.mem_cons_of_mem _ hq)) h2
    exact key irrL (by decide +kernel) hy
  · split
    · have := trim_len x [121]
      rw [List.length_append]; simp; omega
    · rw [List.length_append]; simp; omega
theorem Sm.ord {n : Nat} (h : n < 1000000000000) : Sm 400 (sordW n) := by
  refine ⟨by unfold sordW; rw [List.length_set]; exact cntW_len n, fun x hx => ?_⟩
  unfold sordW at hx
  have hs := fun y hy => cntW_short h y hy
  rcases List.mem_or_eq_of_mem_set hx with h9 | h9
  · have := hs x h9; omega
  · subst h9
    refine ordW_short ?_
    rw [List.getD_eq_getElem?_getD]
    cases hq : (cntW n)[(cntW n).length - 1]? with
    | none => simp
    | some y => exact hs y (List.mem_of_getElem? hq)
theorem Sm.two (n : Nat) (h : n < 100) : Sm 2 (twoW n) := ⟨twoW_len n, fun x hx => by have := cnt_short_two n h x hx; omega⟩
theorem Sm.pair (n : Nat) (h : n < 100) : Sm 2 (pairW n) := by
  unfold pairW
  split
  · exact (Sm.one (x := [111, 104]) (by decide)).app (Sm.one (by have := cnt_short_small n; omega))
  · exact Sm.two n h
theorem Sm.yr (y : Nat) (h : y ≤ 9999) : Sm 402 (yrW y) := by
  unfold yrW
  split
  · exact (Sm.cnt (by omega)).mono (by omega)
  · split
    · exact ((Sm.cnt (n := y / 100) (by omega)).app (Sm.one (by decide))).mono (by omega)
    · exact ((Sm.cnt (n := y / 100) (by omega)).app (Sm.pair _ (by omega))).mono (by omega)
theorem Sm.num {sh : Str} {ns : List Str} (h : PiQ sh ns) : Sm 1000 (kNum sh ns) := by
  unfold kNum
  split
  · exact (Sm.say (headD_allD h.2)).mono (by omega)
  · split
    · split
      · exact Sm.nil _
      · exact (Sm.say (headD_allD h.2)).neg.mono (by omega)
    · exact Sm.nil _
theorem Sm.kord {sh : Str} {ns : List Str} (h : PiQ sh ns) : Sm 1000 (kOrd sh ns) := by
  unfold kOrd ordI
  have := cardI_lt (headD_allD h.2)
  split
  · split
    · exact Sm.nil _
    · split
      · exact (Sm.ord (by omega)).mono (by omega)
      · exact Sm.nil _
  · exact Sm.nil _
theorem Sm.kdig {sh : Str} {ns : List Str} (h : PiQ sh ns) : Sm 1000 (kDig sh ns) := by
  unfold kDig
  split
  · split
    · rename_i hd
      exact ((Sm.one (x := [100, 105, 103, 105, 116, 115]) (by decide)).app (Sm.dig 20 (digsB_len hd))).mono (by omega)
    · exact Sm.nil _
  · exact Sm.nil _
theorem Sm.kdec {sh : Str} {ns : List Str} (h : PiQ sh ns) : Sm 1000 (kDec sh ns) := by
  unfold kDec decI
  split
  · split
    · exact Sm.nil _
    · rename_i hd
      have hp : placesB (ns.getD 1 []) = true := by
        cases hq : placesB (ns.getD 1 []) with
        | true => rfl
        | false => exact absurd (Or.inr hq) hd
      have hl : (ns.getD 1 []).length ≤ 12 := by unfold placesB wiB at hp; rw [Bool.and_eq_true, decide_eq_true_eq, decide_eq_true_eq] at hp; exact hp.2
      have h9 : Sm 413 (sayN (ns.getD 0 []) ++ [[112, 111, 105, 110, 116]] ++ digW (ns.getD 1 [])) := ((Sm.say (getD_allD h.2 0)).app (Sm.one (by decide))).app (Sm.dig 12 hl)
      split
      · exact h9.neg.mono (by omega)
      · exact h9.mono (by omega)
  · exact Sm.nil _
theorem Sm.kclk {sh : Str} {ns : List Str} (h : PiQ sh ns) : Sm 1000 (kClk sh ns) := by
  unfold kClk clkW
  split
  · split
    · split
      · exact ((Sm.cnt (n := (fieldI (ns.getD 0 []) 2).toNat) (by omega)).app (Sm.one (by decide))).mono (by omega)
      · exact ((Sm.cnt (n := (fieldI (ns.getD 0 []) 2).toNat) (by omega)).app (Sm.pair _ (by omega))).mono (by omega)
    · exact Sm.nil _
  · exact Sm.nil _
theorem monthN_short (n : Nat) : (monthN n).length ≤ 30 := by
  unfold monthN
  rw [List.getD_eq_getElem?_getD]
  cases h : monthsL[n - 1]? with
  | none => simp
  | some x => exact (show ∀ x ∈ monthsL, x.length ≤ 30 by decide +kernel) x (List.mem_of_getElem? h)
theorem Sm.kdat {sh : Str} {ns : List Str} (h : PiQ sh ns) : Sm 1000 (kDat sh ns) := by
  unfold kDat datW
  split
  · split
    · rename_i hd
      obtain ⟨⟨y1, y2⟩, ⟨m1, m2⟩, d1, d2⟩ := dayB_true hd
      exact ((((Sm.one (x := [116, 104, 101]) (by decide)).app (Sm.ord (n := (fieldI (ns.getD 2 []) 2).toNat) (by omega))).app (((Sm.one (x := [111, 102]) (by decide)).app (Sm.one (monthN_short _))))).app (Sm.yr _ (by omega))).mono (by omega)
    · exact Sm.nil _
  · exact Sm.nil _
theorem counted_short {n : Nat} {x : Str} (h : x.length ≤ 20) : (countedN n x).length ≤ 30 := by
  unfold countedN
  split
  · omega
  · rw [List.length_append]; simp; omega
theorem Sm.mny {d c : Nat} (hd : d < 1000000000000) (hc : c < 1000000000000) : Sm 803 (mnyW d c) := by
  unfold mnyW
  split
  · exact ((Sm.cnt hd).app (Sm.one (counted_short (by decide)))).mono (by omega)
  · split
    · exact (((Sm.nil 0).app (Sm.cnt hc)).app (Sm.one (counted_short (by decide)))).mono (by omega)
    · exact (((((Sm.cnt hd).app (Sm.one (counted_short (by decide)))).app (Sm.one (by decide))).app (Sm.cnt hc)).app (Sm.one (counted_short (by decide)))).mono (by omega)
theorem Sm.kmny {sh : Str} {ns : List Str} (h : PiQ sh ns) : Sm 1000 (kMny sh ns) := by
  unfold kMny mnyI
  have h1 := cardI_lt (getD_allD h.2 0)
  have h2 := fieldI_lt (getD_allD h.2 1) 2
  split
  · split
    · exact Sm.nil _
    · exact (Sm.mny (by omega) (by omega)).mono (by omega)
  · split
    · split
      · exact Sm.nil _
      · split
        · exact Sm.nil _
        · exact (Sm.mny (by omega) (by omega)).mono (by omega)
    · exact Sm.nil _
theorem firstW_sm (k : Nat) : ∀ (ls : List (List Str)) (j : Nat), (∀ l ∈ ls, Sm k l) → Sm k (firstW ls j).1 := by
  intro ls
  induction ls with
  | nil => intro j _; exact Sm.nil _
  | cons l ls ih =>
    intro j h
    unfold firstW
    split
    · exact ih _ (fun x hx => h x (List.mem_cons_of_mem _ hx))
    · exact h l List.mem_cons_self
theorem speakF_sm {sh : Str} {ns : List Str} (h : PiQ sh ns) : Sm 1000 (speakF sh ns).1 := by
  refine firstW_sm _ _ _ (fun l hl => ?_)
  unfold sayL at hl
  simp only [List.mem_cons, List.not_mem_nil, or_false] at hl
  rcases hl with rfl | rfl | rfl | rfl | rfl | rfl | rfl
  · exact Sm.num h
  · exact Sm.kord h
  · exact Sm.kdig h
  · exact Sm.kdec h
  · exact Sm.kclk h
  · exact Sm.kdat h
  · exact Sm.kmny h
/-- words with single spaces between them -/
def joinW (ws : List Str) : Str := Lib.join ws [32]
theorem lens_le (m : Nat) : ∀ (ws : List Str), (∀ x ∈ ws, x.length ≤ m) → Lib.lens ws ≤ ws.length * m := by
  intro ws
  induction ws with
  | nil => intro _; simp [Lib.lens]
  | cons x xs ih =>
    intro h
    have h1 := ih (fun y hy => h y (List.mem_cons_of_mem _ hy))
    have h2 := h x List.mem_cons_self
    unfold Lib.lens at h1 ⊢
    rw [List.map_cons, List.sum_cons, List.length_cons, Nat.succ_mul]
    omega
theorem joinW_len {m : Nat} {ws : List Str} (h : ∀ x ∈ ws, x.length ≤ m) : (joinW ws).length ≤ ws.length * (m + 1) := by
  cases ws with
  | nil => simp [joinW, Lib.join_nil]
  | cons x xs =>
    unfold joinW
    rw [Lib.join_length]
    have := lens_le m (x :: xs) h
    rw [Nat.mul_succ]
    simp only [List.length_cons, List.length_nil] at this ⊢
    omega
theorem join_any (ws : List Str) (V : Value) (base : Nat) (w : World) (hO : w.ownsRow base 9 1 V ws.length (svs ws)) (hl : (joinW ws).length ≤ 100000000) (hn : ws.length ≤ 100000000) :
    Calls Tryz.prog 49 #[V, .string ⟨#[32]⟩] w fun e w' => e = .returned (.string ⟨(joinW ws).toArray⟩) ∧ Below w.heap.size w w' := by
  rcases hO.2 with ⟨rfl, h0⟩ | ⟨g, cap, cur, rfl, hg, hgc, hgl, hgm, _⟩
  · have h1 : ws = [] := List.length_eq_zero_iff.1 h0
    subst h1
    go_enter Tryz.func49, Tryz.ntmps49
    go_wp2
    go_ret
    exact ⟨rfl, Below.refl _ _⟩
  · have hm : (ws.map fun z => (⟨z.toArray⟩ : ByteArray)).map (fun x => x.data.toList) = ws := by
      rw [List.map_map]
      exact List.map_id' _
    have hJ := Tryz.strings_Join g 0 cap (ws.map fun z => ⟨z.toArray⟩) ⟨#[32]⟩ w (fun i x hx => by
      rw [List.getElem?_map, Option.map_eq_some_iff] at hx
      obtain ⟨z, hz, rfl⟩ := hx
      have h9 := hO.cells (g := g) rfl i (.string ⟨z.toArray⟩) (by simp [svs, hz])
      rw [add_new] at h9
      rw [Nat.zero_add]
      exact h9) (Blk.lt (show Blk w g 9 cur from hgc)) (by rw [List.length_map]; omega) (by rw [List.length_map]; exact hgl)
    rw [hm, List.length_map] at hJ
    refine (hJ (show (Lib.join ws [32]).length ≤ _ by have : (Lib.join ws [32]).length ≤ 100000000 := hl; omega)).mono ?_
    rintro e w' ⟨rfl, h2⟩
    exact ⟨rfl, h2⟩
theorem ret_tup {a b : Array Value} (h : a = b) : Ending.returned (.tuple a) = .returned (.tuple b) := by rw [h]
/-- what Kind answers -/
def kdC (s : Str) (k : Nat) : Int × Int := if 2000 < s.length then (0, 5) else if k = 0 then (0, 4) else ((k : Int), 0)
theorem firstW_nil : ∀ (ls : List (List Str)) (j : Nat), 0 < j → ((firstW ls j).1 = [] ↔ (firstW ls j).2 = 0) := by
  intro ls
  induction ls with
  | nil => intro j _; exact ⟨fun _ => rfl, fun _ => rfl⟩
  | cons l ls ih =>
    intro j hj
    unfold firstW
    split
    · exact ih _ (by omega)
    · rename_i h
      exact ⟨fun e => absurd e h, fun e => absurd e (by simp only; omega)⟩
theorem speakF_nil (sh : Str) (ns : List Str) : (speakF sh ns).1 = [] ↔ (speakF sh ns).2 = 0 := firstW_nil _ 1 (by decide)
theorem Kind_any (s : Str) (w : World) (hT : WT w) :
    Calls Tryz.prog 19 #[.string ⟨s.toArray⟩] w fun e w' => (∃ sh ns, (2000 < s.length ∨ CutQ s sh ns) ∧ e = .returned (.tuple #[.int .i64 (kdC s (speakF sh ns).2).1, .int .i64 (kdC s (speakF sh ns).2).2])) ∧ Below w.heap.size w w' := by
  have hln := Lib.hid (length_any s w)
  by_cases hs : 2000 < s.length
  · have h1 : lenC s = 5 := if_neg (by omega)
    rw [h1] at hln
    have hk := Lib.hid (fun k => show kdC s k = (0, 5) from if_pos hs)
    go_enter Tryz.func19, Tryz.ntmps19
    go_wp2_with fail
    refine hln.out.mono ?_
    rintro e w' ⟨rfl, rfl⟩
    go_wp2
    go_ret2
    exact ⟨⟨[], [], Or.inl hs, by rw [hk.out]; rfl⟩, Below.refl _ _⟩
  · have h1 : lenC s = 0 := if_pos (by omega)
    rw [h1] at hln
    have hk := Lib.hid (fun k => show kdC s k = if k = 0 then (0, 4) else ((k : Int), 0) from if_neg hs)
    have hsp := Lib.hid (speak_any s (by omega) w hT)
    clear h1 hs
    go_enter Tryz.func19, Tryz.ntmps19
    go_wp2_with fail
    refine hln.out.mono ?_
    rintro e w' ⟨rfl, rfl⟩
    go_wp2_with fail
    refine hsp.out.mono ?_
    rintro e w2 ⟨V, sh, ns, hQ, rfl, hO, hb⟩
    have hz := speakF_nil sh ns
    have hk2 := Lib.hid (hk.out (speakF sh ns).2)
    obtain ⟨A9, c9, rfl, hS9⟩ := Src.of_own hO (oneCell_svs _)
    have hex := Lib.hid (fun (a b : Int) (h : kdC s (speakF sh ns).2 = (a, b)) => (show ∃ sh ns, (2000 < s.length ∨ CutQ s sh ns) ∧ Ending.returned (.tuple #[.int .i64 a, .int .i64 b]) = .returned (.tuple #[.int .i64 (kdC s (speakF sh ns).2).1, .int .i64 (kdC s (speakF sh ns).2).2]) from ⟨sh, ns, Or.inr hQ, by rw [h]⟩))
    by_cases h0 : (speakF sh ns).2 = 0
    · have hw := hex.out 0 4 (by rw [hk2.out, if_pos h0])
      have h00 := hz.2 h0
      rw [h00]
      clear hz hk2 hO hS9 h00 hex h0
      go_wp2
      go_ret2
      exact ⟨hw, hb⟩
    · have hw := hex.out ((speakF sh ns).2 : Nat) 0 (by rw [hk2.out, if_neg h0])
      obtain ⟨n, hn⟩ : ∃ n, (speakF sh ns).1.length = n := ⟨_, rfl⟩
      have hn0 : n ≠ 0 := fun e => h0 (hz.1 (List.length_eq_zero_iff.1 (hn.trans e)))
      have e0 : ((n : Int) == 0) = false := by rw [beq_eq_false_iff_ne]; omega
      rw [hn]
      have hw := Lib.hid hw
      clear hz hk2 hO hS9 hex h0 hn
      generalize (speakF sh ns).2 = K at *
      go_wp2
      go_ret2
      exact ⟨hw.out, hb⟩
def spC (s : Str) (ws : List Str) : Str × Int := if 2000 < s.length then ([], 5) else if ws = [] then ([], 4) else (joinW ws, 0)
theorem Speak_any (s : Str) (w : World) (hT : WT w) :
    Calls Tryz.prog 20 #[.string ⟨s.toArray⟩] w fun e w' => (∃ sh ns, (2000 < s.length ∨ CutQ s sh ns) ∧ e = .returned (.tuple #[.string ⟨(spC s (speakF sh ns).1).1.toArray⟩, .int .i64 (spC s (speakF sh ns).1).2])) ∧ Below w.heap.size w w' := by
  have hln := Lib.hid (length_any s w)
  by_cases hs : 2000 < s.length
  · have h1 : lenC s = 5 := if_neg (by omega)
    rw [h1] at hln
    have hk := Lib.hid (fun k => show spC s k = ([], 5) from if_pos hs)
    go_enter Tryz.func20, Tryz.ntmps20
    go_wp2_with fail
    refine hln.out.mono ?_
    rintro e w' ⟨rfl, rfl⟩
    go_wp2
    go_ret2
    exact ⟨⟨[], [], Or.inl hs, by rw [hk.out]; rfl⟩, Below.refl _ _⟩
  · have h1 : lenC s = 0 := if_pos (by omega)
    rw [h1] at hln
    have hk := Lib.hid (fun k => show spC s k = if k = [] then ([], 4) else (joinW k, 0) from if_neg hs)
    have hsp := Lib.hid (speak_any s (by omega) w hT)
    clear h1 hs
    go_enter Tryz.func20, Tryz.ntmps20
    go_wp2_with fail
    refine hln.out.mono ?_
    rintro e w' ⟨rfl, rfl⟩
    go_wp2_with fail
    refine hsp.out.mono ?_
    rintro e w2 ⟨V, sh, ns, hQ, rfl, hO, hb⟩
    have hk2 := Lib.hid (hk.out (speakF sh ns).1)
    have hsm := speakF_sm hQ.pi
    have hex := Lib.hid (fun (a : Str) (b : Int) (h : spC s (speakF sh ns).1 = (a, b)) => (show ∃ sh ns, (2000 < s.length ∨ CutQ s sh ns) ∧ Ending.returned (.tuple #[.string ⟨a.toArray⟩, .int .i64 b]) = .returned (.tuple #[.string ⟨(spC s (speakF sh ns).1).1.toArray⟩, .int .i64 (spC s (speakF sh ns).1).2]) from ⟨sh, ns, Or.inr hQ, by rw [h]⟩))
    generalize (speakF sh ns).1 = Y at *
    by_cases h0 : Y = []
    · subst h0
      have hw := Lib.hid (hex.out [] 4 (by rw [hk2.out, if_pos rfl]))
      obtain ⟨A9, c9, rfl, hS9⟩ := Src.of_own hO (oneCell_svs _)
      clear hk2 hO hS9 hex
      go_wp2
      go_ret2
      exact ⟨hw.out, hb⟩
    · have hw := Lib.hid (hex.out (joinW Y) 0 (by rw [hk2.out, if_neg h0]))
      have hj := Lib.hid (join_any Y V w.heap.size w2 hO (by have h8 := joinW_len hsm.2; have h9 := hsm.1; omega) (by have h9 := hsm.1; omega))
      obtain ⟨n, hn⟩ : ∃ n, Y.length = n := ⟨_, rfl⟩
      have hn0 : n ≠ 0 := fun e => h0 (List.length_eq_zero_iff.1 (hn.trans e))
      have e0 : ((n : Int) == 0) = false := by rw [beq_eq_false_iff_ne]; omega
      obtain ⟨A9, c9, rfl, hS9⟩ := Src.of_own hO (oneCell_svs _)
      rw [hn] at hj ⊢
      clear hk2 hO hS9 hex h0 hn hsm
      generalize joinW Y = J at *
      go_wp2_with fail
      refine hj.out.mono ?_
      rintro e w3 ⟨rfl, hb3⟩
      go_wp2
      go_ret2
      exact ⟨hw.out, hb.trans (hb3.mono hb.size)⟩
end Go.Proofs.YtpdfjlbfhnapkaaGreatDoor

/- The words of a spoken text. -/
namespace Go.Proofs.YtpdfjlbfhnapkaaGreatDoor
open Go.RowKit
set_option linter.unusedSimpArgs false
set_option linter.unusedVariables false
set_option maxRecDepth 100000

/-- the words of a spoken text, and the error -/
def wofF (s : Str) : List Str × Int := if 2000 < s.length then ([], 5) else if s = [] then ([], 0) else if (spl s).all wdB = true then (spl s, 0) else ([], 4)
def RetWO (s : Str) (w : World) (e : Ending) (w' : World) : Prop := ∃ A c, e = .returned (.tuple #[.slice A (wofF s).1.length c, .int .i64 (wofF s).2]) ∧ Ss w' A (wofF s).1.length c (wofF s).1 ∧ (∀ ad, A = some ad → ad.block < w'.heap.size) ∧ Below w.heap.size w w'
theorem RetWO.none {s : Str} {k : Int} (w w' : World) (h : wofF s = ([], k)) (hb : Below w.heap.size w w') : RetWO s w (.returned (.tuple #[.slice none 0 0, .int .i64 k])) w' := by
  refine ⟨Option.none, 0, ?_, ?_, (fun ad e => by cases e), hb⟩
  · rw [h]; rfl
  · rw [h]; exact Ss.nil _ _ (by decide) _
theorem wordsOf_any (s : Str) (w : World) (hT : WT w) : Calls Tryz.prog 68 #[.string ⟨s.toArray⟩] w (RetWO s w) := by
  have hln := Lib.hid (length_any s w)
  by_cases hs : 2000 < s.length
  · have h1 : lenC s = 5 := if_neg (by omega)
    rw [h1] at hln
    have hk := Lib.hid (show wofF s = ([], 5) from if_pos hs)
    go_enter Tryz.func68, Tryz.ntmps68
    go_wp2_with fail
    refine hln.out.mono ?_
    rintro e w' ⟨rfl, rfl⟩
    go_wp2
    go_ret2
    exact RetWO.none w w hk.out (Below.refl _ _)
  · have h1 : lenC s = 0 := if_pos (by omega)
    rw [h1] at hln
    by_cases hn : s = []
    · subst hn
      have hk := Lib.hid (show wofF [] = ([], 0) from rfl)
      go_enter Tryz.func68, Tryz.ntmps68
      go_wp2_with fail
      refine hln.out.mono ?_
      rintro e w' ⟨rfl, rfl⟩
      go_wp2
      go_ret2
      exact RetWO.none w w hk.out (Below.refl _ _)
    · have hsp := Lib.hid (split_any s (by omega) w hT)
      have hk := Lib.hid (show wofF s = if (spl s).all wdB = true then (spl s, 0) else ([], 4) from (if_neg hs).trans (if_neg hn))
      have hne : s.isEmpty = false := by cases s with | nil => exact absurd rfl hn | cons a b => rfl
      have hnn := (spl_len s).1
      generalize spl s = ws at *
      obtain ⟨n, hwn⟩ : ∃ n, ws.length = n := ⟨_, rfl⟩
      have hn9 : n ≤ 3000 := by omega
      have hlN := Lib.hid hwn
      rw [hwn] at hsp
      clear hn hwn hnn h1 hs
      go_enter Tryz.func68, Tryz.ntmps68
      go_wp2_with fail
      refine hln.out.mono ?_
      rintro e w' ⟨rfl, rfl⟩
      go_wp2_with fail
      refine hsp.out.mono ?_
      rintro e w2 ⟨rfl, hS, hb, hz⟩
      have hgz : w.heap.size < w2.heap.size := by omega
      have hbz := hb.size
      go_wp2
      go_loopw [19] (fun iv wr' => ∃ (j : Nat) (wr : World), wr = wr' ∧ iv = .int .i64 (j : Int) ∧ j ≤ n ∧ Hid ((ws.take j).all wdB = true) ∧ Below w2.heap.size w2 wr) (fun iv _ => n - (intOf iv).toNat)
      case atStart => exact ⟨0, _, rfl, rfl, Nat.zero_le _, rfl, Below.refl _ _⟩
      case round =>
        obtain ⟨j, wr, rfl, rfl, hj, hq, hbel⟩ := hrel
        have hSr := hS.below hbel
        have hbs := hbel.size
        rcases Nat.lt_or_ge j n with hlt | hge
        · obtain ⟨ad, y, hea, hcy, hy⟩ := hSr.at_ hlt
          injection hea with hea
          subst hea
          rw [add_new] at hcy
          have hc := Lib.hid (isWord_any y wr)
          cases hyw : wdB y with
          | false =>
            rw [hyw] at hc
            have hk2 := Lib.hid (show wofF s = ([], 4) by
              rw [hk.out]
              refine if_neg ?_
              intro h
              rw [List.all_eq_true] at h
              have := h y (List.mem_of_getElem? hy.out)
              rw [hyw] at this
              cases this)
            clear hyw
            go_wp2_with fail
            refine hc.out.mono ?_
            rintro e x2 ⟨rfl, hx2⟩
            go_wp2
            go_ret2
            exact RetWO.none _ _ hk2.out (hb.trans ((hbel.trans (hx2.mono hbs)).mono hbz))
          | true =>
            rw [hyw] at hc
            have hq2 := Lib.hid (show (ws.take (j + 1)).all wdB = true by
              rw [List.take_add_one, hy.out, List.all_append, hq.out]
              simp [hyw])
            clear hyw
            go_wp2_with fail
            refine hc.out.mono ?_
            rintro e x2 ⟨rfl, hx2⟩
            have hb3 := hbel.trans (hx2.mono hbs)
            go_wp2
            go_roundw
            case rel => exact ⟨j + 1, _, rfl, by go_num, hlt, hq2, hb3⟩
            case measure => simp [intOf]; omega
        · obtain rfl : j = n := by omega
          have hk2 := Lib.hid (show wofF s = (ws, 0) by
            rw [hk.out]
            refine if_pos ?_
            have h := hq.out
            rw [List.take_of_length_le (by rw [hlN.out]; omega)] at h
            exact h)
          go_wp2
          go_ret2
          refine ⟨some ⟨w.heap.size, 0, none⟩, j, ?_, ?_, ?_, hb.trans (hbel.mono hbz)⟩
          · rw [hk2.out]
            show _ = Ending.returned (.tuple #[.slice _ ws.length _, _])
            rw [hlN.out]; rfl
          · rw [hk2.out]
            show Ss _ _ ws.length _ ws
            rw [hlN.out]
            exact hSr
          · intro ad e
            injection e with e
            subst e
            have h8 := hbel.size
            show w.heap.size < _
            omega
end Go.Proofs.YtpdfjlbfhnapkaaGreatDoor
