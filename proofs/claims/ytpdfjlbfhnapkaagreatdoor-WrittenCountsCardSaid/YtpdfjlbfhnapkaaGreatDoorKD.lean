/- The document's Split. -/
import Derived.Test.YtpdfjlbfhnapkaaGreatDoorKB
namespace Go.Proofs.YtpdfjlbfhnapkaaGreatDoor
open Go.RowKit
set_option linter.unusedSimpArgs false
set_option linter.unusedVariables false
set_option maxRecDepth 100000

theorem spl_nosp {x : Str} (h : ∀ c ∈ x, c ≠ 32) : spl x = [x] := by
  induction x with
  | nil => rfl
  | cons c cs ih =>
    rw [spl_cons, if_neg (h c List.mem_cons_self), ih (fun d hd => h d (List.mem_cons_of_mem _ hd))]
theorem spl_hit {x : Str} (y : Str) (h : ∀ c ∈ x, c ≠ 32) : spl (x ++ 32 :: y) = x :: spl y := by
  induction x with
  | nil => rw [List.nil_append, spl_cons, if_pos rfl]
  | cons c cs ih =>
    rw [List.cons_append, spl_cons, if_neg (h c List.mem_cons_self), ih (fun d hd => h d (List.mem_cons_of_mem _ hd))]
theorem ext_bytes (s : Str) (f i : Nat) : (⟨s.toArray⟩ : ByteArray).extract f i = ⟨((s.drop f).take (i - f)).toArray⟩ := by
  apply ByteArray.ext
  rw [ByteArray.data_extract]
  simp
/-- what holds while a string is split -/
def SpI (s : Str) (ps : List Str) (f i : Nat) : Prop := (i ≤ s.length ∧ f ≤ i ∧ spl s = ps ++ spl (s.drop f) ∧ ∀ c ∈ (s.drop f).take (i - f), c ≠ 32) ∨ (i = s.length + 1 ∧ ps = spl s)
theorem SpI.zero (s : Str) : SpI s [] 0 0 := Or.inl ⟨Nat.zero_le _, Nat.le_refl _, rfl, by simp⟩
theorem SpI.other {s : Str} {ps : List Str} {f i : Nat} (h : SpI s ps f i) (hi : i < s.length) (hb : s[i] ≠ 32) : SpI s ps f (i + 1) := by
  rcases h with ⟨h1, h2, h3, h4⟩ | ⟨h1, _⟩
  · refine Or.inl ⟨hi, by omega, h3, fun c hc => ?_⟩
    rw [show i + 1 - f = (i - f) + 1 by omega, List.take_add_one, List.getElem?_drop, show f + (i - f) = i by omega, List.getElem?_eq_getElem hi] at hc
    rcases List.mem_append.1 hc with hc | hc
    · exact h4 c hc
    · simp only [Option.toList_some, List.mem_singleton] at hc
      rw [hc]; exact hb
  · omega
theorem SpI.hit {s : Str} {ps : List Str} {f i : Nat} (h : SpI s ps f i) (hi : i < s.length) (hb : s[i] = 32) : SpI s (ps ++ [(s.drop f).take (i - f)]) (i + 1) (i + 1) := by
  rcases h with ⟨h1, h2, h3, h4⟩ | ⟨h1, _⟩
  · refine Or.inl ⟨hi, Nat.le_refl _, ?_, by simp⟩
    have e : s.drop f = (s.drop f).take (i - f) ++ 32 :: s.drop (i + 1) := by
      conv => lhs; rw [← List.take_append_drop (i - f) (s.drop f)]
      rw [List.drop_drop, show f + (i - f) = i by omega, List.drop_eq_getElem_cons hi, hb]
    rw [h3, List.append_assoc]
    congr 1
    conv => lhs; rw [e]
    exact spl_hit _ h4
  · omega
theorem SpI.last {s : Str} {ps : List Str} {f : Nat} (h : SpI s ps f s.length) : SpI s (ps ++ [(s.drop f).take (s.length - f)]) (s.length + 1) (s.length + 1) := by
  rcases h with ⟨h1, h2, h3, h4⟩ | ⟨h1, _⟩
  · refine Or.inr ⟨rfl, ?_⟩
    have e : (s.drop f).take (s.length - f) = s.drop f := List.take_of_length_le (by rw [List.length_drop]; omega)
    rw [e] at h4 ⊢
    rw [h3, spl_nosp h4]
  · omega
theorem SpI.le {s : Str} {ps : List Str} {f i : Nat} (h : SpI s ps f i) : i ≤ s.length + 1 := by
  rcases h with ⟨h1, _⟩ | ⟨h1, _⟩ <;> omega
theorem SpI.fr {s : Str} {ps : List Str} {f i : Nat} (h : SpI s ps f i) (hi : i ≤ s.length) : f ≤ i := by
  rcases h with ⟨h1, h2, _⟩ | ⟨h1, _⟩ <;> omega
theorem SpI.end_ {s : Str} {ps : List Str} {f i : Nat} (h : SpI s ps f i) (hi : ¬ i ≤ s.length) : ps = spl s := by
  rcases h with ⟨h1, _⟩ | ⟨_, h2⟩
  · omega
  · exact h2
set_option maxHeartbeats 16000000 in
theorem rsplit_any (s : Str) (hs : s.length ≤ 100000) (w : World) : Calls Tryz.prog 39 #[.string ⟨s.toArray⟩, .int .u8 32] w (RetW (spl s) w) := by
  obtain ⟨i0, hi, hz9⟩ : ∃ i, Tryz.prog.info? 9 = some i ∧ (i.zero, i.size, i.bytes) = (some (.string ⟨#[]⟩), 1, 16) := by
    have h9 := info_str
    cases e : Tryz.prog.info? 9 with
    | none => rw [e] at h9; cases h9
    | some i => rw [e] at h9; exact ⟨i, rfl, by simpa using h9⟩
  obtain ⟨hz0, hz1, hz2⟩ : i0.zero = some (.string ⟨#[]⟩) ∧ i0.size = 1 ∧ i0.bytes = 16 := by
    injection hz9 with a b
    injection b with b c
    exact ⟨a, b, c⟩
  go_enter Tryz.func39, Tryz.ntmps39
  go_wp2
  go_loopw [5, 6, 7] (fun Vv fv iv wr' => ∃ (f i : Nat) (ps : List Str) (V : Value) (wr : World), wr = wr' ∧ V = Vv ∧ fv = .int .i64 (f : Int) ∧ iv = .int .i64 (i : Int) ∧ Hid (SpI s ps f i) ∧ ps.length ≤ i ∧ wr.ownsRow w.heap.size 9 1 V ps.length (svs ps) ∧ Below w.heap.size w wr) (fun _ _ iv _ => s.length + 1 - (intOf iv).toNat)
  case atStart => exact ⟨0, 0, [], _, _, rfl, rfl, rfl, rfl, SpI.zero s, Nat.le_refl _, World.ownsRow_nil _ _ _ _, Below.refl _ _⟩
  case round =>
    obtain ⟨f, i, ps, V, wr, rfl, rfl, rfl, rfl, hI, hpl, hO, hbel⟩ := hrel
    have hle := hI.out.le
    by_cases hn : i ≤ s.length
    · have hfr := hI.out.fr hn
      have n1 : (i : Int) ≤ (s.length : Int) := by omega
      have n1d : decide ((i : Int) ≤ (s.length : Int)) = true := decide_eq_true n1
      have f0 : (0 : Int) ≤ (f : Int) := by omega
      have f1 : (f : Int) ≤ (i : Int) := by omega
      obtain ⟨x, hx⟩ : ∃ x, (s.drop f).take (i - f) = x := ⟨_, rfl⟩
      have hE : (⟨s.toArray⟩ : ByteArray).extract f i = ⟨x.toArray⟩ := by rw [← hx]; exact ext_bytes s f i
      have lx : x.length ≤ 100000 := by rw [← hx, List.length_take, List.length_drop]; omega
      have hAl := (Below.refl wr.heap.size wr).alloc (Nat.le_refl _) (.cells #[.string ⟨x.toArray⟩] 9)
      have hOl := own_below hO hAl
      have hSL := src_lit (x := x) (Blk.new wr 9 #[.string ⟨x.toArray⟩])
      have hbl := hbel.trans (hAl.mono hbel.size)
      by_cases hin : i = s.length
      · subst hin
        have f2 : f ≤ s.length := hfr
        have hI2 := Lib.hid (show SpI s (ps ++ [x]) (s.length + 1) (s.length + 1) by rw [← hx]; exact hI.out.last)
        go_wp2_with (at_builtin; refine wpList_append_any rfl (.tmp 25) (.tmp 30) 32 rfl w.heap.size 9 i0 (.string ⟨#[]⟩) 1 16 Tryz.underlying32 hi hz0 hz1 hz2 rfl (by decide) V ps.length (svs ps) rfl hOl _ 1 1 (svs [x]) rfl hSL (by unfold maxLen; omega) (by omega) hbl.size ?_; intro V6 x6 hOx hGx hZx; clear hZx)
        have hb6 : Below w.heap.size w x6 := bel_grown2 hbl hGx (fun k9 e => (hOl.lt k9 e).1)
        have hO6 := own_app hOx rfl rfl
        have hp6 : (ps ++ [x]).length ≤ s.length + 1 := by rw [List.length_append]; simp; omega
        generalize ps ++ [x] = ps2 at *
        clear hOx hGx hSL
        go_roundw
        case rel => exact ⟨s.length + 1, s.length + 1, ps2, _, _, rfl, rfl, by go_num, by go_num, hI2, hp6, hO6, hb6⟩
        case measure => simp [intOf] <;> omega
      · have n2 : ¬ (i : Int) = (s.length : Int) := by omega
        have hlt : i < s.length := by omega
        have f2 : f ≤ s.length := by omega
        have l2 : i ≤ s.length := by omega
        have n3 : ((i : Int) == (s.length : Int)) = false := by rw [beq_eq_false_iff_ne]; exact n2
        have hpf : i < (⟨s.toArray⟩ : ByteArray).size := by show i < s.toArray.size; simp; exact hlt
        have hge : (⟨s.toArray⟩ : ByteArray)[i]'hpf = s[i] := rfl
        by_cases hb : s[i] = 32
        · have hI2 := Lib.hid (show SpI s (ps ++ [x]) (i + 1) (i + 1) by rw [← hx]; exact hI.out.hit hlt hb)
          have hb3 : ((((⟨s.toArray⟩ : ByteArray)[i]'hpf).toNat : Int) == 32) = true := by rw [hge, hb]; rfl
          clear hge
          have w1 : IntKind.i64.wrap ((i : Int) + 1) = (i : Int) + 1 := IntWalk.i64_in _ (by omega)
          go_wp2_with (at_builtin; refine wpList_append_any rfl (.tmp 25) (.tmp 30) 32 rfl w.heap.size 9 i0 (.string ⟨#[]⟩) 1 16 Tryz.underlying32 hi hz0 hz1 hz2 rfl (by decide) V ps.length (svs ps) rfl hOl _ 1 1 (svs [x]) rfl hSL (by unfold maxLen; omega) (by omega) hbl.size ?_; intro V6 x6 hOx hGx hZx; clear hZx)
          have hb6 : Below w.heap.size w x6 := bel_grown2 hbl hGx (fun k9 e => (hOl.lt k9 e).1)
          have hO6 := own_app hOx rfl rfl
          have hp6 : (ps ++ [x]).length ≤ i + 1 := by rw [List.length_append]; simp; omega
          generalize ps ++ [x] = ps2 at *
          clear hOx hGx hSL
          go_roundw
          case rel => exact ⟨i + 1, i + 1, ps2, _, _, rfl, rfl, by go_num, by go_num, hI2, hp6, hO6, hb6⟩
          case measure => simp [intOf] <;> omega
        · have hI2 := Lib.hid (hI.out.other hlt hb)
          have hbn : ¬ s[i].toNat = 32 := fun e => hb (UInt8.toNat_inj.1 e)
          have hb3 : ((((⟨s.toArray⟩ : ByteArray)[i]'hpf).toNat : Int) == 32) = false := by rw [hge, beq_eq_false_iff_ne]; omega
          clear hge
          go_wp2
          go_roundw
          case rel => exact ⟨f, i + 1, ps, _, _, rfl, rfl, rfl, by go_num, hI2, by omega, hO, hbel⟩
          case measure => simp [intOf] <;> omega
    · have he := Lib.hid (hI.out.end_ hn)
      have n1 : ¬ (i : Int) ≤ (s.length : Int) := by omega
      have n1d : decide ((i : Int) ≤ (s.length : Int)) = false := decide_eq_false n1
      go_wp2
      go_ret
      rw [he.out] at hO
      exact ⟨_, rfl, hO, hbel⟩
end Go.Proofs.YtpdfjlbfhnapkaaGreatDoor

/- The document's Join and ordinal words. -/
namespace Go.Proofs.YtpdfjlbfhnapkaaGreatDoor
open Go.RowKit
set_option linter.unusedSimpArgs false
set_option linter.unusedVariables false
set_option maxRecDepth 100000

theorem joinW_snoc (ws : List Str) (x : Str) (h : ws ≠ []) : joinW (ws ++ [x]) = joinW ws ++ [32] ++ x := by
  rw [joinW_app _ _ h (by simp), joinW_one]
  simp
set_option maxHeartbeats 8000000 in
theorem rjoin_any (ws : List Str) (A : Option Addr) (n c : Nat) (w : World) (hS : Ss w A n c ws) (hn : ws.length ≤ 1000) (hx : ∀ x ∈ ws, x.length ≤ 1000) : Calls Tryz.prog 41 #[.slice A n c] w fun e w' => e = .returned (.string ⟨(joinW ws).toArray⟩) ∧ w = w' := by
  have hl := hS.len
  have hbnd : ∀ i, (joinW (ws.take i)).length ≤ 2000000 := fun i => by
    have h1 := joinW_len (ws := ws.take i) (m := 1000) (fun x h => hx x (List.mem_of_mem_take h))
    have h2 : (ws.take i).length ≤ 1000 := by rw [List.length_take]; omega
    have h3 : (ws.take i).length * 1001 ≤ 1000 * 1001 := Nat.mul_le_mul_right _ h2
    omega
  have hbnd := Lib.hid hbnd
  have hn2 : n ≤ 1000 := by omega
  go_enter Tryz.func41, Tryz.ntmps41
  go_wp2
  go_loopw [3, 4] (fun sv iv wr => ∃ i : Nat, w = wr ∧ iv = .int .i64 (i : Int) ∧ sv = .string ⟨(joinW (ws.take i)).toArray⟩ ∧ i ≤ n) (fun _ iv _ => n - (intOf iv).toNat)
  case atStart => exact ⟨0, rfl, rfl, rfl, Nat.zero_le _⟩
  case round =>
    obtain ⟨i, rfl, rfl, rfl, hi⟩ := hrel
    rcases Nat.lt_or_ge i n with hlt | hge
    · obtain ⟨ad, x, rfl, hc, hw⟩ := hS.at_ hlt
      have i0 : (0 : Int) ≤ (i : Int) := by omega
      have i1 : (i : Int) < (n : Int) := by omega
      have i1d : decide ((i : Int) < (n : Int)) = true := decide_eq_true i1
      have w1 : IntKind.i64.wrap ((i : Int) + 1) = (i : Int) + 1 := IntWalk.i64_in _ (by omega)
      have lA := hbnd.out i
      have lx := hx x (List.mem_of_getElem? hw.out)
      have ht : ws.take (i + 1) = ws.take i ++ [x] := by rw [List.take_add_one, hw.out]; rfl
      have hcap := hS.cap
      by_cases h0 : i = 0
      · subst h0
        have hJ := Lib.hid (show joinW (ws.take (0 + 1)) = x by rw [ht]; exact joinW_one x)
        have hJ0 : joinW [] = [] := rfl
        have hB0 := Lib.hid (show (⟨#[]⟩ : ByteArray) ++ ⟨x.toArray⟩ = ⟨x.toArray⟩ by apply ByteArray.ext; simp)
        have hc0 : w.cell? ad = some (.string ⟨x.toArray⟩) := hc
        clear hbnd hS hx ht hw
        go_wp2
        go_roundw
        case rel => exact ⟨1, trivial, by go_num, by rw [show joinW (ws.take 1) = x from hJ.out]; first | rfl | exact congrArg Value.string hB0.out, hlt⟩
        case measure => simp [intOf] <;> omega
      · have i2 : (0 : Int) < (i : Int) := by omega
        have i2d : decide ((0 : Int) < (i : Int)) = true := decide_eq_true i2
        have hJ := Lib.hid (show joinW (ws.take (i + 1)) = joinW (ws.take i) ++ [32] ++ x by
          rw [ht]
          refine joinW_snoc _ _ (fun e => ?_)
          have := congrArg List.length e
          rw [List.length_take, List.length_nil] at this
          omega)
        have hB := Lib.hid (bstr (joinW (ws.take i) ++ [32]) x)
        rw [bstr (joinW (ws.take i))] at hB
        clear hbnd hS hx ht hw
        generalize joinW (ws.take i) = A at *
        go_wp2
        go_roundw
        case rel => exact ⟨i + 1, trivial, by go_num, by rw [hJ.out, hB.out], hlt⟩
        case measure => simp [intOf] <;> omega
    · have e : ws.take i = ws := List.take_of_length_le (by omega)
      have i1 : ¬ (i : Int) < (n : Int) := by omega
      have i1d : decide ((i : Int) < (n : Int)) = false := decide_eq_false i1
      rw [e]
      go_wp2
      go_ret
      exact ⟨rfl, rfl⟩
end Go.Proofs.YtpdfjlbfhnapkaaGreatDoor

/- The document's ordinal words. -/
namespace Go.Proofs.YtpdfjlbfhnapkaaGreatDoor
open Go.RowKit
set_option linter.unusedSimpArgs false
set_option linter.unusedVariables false
set_option maxRecDepth 100000

set_option maxHeartbeats 8000000 in
theorem rnth_any (x : Str) (h0 : x ≠ []) (hx : x.length ≤ 1000) (w : World) : Calls Tryz.prog 64 #[.string ⟨x.toArray⟩] w fun e w' => e = .returned (.string ⟨(ordW x).toArray⟩) ∧ w = w' := by
  by_cases eone : x = [111, 110, 101]
  · subst eone
    have hO := Lib.hid (show ordW [111, 110, 101] = [102, 105, 114, 115, 116] by decide)
    rw [hO.out]
    go_enter Tryz.func64, Tryz.ntmps64
    go_wp2
    go_ret
    exact ⟨rfl, rfl⟩
  by_cases etwo : x = [116, 119, 111]
  · subst etwo
    have hO := Lib.hid (show ordW [116, 119, 111] = [115, 101, 99, 111, 110, 100] by decide)
    rw [hO.out]
    go_enter Tryz.func64, Tryz.ntmps64
    go_wp2
    go_ret
    exact ⟨rfl, rfl⟩
  by_cases ethree : x = [116, 104, 114, 101, 101]
  · subst ethree
    have hO := Lib.hid (show ordW [116, 104, 114, 101, 101] = [116, 104, 105, 114, 100] by decide)
    rw [hO.out]
    go_enter Tryz.func64, Tryz.ntmps64
    go_wp2
    go_ret
    exact ⟨rfl, rfl⟩
  by_cases efive : x = [102, 105, 118, 101]
  · subst efive
    have hO := Lib.hid (show ordW [102, 105, 118, 101] = [102, 105, 102, 116, 104] by decide)
    rw [hO.out]
    go_enter Tryz.func64, Tryz.ntmps64
    go_wp2
    go_ret
    exact ⟨rfl, rfl⟩
  by_cases eeight : x = [101, 105, 103, 104, 116]
  · subst eeight
    have hO := Lib.hid (show ordW [101, 105, 103, 104, 116] = [101, 105, 103, 104, 116, 104] by decide)
    rw [hO.out]
    go_enter Tryz.func64, Tryz.ntmps64
    go_wp2
    go_ret
    exact ⟨rfl, rfl⟩
  by_cases enine : x = [110, 105, 110, 101]
  · subst enine
    have hO := Lib.hid (show ordW [110, 105, 110, 101] = [110, 105, 110, 116, 104] by decide)
    rw [hO.out]
    go_enter Tryz.func64, Tryz.ntmps64
    go_wp2
    go_ret
    exact ⟨rfl, rfl⟩
  by_cases etwelve : x = [116, 119, 101, 108, 118, 101]
  · subst etwelve
    have hO := Lib.hid (show ordW [116, 119, 101, 108, 118, 101] = [116, 119, 101, 108, 102, 116, 104] by decide)
    rw [hO.out]
    go_enter Tryz.func64, Tryz.ntmps64
    go_wp2
    go_ret
    exact ⟨rfl, rfl⟩
  have hf : findL irrL x = none := by
    unfold irrL
    rw [findL_miss (fun e => eone e.symm), findL_miss (fun e => etwo e.symm), findL_miss (fun e => ethree e.symm), findL_miss (fun e => efive e.symm), findL_miss (fun e => eeight e.symm), findL_miss (fun e => enine e.symm), findL_miss (fun e => etwelve e.symm)]
    rfl
  have hO := Lib.hid (ordW_none hf)
  have bone : (x == [111, 110, 101]) = false := beq_eq_false_iff_ne.2 eone
  have btwo : (x == [116, 119, 111]) = false := beq_eq_false_iff_ne.2 etwo
  have bthree : (x == [116, 104, 114, 101, 101]) = false := beq_eq_false_iff_ne.2 ethree
  have bfive : (x == [102, 105, 118, 101]) = false := beq_eq_false_iff_ne.2 efive
  have beight : (x == [101, 105, 103, 104, 116]) = false := beq_eq_false_iff_ne.2 eeight
  have bnine : (x == [110, 105, 110, 101]) = false := beq_eq_false_iff_ne.2 enine
  have btwelve : (x == [116, 119, 101, 108, 118, 101]) = false := beq_eq_false_iff_ne.2 etwelve
  obtain ⟨m, hm⟩ : ∃ m, x.length = m + 1 := ⟨x.length - 1, by have : x.length ≠ 0 := (fun e => h0 (List.length_eq_zero_iff.1 e)); omega⟩
  have hlt : m < x.length := by omega
  have hpf : m < (⟨x.toArray⟩ : ByteArray).size := by show m < x.toArray.size; simp; exact hlt
  have hge : (⟨x.toArray⟩ : ByteArray)[m]'hpf = x[m] := rfl
  have hsp : x = x.take m ++ [x[m]] := by
    conv => lhs; rw [← List.take_append_drop m x]
    rw [List.drop_eq_getElem_cons hlt, List.drop_eq_nil_of_le (by omega)]
  have w1 : IntKind.i64.wrap ((x.length : Int) - 1) = (m : Int) := by rw [IntWalk.i64_in _ (by omega)]; omega
  have m0 : (0 : Int) ≤ (m : Int) := by omega
  have m1 : (m : Int) < (x.length : Int) := by omega
  have m2 : m ≤ x.length := by omega
  have hsuf : Lib.hasSuffix x [121] = decide (x[m] = 121) := by
    unfold Lib.hasSuffix
    conv => lhs; rw [hsp]
    rw [Bool.eq_iff_iff, List.isSuffixOf_iff_suffix, decide_eq_true_iff]
    constructor
    · intro h
      obtain ⟨t, ht⟩ := h
      have := List.append_inj_right' ht rfl
      injection this with a b
      exact a.symm
    · intro h
      rw [h]
      exact ⟨_, rfl⟩
  by_cases hy : x[m] = 121
  · have hb3 : ((((⟨x.toArray⟩ : ByteArray)[m]'hpf).toNat : Int) == 121) = true := by rw [hge, hy]; rfl
    have hO2 := Lib.hid (show ordW x = x.take m ++ [105, 101, 116, 104] by rw [hO.out, hsuf, decide_eq_true hy, if_pos rfl]; unfold Lib.trimSuffix; rw [hsuf, decide_eq_true hy, if_pos rfl, hm]; rfl)
    have hE : (⟨x.toArray⟩ : ByteArray).extract 0 m = ⟨(x.take m).toArray⟩ := ext_bytes x 0 m
    have hB := Lib.hid (bstr (x.take m) [105, 101, 116, 104])
    have lt : (x.take m).length ≤ 1000 := by rw [List.length_take]; omega
    clear hge hO hf hsuf hsp hy
    rw [hO2.out]
    generalize x.take m = X at *
    go_enter Tryz.func64, Tryz.ntmps64
    go_wp2
    go_ret
    exact ⟨by rw [hB.out]; rfl, rfl⟩
  · have hb3 : ((((⟨x.toArray⟩ : ByteArray)[m]'hpf).toNat : Int) == 121) = false := by rw [hge, beq_eq_false_iff_ne]; intro e; exact hy (UInt8.toNat_inj.1 (show x[m].toNat = 121 by omega))
    have hO2 := Lib.hid (show ordW x = x ++ [116, 104] by rw [hO.out, hsuf, decide_eq_false hy, if_neg (by simp)])
    have hB := Lib.hid (bstr x [116, 104])
    clear hge hO hf hsuf hsp hy
    rw [hO2.out]
    go_enter Tryz.func64, Tryz.ntmps64
    go_wp2
    go_ret
    exact ⟨by rw [hB.out]; rfl, rfl⟩
end Go.Proofs.YtpdfjlbfhnapkaaGreatDoor
