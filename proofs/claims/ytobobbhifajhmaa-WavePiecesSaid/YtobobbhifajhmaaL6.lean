/- A listener is fed: the loop. -/
import Derived.Test.YtobobbhifajhmaaL5
import Derived.Deep.DeepCutAuto
namespace Go.Proofs.Ytobobbhifajhmaa
open Go.RowKit

def slen : Value → Nat
  | .slice _ n _ => n
  | _ => 0
theorem info_seg : (Try.prog.info? 84).map (fun i => (i.zero, i.size, i.bytes)) = some (some (.agg #[.int .i64 0, .int .i64 0]), 2, 16) := by kernel_rfl

theorem Mid.stA {m : Ms} : m.st = 1 ∨ m.st = 2 := by unfold Ms.st; cases m.sp <;> simp

/-- at the head of a round: k samples are done -/
structure FeR (w : World) (g gr : Nat) (G : Gt) (n : Nat) (xs all : List Int) (xv ev : Value) (wr : World) (A : Option Addr) (n' c' k : Nat) (new : List (Int × Int)) (E : Value) : Prop where
  x : xv = .slice A n' c'
  e : E = ev
  sl : Sl .i64 wr A n' c' (xs.drop k)
  sum : n' + k = n
  own : wr.ownsRow w.heap.size 84 2 E new.length (sgv new)
  seg : Hid (segs G (all ++ xs.take k) = segs G all ++ new)
  lis : Lis wr g gr G (all ++ xs.take k)
  two : Two g gr w wr
  few : new.length ≤ k
  far : Hid (0 < n' → ∀ ad, A = some ad → (ad.block ≠ g ∧ ad.block ≠ gr) ∧ ad.block < w.heap.size)

theorem own_same {a b : World} {base e size n : Nat} {v : Value} {xs : List Value} (h : a.ownsRow base e size v n xs) (hb : ∀ k, base ≤ k → k < a.heap.size → b.heap[k]? = a.heap[k]?) : b.ownsRow base e size v n xs := by
  obtain ⟨hl, h2⟩ := h
  rcases h2 with h2 | ⟨g, cap, cur, rfl, h3, h4, h5, h6, h7, h8⟩
  · exact ⟨hl, .inl h2⟩
  · have hlt : g < a.heap.size := by
      rcases Nat.lt_or_ge g a.heap.size with h | h
      · exact h
      · rw [Array.getElem?_eq_none h] at h4; cases h4
    exact ⟨hl, .inr ⟨g, cap, cur, rfl, h3, (hb g h3 hlt).trans h4, h5, h6, h7, h8⟩⟩
theorem own_two {a b : World} {base e size n g gr : Nat} {v : Value} {xs : List Value} (h : a.ownsRow base e size v n xs) (hb : Two g gr a b) (h1 : g < base) (h2 : gr < base) : b.ownsRow base e size v n xs :=
  own_same h fun k hk hlt => hb.block k hlt (by omega) (by omega)

/-- what hear returns, in letters -/
theorem heVal_form (G : Gt) (b E : Int) (m : Ms) : ∃ q1 q2 ok, heVal (hearS G b E m) = .tuple #[.agg #[.int .i64 q1, .int .i64 q2], .bool ok] ∧ ((ok = false ∧ hearS G b E m = []) ∨ (ok = true ∧ hearS G b E m = [(q1, q2)])) := by
  rcases hearS_cases G b E m with h | ⟨s, t, h⟩
  · exact ⟨0, 0, false, by rw [h]; rfl, .inl ⟨rfl, h⟩⟩
  · exact ⟨s, t, true, by rw [h]; rfl, .inr ⟨rfl, h⟩⟩

theorem cell_set2 (w : World) (g : Nat) (q : Addr) (a b : Value) (h : q.block ≠ g) : ((w.setCell ⟨g, 0, none⟩ a).setCell ⟨g, 1, none⟩ b).cell? q = w.cell? q :=
  (World.cell?_setCell_other _ _ q b (fun e => h (by rw [← e]))).trans (World.cell?_setCell_other _ _ q a (fun e => h (by rw [← e])))

theorem two_grown {g gr : Nat} {w a b : World} {row : Option Nat} (h : Two g gr w a) (hb : a.grownBy b row) (hr : ∀ k, row = some k → w.heap.size ≤ k) : Two g gr w b :=
  ⟨hb.os.trans h.os, hb.tape.trans h.tape, hb.output.trans h.output, Nat.le_trans h.size hb.size, fun k hk h1 h2 => (hb.block k (Nat.lt_of_lt_of_le hk h.size) (fun e => by have := hr k e.symm; omega)).trans (h.block k hk h1 h2)⟩
theorem lis_same {a b : World} {g gr : Nat} {G : Gt} {all : List Int} (h : Lis a g gr G all) (h1 : b.heap[g]? = a.heap[g]?) (h2 : b.heap[gr]? = a.heap[gr]?) : Lis b g gr G all :=
  ⟨h1.trans h.lb, by obtain ⟨rs, hR, h3⟩ := h.ring; exact ⟨rs, h2.trans hR, h3⟩, h.ne, h.ok, h.top⟩
theorem sl_old {k : IntKind} {a b : World} {A : Option Addr} {n c B : Nat} {xs : List Int} (h : Sl k a A n c xs) (hb : ∀ j, j < B → b.heap[j]? = a.heap[j]?) (hA : 0 < n → ∀ ad, A = some ad → ad.block < B) : Sl k b A n c xs :=
  ⟨h.len, h.cap, h.top, fun hn => by
    obtain ⟨ad, e, hc⟩ := h.cell hn
    refine ⟨ad, e, fun j x hx => ?_⟩
    have h3 : b.heap[(ad.add j).block]? = a.heap[(ad.add j).block]? := by
      rw [block_of_add]; exact hb _ (hA hn ad e)
    exact (World.cell?_of_block h3).trans (hc j x hx)⟩
theorem news_two (w : World) (t : TypeId) (a b : Value) : ∀ j u, ([a, b] : List Value)[j]? = some u → (w.alloc (.cells #[a, b] t)).cell? ((⟨w.heap.size, 0, none⟩ : Addr).add j) = some u := by
  intro j u hu
  rw [add_new, (Blk.new w t #[a, b]).cell j]
  simpa using hu

theorem take_more {xs : List Int} {k t : Nat} (all : List Int) : all ++ xs.take (k + t) = (all ++ xs.take k) ++ (xs.drop k).take t := by
  rw [List.append_assoc, List.take_add]

theorem hear_at (g gr b : Nat) (iv : Int) (hiv : iv = (b : Int)) (all ys : List Int) (w : World) (G : Gt) (hG : G.Ok) (h : Mid w g gr G all ys) (hlt : all.length % G.B + ys.length = G.B) (hb : b = all.length / G.B)
    (l : List (Int × Int)) (hl : hearS G b (eng (blk G (all ++ ys) b)) (endM G all) = l) (v : Value) (hv : heVal l = v) :
    Calls Try.prog 91 #[.pointer (some ⟨g, 0, none⟩), .int .i64 iv] w fun e w' => e = .returned v ∧ Lis w' g gr G (all ++ ys) ∧ Two g gr w w' := by
  subst hiv hl hv
  exact hear_lis g gr b all ys w G hG h hlt hb

/-- all is done: nothing is left behind the samples that were put in -/
theorem fe_last {n k t : Nat} {xs all all2 : List Int} (hl : xs.length = n) (hsum : t + k = n) (hA : all ++ xs.take k = all2) : all2 ++ (xs.drop k).take t = all ++ xs := by
  rw [← hA, ← take_more, List.take_of_length_le (by omega)]
theorem tmod_nat {L B r : Nat} (h : L % B = r) : (L : Int).tmod (B : Int) = (r : Int) := by rw [← h, Int.tmod_eq_emod_of_nonneg (by omega), Int.natCast_emod]
theorem ediv_nat {L B r : Nat} (h : L / B = r) : (L : Int) / (B : Int) = (r : Int) := by rw [← h, Int.natCast_ediv]

set_option maxHeartbeats 4000000 in
set_option maxRecDepth 100000 in
theorem Feed_any (g gr : Nat) (A : Option Addr) (n c : Nat) (xs all : List Int) (w : World) (G : Gt) (hG : G.Ok) (h : Lis w g gr G all) (hS : Sl .i64 w A n c xs) (hn : n ≤ 200000)
    (hx : allB (-32768) 32767 xs = true) (htop : all.length + n ≤ 2147483648) (hfar : 0 < n → ∀ ad, A = some ad → ad.block ≠ g ∧ ad.block ≠ gr) :
    Calls Try.prog 56 #[.pointer (some ⟨g, 0, none⟩), .slice A n c] w fun e w' => ∃ v new, e = .returned (.tuple #[v, .int .i64 0]) ∧ w'.ownsRow w.heap.size 84 2 v new.length (sgv new) ∧ Hid (segs G (all ++ xs) = segs G all ++ new) ∧ Lis w' g gr G (all ++ xs) ∧ Two g gr w w' := by
  have hl := Lib.hid hS.len
  have hcap := hS.cap
  have hctop := hS.top
  have hck := Lib.hid (show chk (-32768) 32767 xs = 0 by unfold chk; rw [if_neg (by rw [hl.out]; omega), hx]; rfl)
  have hxo := Lib.hid (allB_mem hx)
  clear hx
  have hst := @Mid.stA (endM G all)
  have hlb := h.lb
  have c0 := hlb.c0
  have c7 := hlb.c7
  have c9 := hlb.c9
  have hs0 : decide ((endM G all).st = 0) = false := by rcases hst with e | e <;> rw [e] <;> rfl
  have hs3 : ((endM G all).st == 3) = false := by rcases hst with e | e <;> rw [e] <;> rfl
  have hgl := Blk.lt hlb
  have hgrl : gr < w.heap.size := by obtain ⟨rs, hR, _⟩ := h.ring; exact hR.lt
  have hatop := h.top
  have hroom : decide (2147483648 - (all.length : Int) < (n : Int)) = false := by simp; omega
  clear hst
  have hfar3 := Lib.hid (show 0 < n → ∀ ad, A = some ad → (ad.block ≠ g ∧ ad.block ≠ gr) ∧ ad.block < w.heap.size from fun h ad he => ⟨hfar h ad he, hS.blt h ad he⟩)
  clear hfar
  go_enter Try.func56, Try.ntmps56
  go_wp2_with fail
  refine (isMissing_any _ _ _ _ _ _ _ _ _ hlb).mono ?_
  rintro e w' ⟨rfl, rfl⟩
  go_wp2_with (go_at_call 89; refine (checkSamples_any _ _ _ _ _ hS).mono ?_; rintro e w' ⟨rfl, rfl⟩; rw [hck.out])
  clear c0 c7 c9 hs0 hs3 hroom
  go_loopw [1, 7] (fun xv ev wr => ∃ A' n' c' k new E, FeR w g gr G n xs all xv ev wr A' n' c' k new E) (fun xv _ _ => slen xv)
  case atStart => exact ⟨A, n, c, 0, [], _, rfl, rfl, hS, rfl, World.ownsRow_nil _ _ _ _, show _ = _ by simp, by simpa using h, Two.refl _ _ _, Nat.le_refl _, hfar3⟩
  case round =>
    obtain ⟨A', n', c', k, new, ev, rfl, rfl, hS', hsum, hown, hseg, hlis, htwo, hfew, hfar'⟩ := hrel
    have hcap' := hS'.cap
    have hctop' := hS'.top
    rcases Nat.eq_zero_or_pos n' with h0 | hpos
    · subst h0
      have hkn : k = n := by omega
      subst hkn
      go_wp2
      go_ret2
      rw [List.take_of_length_le (by rw [hl.out]; exact Nat.le_refl _)] at hseg hlis
      exact ⟨_, new, rfl, hown, hseg, hlis, htwo⟩
    · have hal : (all ++ xs.take k).length = all.length + k := by rw [List.length_append, List.length_take, hl.out]; omega
      generalize hA2 : all ++ xs.take k = all2 at *
      have hA2' := Lib.hid hA2
      clear hA2
      have hal' := Lib.hid hal
      have hbpos := hG.b1
      have hp := Nat.mod_lt all2.length (show 0 < G.B by omega)
      have hfill := fill_lis g gr A' n' c' (xs.drop k) all2 wr G hG hlis hS' hpos (fun x hx => hxo.out x (List.mem_of_mem_drop hx)) (by omega)
      have hd := Nat.div_add_mod all2.length G.B
      have hyl : ((xs.drop k).take (min n' (G.B - all2.length % G.B))).length = min n' (G.B - all2.length % G.B) := by rw [List.length_take, List.length_drop, hl.out]; omega
      generalize ht : min n' (G.B - all2.length % G.B) = t at *
      have htn : t ≤ n' := by omega
      have htp : all2.length % G.B + t ≤ G.B := by omega
      have ht0 : 0 < t := by omega
      have htd : t = n' ∨ all2.length % G.B + t = G.B := by omega
      clear ht
      have hcut : t ≤ c' := by omega
      have hsum' := Lib.hid hsum
      have hd' := Lib.hid hd
      have hyl' := Lib.hid hyl
      have htd' := Lib.hid htd
      clear hsum hd hyl hal htd
      by_cases hfull : all2.length % G.B + t = G.B
      · have hfull' := Lib.hid hfull
        clear hfull
        obtain ⟨L, hL⟩ : ∃ L, (all2 ++ (xs.drop k).take t).length = L := ⟨_, rfl⟩
        have hLe : L = G.B * (all2.length / G.B + 1) := by
          rw [← hL, List.length_append, hyl'.out, Nat.mul_add]; have := hd'.out; have := hfull'.out; omega
        obtain ⟨b1, hb1⟩ : ∃ b1, all2.length / G.B + 1 = b1 := ⟨_, rfl⟩
        have em := tmod_nat (L := L) (B := G.B) (r := 0) (by rw [hLe]; exact Nat.mul_mod_right _ _)
        have ed := ediv_nat (L := L) (B := G.B) (r := b1) (by rw [hLe, hb1]; exact Nat.mul_div_cancel_left _ (by omega))
        rw [Int.natCast_zero] at em
        have hbb : b1 ≤ 2147483649 := by have := Nat.div_le_self all2.length G.B; have := hlis.top; omega
        have hb0 : 0 < b1 := by rw [← hb1]; exact Nat.succ_pos _
        have hL' := Lib.hid hL
        have hb1' := Lib.hid hb1
        clear hL hLe hb1
        have hB0 : ¬ G.B = 0 := by omega
        have hstep := seg_step hG (xs := all2) (ys := (xs.drop k).take t) (b := b1 - 1) (by have := hb1'.out; omega) (by
          rw [hyl'.out, show b1 - 1 + 1 = all2.length / G.B + 1 by have := hb1'.out; omega, Nat.add_mul, Nat.one_mul, Nat.mul_comm]; have := hd'.out; have := hfull'.out; omega)
        have hseg2 := Lib.hid hstep.2
        clear hstep
        have htake := Lib.hid (take_more (xs := xs) (k := k) (t := t) all)
        have hhear := Lib.hid (fun w2 (hM : Mid w2 g gr G all2 ((xs.drop k).take t)) l hl v hv => hear_at g gr (b1 - 1) ((b1 : Int) - 1) (by omega) all2 ((xs.drop k).take t) w2 G hG hM (by rw [hyl'.out]; exact hfull'.out) (by have := hb1'.out; omega) l hl v hv)
        obtain ⟨q1, q2, okb, hqv, hqc⟩ := heVal_form G ((b1 - 1 : Nat) : Int) (eng (blk G (all2 ++ (xs.drop k).take t) (b1 - 1))) (endM G all2)
        have hqv := Lib.hid hqv
        have hcall := Lib.hid (fun w2 (hM : Mid w2 g gr G all2 ((xs.drop k).take t)) => hhear.out w2 hM _ rfl _ hqv.out)
        have hqc := Lib.hid hqc
        clear hhear
        rcases (show c' = t ∨ ¬ c' = t by omega) with hct | hct
        · have hnt : n' = t := by omega
          have hSc := hS'.cut htn
          rw [if_pos hct, List.drop_drop] at hSc
          subst hct
          subst hnt
          rw [Nat.sub_self] at hSc
          have hfar2 : Hid (0 < 0 → ∀ ad, A' = some ad → (ad.block ≠ g ∧ ad.block ≠ gr) ∧ ad.block < w.heap.size) := fun h => absurd h (Nat.lt_irrefl _)
          have hsum2 : Hid (0 + (k + n') = n) := by have := hsum'.out; show _ = _; omega
          go_wp2_with fail
          refine hfill.mono ?_
          rintro e w2 ⟨rfl, hM, hT2⟩
          have hMl := hM.lb
          rw [hL'.out] at hMl
          have c0 := hMl.c0
          have c9 := hMl.c9
          go_wp2
          go_quiet (fail)
          clear em c0 c9
          have hM3 := hM.drewN nq
          have hTw3 := hT2.drewN nq
          have hT3 := (htwo.trans hT2).drewN nq
          have hMl3 := hMl.drewN nq
          have hsz3 := hT3.size
          have hown3 := own_two hown hTw3 hgl hgrl
          have hSc3 := hTw3.sl hSc (fun h ad he => (hfar2.out h ad he).1)
          have hM3l : g < (w2.drewN nq).heap.size ∧ gr < (w2.drewN nq).heap.size := ⟨Blk.lt hM3.lb, by obtain ⟨rs, hR, _⟩ := hM3.ring; exact hR.lt⟩
          generalize w2.drewN nq = w3 at *
          have c0 := hMl3.c0
          have c9 := hMl3.c9
          have e1 : IntKind.i64.wrap (b1 : Int) = (b1 : Int) := IntWalk.i64_in _ (by omega)
          have e2 : IntKind.i64.wrap ((b1 : Int) - 1) = (b1 : Int) - 1 := IntWalk.i64_in _ (by omega)
          go_upto_region 14 with fail
          go_cut [8, 9] from 30 to 69 (fun sv kv wx => ∃ gs, sv = .pointer (some ⟨gs, 0, none⟩) ∧ kv = .bool okb ∧ Blk wx gs 84 #[.int .i64 q1, .int .i64 q2] ∧ Lis wx g gr G (all2 ++ (xs.drop k).take n') ∧ Two g gr w3 wx)
          case first =>
            have hlt3 := hM3l
            have hg3 : w3.heap.size ≠ g := by omega
            have hgr3 : w3.heap.size ≠ gr := by omega
            have hg3' : g ≠ w3.heap.size := by omega
            go_region_held3 (fun wx => wx.cell? ⟨g, 0, none⟩ = some (.int .i64 (G.B : Int)) ∧ wx.cell? ⟨g, 9, none⟩ = some (.int .i64 (L : Int))) (first | exact ⟨c0, c9⟩ | exact K5 | exact K8.out _ _ | go_keep)
              (first
                | (go_at_call 91; refine (hcall.out _ (hM3.drewN 1)).mono ?_; rintro e w4 ⟨rfl, hL4, hT4⟩; have hl4 := hL4.lb; rw [hL'.out] at hl4; have K5 : w4.cell? ⟨g, 0, none⟩ = some (.int .i64 (G.B : Int)) ∧ w4.cell? ⟨g, 9, none⟩ = some (.int .i64 (L : Int)) := ⟨hl4.c0, hl4.c9⟩; have tok1 : True := trivial)
                | (go_at_call 91; refine (hcall.out _ ((hM3.alloc (.cells #[.int .i64 0, .int .i64 0] 84)).drewN 1)).mono ?_; rintro e w4 ⟨rfl, hL4, hT4⟩; have hl4 := hL4.lb; rw [hL'.out] at hl4; have K5 : w4.cell? ⟨g, 0, none⟩ = some (.int .i64 (G.B : Int)) ∧ w4.cell? ⟨g, 9, none⟩ = some (.int .i64 (L : Int)) := ⟨hl4.c0, hl4.c9⟩; have P3 := hT4.blk ((Blk.new w3 84 #[.int .i64 0, .int .i64 0]).drewN 1) hg3 hgr3; have r0 := P3.cell 0; have r1 := P3.cell 1; have f0 := P3.frozen 0; have f1 := P3.frozen 1; have K8 := Lib.hid (show ∀ a b, ((w4.setCell ⟨w3.heap.size, 0, none⟩ a).setCell ⟨w3.heap.size, 1, none⟩ b).cell? ⟨g, 0, none⟩ = some (.int .i64 (G.B : Int)) ∧ ((w4.setCell ⟨w3.heap.size, 0, none⟩ a).setCell ⟨w3.heap.size, 1, none⟩ b).cell? ⟨g, 9, none⟩ = some (.int .i64 (L : Int)) from fun a b => ⟨(cell_set2 _ _ _ _ _ hg3').trans K5.1, (cell_set2 _ _ _ _ _ hg3').trans K5.2⟩); have tok2 : True := trivial))
            all_goals first
              | (have _t := tok1
                 go_wp2_with fail
                 go_meet
                 exact ⟨_, rfl, rfl, Blk.new _ _ _, hL4.alloc _, ((Two.refl g gr w3).drewN 1 |>.trans hT4).alloc _⟩)
              | (have _t := tok2
                 go_wp2_with fail
                 go_meet
                 exact ⟨_, rfl, rfl, (P3.set_ 0 _).set_ 1 _, (hL4.far (p := ⟨w3.heap.size, 0, none⟩) hg3' (fun e => hgr3 e.symm) _).far (p := ⟨w3.heap.size, 1, none⟩) hg3' (fun e => hgr3 e.symm) _, (((((Two.refl g gr w3).alloc _).drewN 1).trans hT4).setn (p := ⟨w3.heap.size, 0, none⟩) (Nat.le_refl _) _).setn (p := ⟨w3.heap.size, 1, none⟩) (Nat.le_refl _) _⟩)
          case rest =>
            obtain ⟨gs, rfl, rfl, hBs, hLc, hTc⟩ := hcut
            have hownc := own_two hown3 hTc hgl hgrl
            have hScc := hTc.sl hSc3 (fun h ad he => (hfar2.out h ad he).1)
            have hTwc := hT3.trans hTc
            have hms : slen (.slice A' 0 0) < slen (.slice A' n' n') := by have := hsum2.out; have := hsum'.out; show 0 < n'; omega
            have hkt : k + n' ≤ 200000 := by have := hsum2.out; omega
            have hAll : Hid (all2 ++ (xs.drop k).take n' = all ++ xs.take (k + n')) := by show _ = _; rw [htake.out, hA2'.out]
            have hSg : Hid (segs G (all ++ xs.take (k + n')) = segs G all ++ new ++ hearS G ((b1 - 1 : Nat) : Int) (eng (blk G (all2 ++ (xs.drop k).take n') (b1 - 1))) (endM G all2)) := by show _ = _; rw [← hAll.out, hseg2.out, hseg.out]
            have hLc2 : Lis wc g gr G (all ++ xs.take (k + n')) := by rw [← hAll.out]; exact hLc
            clear c0 c9 e1 e2 hLc
            have hms := Lib.hid hms
            cases okb with
            | false =>
              have hSg2 : Hid (segs G (all ++ xs.take (k + n')) = segs G all ++ new) := by
                show _ = _
                rcases hqc.out with ⟨_, h2⟩ | ⟨h1, _⟩
                · rw [hSg.out, h2, List.append_nil]
                · cases h1
              go_wp2
              go_roundw
              case rel => exact ⟨A', 0, 0, k + n', new, ev, rfl, rfl, hScc, hsum2.out, hownc, hSg2, hLc2, hTwc, by omega, hfar2⟩
              case measure => exact hms.out
            | true =>
              have hSg2 : Hid (segs G (all ++ xs.take (k + n')) = segs G all ++ (new ++ [(q1, q2)])) := by
                show _ = _
                rcases hqc.out with ⟨h1, _⟩ | ⟨_, h2⟩
                · cases h1
                · rw [hSg.out, h2, List.append_assoc]
              obtain ⟨i0, hi, hz0, hz1, hz2⟩ := info_parts info_seg
              have hb0 := hBs.cell 0
              have hb1 := hBs.cell 1
              go_wp2_with (at_builtin; refine wpList_append_own _ rfl (.tmp 66) (.tmp 68) 66 rfl w.heap.size 84 i0 (.agg #[.int .i64 0, .int .i64 0]) 2 16 Try.underlying66 hi hz0 hz1 hz2 rfl (by decide) ev new.length (sgv new) rfl (hownc.alloc _) ⟨wc.heap.size, 0, none⟩ 1 1 [.int .i64 q1, .int .i64 q2] rfl rfl ?k1 ?k2 ?k3 ?k4 ?k5 ?_)
              case k2 => exact ⟨rfl, rfl⟩
              case k3 => unfold maxLen; omega
              case k4 => omega
              case k5 => have := hTwc.size; simp; omega
              intro v1 w5 hown5 hg5 _
              have hrow : ∀ k, ev.ownBlock = some k → w.heap.size ≤ k := fun k hk => (hownc.lt k hk).1
              have hT5 := two_grown (hTwc.alloc (.cells #[.int .i64 q1, .int .i64 q2] 84)) hg5 hrow
              have hszc := hTwc.size
              have hold : ∀ j, j < w.heap.size → w5.heap[j]? = wc.heap[j]? := fun j hj =>
                (hg5.block j (by simp; omega) (fun e => by have := hrow j e.symm; omega)).trans (Below.heap_alloc wc _ j (by omega))
              have hL5 := lis_same hLc2 (hold g hgl) (hold gr hgrl)
              have hS5 := sl_old hScc hold (fun h ad he => (hfar2.out h ad he).2)
              have hlen5 : (new ++ [(q1, q2)]).length = new.length + 1 := by simp
              have hown6 : w5.ownsRow w.heap.size 84 2 v1 (new ++ [(q1, q2)]).length (sgv (new ++ [(q1, q2)])) := by rw [hlen5, sgv_app]; exact hown5
              have hfew5 : (new ++ [(q1, q2)]).length ≤ k + n' := by rw [hlen5]; omega
              clear hown5 hlen5 hold hrow hb0 hb1
              go_wp2
              go_roundw
              case rel => exact ⟨A', 0, 0, k + n', new ++ [(q1, q2)], v1, rfl, rfl, hS5, hsum2.out, hown6, hSg2, hL5, hT5, hfew5, hfar2⟩
              case measure => exact hms.out
        · have hSc := hS'.cut htn
          rw [if_neg hct, List.drop_drop] at hSc
          have hfar2 : Hid (0 < n' - t → ∀ ad, A'.map (fun x => x.add t) = some ad → (ad.block ≠ g ∧ ad.block ≠ gr) ∧ ad.block < w.heap.size) := fun h ad he => by
            obtain ⟨a1, h1, h2⟩ := Option.map_eq_some_iff.1 he
            have := hfar'.out hpos a1 h1
            rw [← h2, block_of_add]; exact this
          have hsum2 : Hid (n' - t + (k + t) = n) := by have := hsum'.out; show _ = _; omega
          go_wp2_with fail
          refine hfill.mono ?_
          rintro e w2 ⟨rfl, hM, hT2⟩
          have hMl := hM.lb
          rw [hL'.out] at hMl
          have c0 := hMl.c0
          have c9 := hMl.c9
          go_wp2
          go_quiet (fail)
          generalize n' - t = n2 at *
          generalize c' - t = c2 at *
          generalize Option.map (fun x => x.add t) A' = A2 at *
          clear em c0 c9
          have hM3 := hM.drewN nq
          have hTw3 := hT2.drewN nq
          have hT3 := (htwo.trans hT2).drewN nq
          have hMl3 := hMl.drewN nq
          have hsz3 := hT3.size
          have hown3 := own_two hown hTw3 hgl hgrl
          have hSc3 := hTw3.sl hSc (fun h ad he => (hfar2.out h ad he).1)
          have hM3l : g < (w2.drewN nq).heap.size ∧ gr < (w2.drewN nq).heap.size := ⟨Blk.lt hM3.lb, by obtain ⟨rs, hR, _⟩ := hM3.ring; exact hR.lt⟩
          generalize w2.drewN nq = w3 at *
          have c0 := hMl3.c0
          have c9 := hMl3.c9
          have e1 : IntKind.i64.wrap (b1 : Int) = (b1 : Int) := IntWalk.i64_in _ (by omega)
          have e2 : IntKind.i64.wrap ((b1 : Int) - 1) = (b1 : Int) - 1 := IntWalk.i64_in _ (by omega)
          go_upto_region 14 with fail
          go_cut [8, 9] from 30 to 69 (fun sv kv wx => ∃ gs, sv = .pointer (some ⟨gs, 0, none⟩) ∧ kv = .bool okb ∧ Blk wx gs 84 #[.int .i64 q1, .int .i64 q2] ∧ Lis wx g gr G (all2 ++ (xs.drop k).take t) ∧ Two g gr w3 wx)
          case first =>
            have hlt3 := hM3l
            have hg3 : w3.heap.size ≠ g := by omega
            have hgr3 : w3.heap.size ≠ gr := by omega
            have hg3' : g ≠ w3.heap.size := by omega
            go_region_held3 (fun wx => wx.cell? ⟨g, 0, none⟩ = some (.int .i64 (G.B : Int)) ∧ wx.cell? ⟨g, 9, none⟩ = some (.int .i64 (L : Int))) (first | exact ⟨c0, c9⟩ | exact K5 | exact K8.out _ _ | go_keep)
              (first
                | (go_at_call 91; refine (hcall.out _ (hM3.drewN 1)).mono ?_; rintro e w4 ⟨rfl, hL4, hT4⟩; have hl4 := hL4.lb; rw [hL'.out] at hl4; have K5 : w4.cell? ⟨g, 0, none⟩ = some (.int .i64 (G.B : Int)) ∧ w4.cell? ⟨g, 9, none⟩ = some (.int .i64 (L : Int)) := ⟨hl4.c0, hl4.c9⟩; have tok1 : True := trivial)
                | (go_at_call 91; refine (hcall.out _ ((hM3.alloc (.cells #[.int .i64 0, .int .i64 0] 84)).drewN 1)).mono ?_; rintro e w4 ⟨rfl, hL4, hT4⟩; have hl4 := hL4.lb; rw [hL'.out] at hl4; have K5 : w4.cell? ⟨g, 0, none⟩ = some (.int .i64 (G.B : Int)) ∧ w4.cell? ⟨g, 9, none⟩ = some (.int .i64 (L : Int)) := ⟨hl4.c0, hl4.c9⟩; have P3 := hT4.blk ((Blk.new w3 84 #[.int .i64 0, .int .i64 0]).drewN 1) hg3 hgr3; have r0 := P3.cell 0; have r1 := P3.cell 1; have f0 := P3.frozen 0; have f1 := P3.frozen 1; have K8 := Lib.hid (show ∀ a b, ((w4.setCell ⟨w3.heap.size, 0, none⟩ a).setCell ⟨w3.heap.size, 1, none⟩ b).cell? ⟨g, 0, none⟩ = some (.int .i64 (G.B : Int)) ∧ ((w4.setCell ⟨w3.heap.size, 0, none⟩ a).setCell ⟨w3.heap.size, 1, none⟩ b).cell? ⟨g, 9, none⟩ = some (.int .i64 (L : Int)) from fun a b => ⟨(cell_set2 _ _ _ _ _ hg3').trans K5.1, (cell_set2 _ _ _ _ _ hg3').trans K5.2⟩); have tok2 : True := trivial))
            all_goals first
              | (have _t := tok1
                 go_wp2_with fail
                 go_meet
                 exact ⟨_, rfl, rfl, Blk.new _ _ _, hL4.alloc _, ((Two.refl g gr w3).drewN 1 |>.trans hT4).alloc _⟩)
              | (have _t := tok2
                 go_wp2_with fail
                 go_meet
                 exact ⟨_, rfl, rfl, (P3.set_ 0 _).set_ 1 _, (hL4.far (p := ⟨w3.heap.size, 0, none⟩) hg3' (fun e => hgr3 e.symm) _).far (p := ⟨w3.heap.size, 1, none⟩) hg3' (fun e => hgr3 e.symm) _, (((((Two.refl g gr w3).alloc _).drewN 1).trans hT4).setn (p := ⟨w3.heap.size, 0, none⟩) (Nat.le_refl _) _).setn (p := ⟨w3.heap.size, 1, none⟩) (Nat.le_refl _) _⟩)
          case rest =>
            obtain ⟨gs, rfl, rfl, hBs, hLc, hTc⟩ := hcut
            have hownc := own_two hown3 hTc hgl hgrl
            have hScc := hTc.sl hSc3 (fun h ad he => (hfar2.out h ad he).1)
            have hTwc := hT3.trans hTc
            have hms : slen (.slice A2 n2 c2) < slen (.slice A' n' c') := by have := hsum2.out; have := hsum'.out; show n2 < n'; omega
            have hkt : k + t ≤ 200000 := by have := hsum2.out; omega
            have hAll : Hid (all2 ++ (xs.drop k).take t = all ++ xs.take (k + t)) := by show _ = _; rw [htake.out, hA2'.out]
            have hSg : Hid (segs G (all ++ xs.take (k + t)) = segs G all ++ new ++ hearS G ((b1 - 1 : Nat) : Int) (eng (blk G (all2 ++ (xs.drop k).take t) (b1 - 1))) (endM G all2)) := by show _ = _; rw [← hAll.out, hseg2.out, hseg.out]
            have hLc2 : Lis wc g gr G (all ++ xs.take (k + t)) := by rw [← hAll.out]; exact hLc
            clear c0 c9 e1 e2 hLc
            have hms := Lib.hid hms
            cases okb with
            | false =>
              have hSg2 : Hid (segs G (all ++ xs.take (k + t)) = segs G all ++ new) := by
                show _ = _
                rcases hqc.out with ⟨_, h2⟩ | ⟨h1, _⟩
                · rw [hSg.out, h2, List.append_nil]
                · cases h1
              go_wp2
              go_roundw
              case rel => exact ⟨A2, n2, c2, k + t, new, ev, rfl, rfl, hScc, hsum2.out, hownc, hSg2, hLc2, hTwc, by omega, hfar2⟩
              case measure => exact hms.out
            | true =>
              have hSg2 : Hid (segs G (all ++ xs.take (k + t)) = segs G all ++ (new ++ [(q1, q2)])) := by
                show _ = _
                rcases hqc.out with ⟨h1, _⟩ | ⟨_, h2⟩
                · cases h1
                · rw [hSg.out, h2, List.append_assoc]
              obtain ⟨i0, hi, hz0, hz1, hz2⟩ := info_parts info_seg
              have hb0 := hBs.cell 0
              have hb1 := hBs.cell 1
              go_wp2_with (at_builtin; refine wpList_append_own _ rfl (.tmp 66) (.tmp 68) 66 rfl w.heap.size 84 i0 (.agg #[.int .i64 0, .int .i64 0]) 2 16 Try.underlying66 hi hz0 hz1 hz2 rfl (by decide) ev new.length (sgv new) rfl (hownc.alloc _) ⟨wc.heap.size, 0, none⟩ 1 1 [.int .i64 q1, .int .i64 q2] rfl rfl ?mm1 ?mm2 ?mm3 ?mm4 ?mm5 ?_)
              case mm2 => exact ⟨rfl, rfl⟩
              case mm3 => unfold maxLen; omega
              case mm4 => omega
              case mm5 => have := hTwc.size; simp; omega
              intro v1 w5 hown5 hg5 _
              have hrow : ∀ k, ev.ownBlock = some k → w.heap.size ≤ k := fun k hk => (hownc.lt k hk).1
              have hT5 := two_grown (hTwc.alloc (.cells #[.int .i64 q1, .int .i64 q2] 84)) hg5 hrow
              have hszc := hTwc.size
              have hold : ∀ j, j < w.heap.size → w5.heap[j]? = wc.heap[j]? := fun j hj =>
                (hg5.block j (by simp; omega) (fun e => by have := hrow j e.symm; omega)).trans (Below.heap_alloc wc _ j (by omega))
              have hL5 := lis_same hLc2 (hold g hgl) (hold gr hgrl)
              have hS5 := sl_old hScc hold (fun h ad he => (hfar2.out h ad he).2)
              have hlen5 : (new ++ [(q1, q2)]).length = new.length + 1 := by simp
              have hown6 : w5.ownsRow w.heap.size 84 2 v1 (new ++ [(q1, q2)]).length (sgv (new ++ [(q1, q2)])) := by rw [hlen5, sgv_app]; exact hown5
              have hfew5 : (new ++ [(q1, q2)]).length ≤ k + t := by rw [hlen5]; omega
              clear hown5 hlen5 hold hrow hb0 hb1
              go_wp2
              go_roundw
              case rel => exact ⟨A2, n2, c2, k + t, new ++ [(q1, q2)], v1, rfl, rfl, hS5, hsum2.out, hown6, hSg2, hL5, hT5, hfew5, hfar2⟩
              case measure => exact hms.out
      · have htn' : t = n' := by have := htd'.out; omega
        have hnf := Lib.hid hfull
        clear hfull
        subst htn'
        obtain ⟨L, hL⟩ : ∃ L, (all2 ++ (xs.drop k).take t).length = L := ⟨_, rfl⟩
        obtain ⟨r, hr⟩ : ∃ r, all2.length % G.B + t = r := ⟨_, rfl⟩
        have hrB : r < G.B := by have := hnf.out; omega
        have hr0 : 0 < r := by omega
        have em := tmod_nat (L := L) (B := G.B) (r := r) (by
          rw [← hL, List.length_append, hyl'.out, ← hr, show all2.length + t = (all2.length % G.B + t) + G.B * (all2.length / G.B) by have := hd'.out; omega, Nat.add_mul_mod_self_left, Nat.mod_eq_of_lt (by omega)])
        have hB0 : ¬ G.B = 0 := by omega
        have hLis := fun w2 (hM : Mid w2 g gr G all2 ((xs.drop k).take t)) => hM.lis hG (by rw [hyl'.out, hr]; exact hrB)
        have hLis := Lib.hid hLis
        have hr' := Lib.hid hr
        have hL' := Lib.hid hL
        clear hr hL
        have hend : ∀ w2, Mid w2 g gr G all2 ((xs.drop k).take t) → Two g gr wr w2 → ∀ i, ∃ v new, Ending.returned (.tuple #[ev, .int .i64 0]) = .returned (.tuple #[v, .int .i64 0]) ∧ (w2.drewN i).ownsRow w.heap.size 84 2 v new.length (sgv new) ∧ Hid (segs G (all ++ xs) = segs G all ++ new) ∧ Lis (w2.drewN i) g gr G (all ++ xs) ∧ Two g gr w (w2.drewN i) := fun w2 hM hT i => by
          have h1 := hLis.out w2 hM
          have h2 := fe_last (all := all) hl.out hsum'.out hA2'.out
          rw [h2] at h1
          exact ⟨ev, new, rfl, own_two hown (hT.drewN i) hgl (by have := hgrl; omega), show _ = _ by rw [h1.2]; exact hseg.out, h1.1.drewN i, (htwo.trans hT).drewN i⟩
        have hend := Lib.hid hend
        rcases (show c' = t ∨ ¬ c' = t by omega) with hct | hct
        · subst hct
          go_wp2_with fail
          refine hfill.mono ?_
          rintro e w2 ⟨rfl, hM, hT2⟩
          have hMl := hM.lb
          rw [hL'.out] at hMl
          have c0 := hMl.c0
          have c9 := hMl.c9
          go_wp2
          go_quiet (fail)
          clear em c0 c9
          go_wp2
          go_ret2
          exact hend.out w2 hM hT2 _
        · go_wp2_with fail
          refine hfill.mono ?_
          rintro e w2 ⟨rfl, hM, hT2⟩
          have hMl := hM.lb
          rw [hL'.out] at hMl
          have c0 := hMl.c0
          have c9 := hMl.c9
          go_wp2
          go_quiet (fail)
          clear em c0 c9
          go_wp2
          go_ret2
          exact hend.out w2 hM hT2 _
end Go.Proofs.Ytobobbhifajhmaa
