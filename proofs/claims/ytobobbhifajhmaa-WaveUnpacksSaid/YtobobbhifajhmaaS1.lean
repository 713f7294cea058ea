/- The document's own segments. -/
import Derived.Test.YtobobbhifajhmaaSE
namespace Go.Proofs.Ytobobbhifajhmaa
open Go.RowKit

theorem news_seg (w : World) (a b : Int) : ∀ j u, ([.int .i64 a, .int .i64 b] : List Value)[j]? = some u → (w.alloc (.cells #[.int .i64 a, .int .i64 b] 84)).cell? ((⟨w.heap.size, 0, none⟩ : Addr).add j) = some u := news_two w _ _ _
theorem oneCell2 (a b : Int) : ∀ u ∈ ([.int .i64 a, .int .i64 b] : List Value), u.oneCell' = true := by
  intro u hu
  simp at hu
  rcases hu with rfl | rfl <;> rfl

theorem Blk.ne_ty {w : World} {g : Nat} {t t' : TypeId} {cs cs' : Array Value} (h : Blk w g t cs) (h' : w.heap[g]? = some (.cells cs' t' (0, 0))) (hne : t ≠ t') : False := by
  unfold Blk at h
  rw [h] at h'
  injection h' with h'
  injection h' with _ ht
  exact hne ht
/-- the nine ways of a block -/
theorem st_low {G : Gt} {b E : Int} {m : Ms} (hs : m.sp = false) (h : E < G.H * G.B) : hearM G b E m = ⟨false, 0, m.first, m.last⟩ ∧ hearS G b E m = [] := by
  have h1 := hear_wait (G := G) (b := b) (E := E) hs
  rw [decide_eq_false (by omega), awt_no hs] at h1
  exact h1
theorem st_more {G : Gt} {b E : Int} {m : Ms} (hs : m.sp = false) (h : ¬ E < G.H * G.B) (hr : m.run + 1 ≠ G.R) : hearM G b E m = ⟨false, m.run + 1, m.first, m.last⟩ ∧ hearS G b E m = [] := by
  have h1 := hear_wait (G := G) (b := b) (E := E) hs
  rw [decide_eq_true (by omega), awt_more hs hr] at h1
  exact h1
theorem st_yes {G : Gt} {b E : Int} {m : Ms} (hs : m.sp = false) (h : ¬ E < G.H * G.B) (hr : m.run + 1 = G.R) : hearM G b E m = ⟨true, 0, max (b - G.R + 1 - G.D) m.last, m.last⟩ ∧ hearS G b E m = [] := by
  have h1 := hear_wait (G := G) (b := b) (E := E) hs
  rw [decide_eq_true (by omega), awt_yes hr] at h1
  exact h1
theorem st_end {G : Gt} {b E : Int} {m : Ms} (hs : m.sp = true) {q : Bool} (hq : decide (E < G.L * G.B) = q) {e : Int} (he : fend G b q m = e) (h0 : 0 ≤ e) : hearM G b E m = ⟨false, 0, m.first, e⟩ ∧ hearS G b E m = [(m.first * G.B, e * G.B)] := by
  unfold hearM hearS
  rw [hs, hq, he, if_pos rfl, if_pos rfl, if_neg (by omega), if_neg (by omega)]
  exact ⟨rfl, rfl⟩
theorem st_on {G : Gt} {b E : Int} {m : Ms} (hs : m.sp = true) {q : Bool} (hq : decide (E < G.L * G.B) = q) (he : fend G b q m = -1) : hearM G b E m = ⟨true, frun q m, m.first, m.last⟩ ∧ hearS G b E m = [] := by
  unfold hearM hearS
  rw [hs, hq, he]
  exact ⟨rfl, rfl⟩

/-- the segments, with the one that is open if the listener is closed -/
def rsg (cl : Bool) (G : Gt) (xs : List Int) : List (Int × Int) := if cl then segs G xs ++ lastS G xs else segs G xs
def RSg (w : World) (ps : List (Int × Int)) (sp : Bool) (e : Ending) (w' : World) : Prop :=
  ∃ v, e = .returned (.tuple #[v, .bool sp]) ∧ w'.ownsRow w.heap.size 84 2 v ps.length (sgv ps) ∧ Below w.heap.size w w'

/-- the head of a round: b blocks are done -/
structure SgR (w : World) (G : Gt) (n : Nat) (xs : List Int) (ov sv rv bv lv iv : Value) (wr : World) (b : Nat) (V : Value) (m : Ms) : Prop where
  o : V = ov
  s : sv = .bool m.sp
  r : rv = .int .i64 m.run
  f : bv = .int .i64 m.first
  l : lv = .int .i64 m.last
  i : iv = .int .i64 b
  m : Hid (runM G xs b = m)
  le : b * G.B ≤ n
  own : wr.ownsRow w.heap.size 84 2 V (runS G xs b).length (sgv (runS G xs b))
  bel : Below w.heap.size w wr
  g : Blk wr w.heap.size 65 #[.int .i64 G.B, .int .i64 G.H, .int .i64 G.L, .int .i64 G.R, .int .i64 G.F, .int .i64 G.D, .int .i64 G.X]
  bg : w.heap.size < wr.heap.size

theorem SgR.next {w w5 : World} {G : Gt} {n b : Nat} {xs : List Int} {V5 : Value} {m m5 : Ms} {S : List (Int × Int)} (hm : runM G xs b = m) (h1 : hearM G b (eng (blk G xs b)) m = m5) (h2 : hearS G b (eng (blk G xs b)) m = S) (hle : (b + 1) * G.B ≤ n)
    (hown : w5.ownsRow w.heap.size 84 2 V5 (runS G xs b ++ S).length (sgv (runS G xs b ++ S))) (hbel : Below w.heap.size w w5) (hg : Blk w5 w.heap.size 65 #[.int .i64 G.B, .int .i64 G.H, .int .i64 G.L, .int .i64 G.R, .int .i64 G.F, .int .i64 G.D, .int .i64 G.X]) (hbg : w.heap.size < w5.heap.size) :
    SgR w G n xs V5 (.bool m5.sp) (.int .i64 m5.run) (.int .i64 m5.first) (.int .i64 m5.last) (.int .i64 ((b + 1 : Nat) : Int)) w5 (b + 1) V5 m5 := by
  subst hm
  refine ⟨rfl, rfl, rfl, rfl, rfl, rfl, h1, hle, ?_, hbel, hg, hbg⟩
  have e : runS G xs (b + 1) = runS G xs b ++ S := by rw [← h2]; rfl
  rw [e]; exact hown

set_option maxHeartbeats 8000000 in
set_option maxRecDepth 100000 in
theorem RSegments_any (cl : Bool) (G : Gt) (hG : G.Ok) (A : Option Addr) (n c : Nat) (xs : List Int) (w : World) (hS : Sl .i64 w A n c xs) (hn : n ≤ 200000) (hx : ∀ x ∈ xs, -32768 ≤ x ∧ x ≤ 32767) :
    Calls Try.prog 53 #[.slice A n c, gval G, .bool cl] w (RSg w (rsg cl G xs) (endM G xs).sp) := by
  have hl := Lib.hid hS.len
  have hcap := hS.cap
  have htop := hS.top
  have hx := Lib.hid hx
  have hB1 := hG.b1
  have hB2 := hG.b2
  have hH1 := hG.h1
  have hH2 := hG.h2
  have hL1 := hG.l1
  have hL2 := hG.l2
  have hR1 := hG.r1
  have hR2 := hG.r2
  have hF1 := hG.f1
  have hF2 := hG.f2
  have hD1 := hG.d1
  have hD2 := hG.d2
  have hX1 := hG.x1
  have hX2 := hG.x2
  have hHB := mul_bd (a := (G.B : Int)) (b := G.H) (m := 4096) (q := 1073741824) (by omega) (by omega) (by omega) hH2 (by omega)
  have hLB := mul_bd (a := (G.B : Int)) (b := G.L) (m := 4096) (q := 1073741824) (by omega) (by omega) (by omega) (by omega) (by omega)
  rw [Int.mul_comm (G.B : Int) G.H] at hHB
  rw [Int.mul_comm (G.B : Int) G.L] at hLB
  have hHB1 := hHB.1
  have hHB2 := hHB.2
  have hLB1 := hLB.1
  have hLB2 := hLB.2
  clear hHB hLB
  obtain ⟨i0, hi, hz0, hz1, hz2⟩ := info_parts info_seg
  unfold gval gtV
  go_enter Try.func53, Try.ntmps53
  go_wp2
  go_loopw [8, 9, 10, 11, 12, 13] (fun ov sv rv bv lv iv wr => ∃ b V m, SgR w G n xs ov sv rv bv lv iv wr b V m) (fun _ _ _ _ _ iv _ => n + 1 - (intOf iv).toNat)
  case atStart => exact ⟨0, _, Ms.start, rfl, rfl, rfl, rfl, rfl, rfl, rfl, by omega, World.ownsRow_nil _ _ _ _, (Below.refl _ _).alloc (Nat.le_refl _) _, Blk.new _ _ _, by simp⟩
  case round =>
    obtain ⟨b, V, m, ho, rfl, rfl, rfl, rfl, rfl, hm, hle, hown, hbel, hgb, hbg⟩ := hrel
    subst ho
    have hbd := runM_bd hG xs b
    rw [hm.out] at hbd
    have c0 := hgb.cell 0
    have c1 := hgb.cell 1
    have c2 := hgb.cell 2
    have c3 := hgb.cell 3
    have c4 := hgb.cell 4
    have c5 := hgb.cell 5
    have c6 := hgb.cell 6
    have hr := hS.below hbel
    have hbn : b ≤ n := by
      have : b * 1 ≤ b * G.B := Nat.mul_le_mul_left b hB1
      omega
    have hbn2 := Lib.hid hbn
    have hrl := runS_len G xs b
    obtain ⟨o, ho⟩ : ∃ o, b * G.B = o := ⟨_, rfl⟩
    have hoe : (b + 1) * G.B = o + G.B := by rw [Nat.add_mul, Nat.one_mul, ho]
    rw [ho] at hle
    have eo : (b : Int) * (G.B : Int) = (o : Int) := by rw [← ho, Int.natCast_mul]
    have eo2 : ((b : Int) + 1) * (G.B : Int) = (o : Int) + (G.B : Int) := by rw [Int.add_mul, eo, Int.one_mul]
    have ho' := Lib.hid ho
    have hoe' := Lib.hid hoe
    clear ho hoe
    obtain ⟨hm1, hm2, hm3, hm4, hm5, hm6⟩ := hbd
    by_cases hlt : o + G.B ≤ n
    · have hlti : (o : Int) + (G.B : Int) ≤ (n : Int) := by omega
      have hcn : ¬ c = o := by omega
      have hsub := (hr.cut (m := o) (by omega)).take (m := G.B) (by omega)
      rw [if_neg hcn] at hsub
      have hbk : Hid ((xs.drop o).take G.B = blk G xs b) := by show _ = _; unfold blk; rw [ho'.out]
      have hmem : ∀ y ∈ (xs.drop o).take G.B, -70000 ≤ y ∧ y ≤ 70000 := fun y hy => by
        have := hx.out y (List.mem_of_mem_drop (List.mem_of_mem_take hy)); omega
      have hmem := Lib.hid hmem
      obtain ⟨ad, rfl, _⟩ := hr.cell (by omega)
      have hEb : 0 ≤ eng (blk G xs b) ∧ eng (blk G xs b) ≤ 20070400000000 := by
        have h1 := eng_bd (m := 70000) ((xs.drop o).take G.B) hmem.out
        rw [hbk.out] at h1
        have h2 : (blk G xs b).length ≤ 4096 := by rw [← hbk.out, List.length_take]; omega
        omega
      have hmB := mul_bd (a := (G.B : Int)) (b := m.first) (m := 4096) (q := 200000) (by omega) (by omega) (by omega) (by omega) (by omega)
      rw [Int.mul_comm (G.B : Int) m.first] at hmB
      have hmB1 := hmB.1
      have hmB2 := hmB.2
      clear hmB
      have hsle : Hid ((b + 1) * G.B ≤ n) := by show _ ≤ _; rw [hoe'.out]; exact hlt
      go_wp2_with fail
      refine (REnergy_any _ _ _ _ _ hsub (by omega) hmem.out).mono ?_
      rintro e w2 ⟨kk, he, rfl⟩
      rw [hbk.out] at he
      subst he
      have hown2 : (wr.drewN kk).ownsRow w.heap.size 84 2 V (runS G xs b).length (sgv (runS G xs b)) := own_same hown (fun _ _ _ => rfl)
      have hbel2 := bel_drewN hbel kk
      have hgb2 := hgb.drewN kk
      have hbg2 : w.heap.size < (wr.drewN kk).heap.size := hbg
      clear hown hbel hgb hbg c0 c1 c2 c3 c4 c5 c6 eo eo2
      generalize wr.drewN kk = w3 at *
      have c0 := hgb2.cell 0
      have c1 := hgb2.cell 1
      have c2 := hgb2.cell 2
      have c3 := hgb2.cell 3
      have c4 := hgb2.cell 4
      have c5 := hgb2.cell 5
      have c6 := hgb2.cell 6
      have hE1 := hEb.1
      have hE2 := hEb.2
      clear hEb
      have hstep := fun m5 S h1 h2 V5 w5 h3 h4 h5 h6 => SgR.next (w := w) (w5 := w5) (n := n) (V5 := V5) (m5 := m5) (S := S) hm.out h1 h2 hsle.out h3 h4 h5 h6
      have hstep := Lib.hid hstep
      generalize eng (blk G xs b) = E at *
      have hnil : w3.ownsRow w.heap.size 84 2 V (runS G xs b ++ []).length (sgv (runS G xs b ++ [])) := by rw [List.append_nil]; exact hown2
      cases hsp : m.sp with
      | false =>
        by_cases hlo : E < G.H * (G.B : Int)
        · have hw := st_low (b := (b : Int)) hsp hlo
          have hR0 : ((0 : Int) == G.R) = false := by rw [beq_eq_false_iff_ne]; omega
          have R := hstep.out _ _ hw.1 hw.2 V w3 hnil hbel2 hgb2 hbg2
          have R' := Lib.hid R
          clear hw R hsp
          go_wp2
          go_roundw
          case rel => exact ⟨b + 1, V, _, R'.out⟩
          case measure => simp [intOf]; omega
        · have hlod : decide (E < G.H * (G.B : Int)) = false := decide_eq_false hlo
          by_cases hrr : m.run + 1 = G.R
          · have hw := st_yes (b := (b : Int)) hsp hlo hrr
            have R := hstep.out _ _ hw.1 hw.2 V w3 hnil hbel2 hgb2 hbg2
            have R' := Lib.hid R
            have hrb : ((m.run + 1) == G.R) = true := beq_iff_eq.2 hrr
            clear hw R hsp hrr hlo
            have hif := Lib.hid (show (if (b : Int) - G.R + 1 - G.D < m.last then m.last else (b : Int) - G.R + 1 - G.D) = max ((b : Int) - G.R + 1 - G.D) m.last by split <;> omega)
            go_wp2
            go_roundw
            case rel => exact ⟨b + 1, V, _, by rw [hif.out]; exact R'.out⟩
            case measure => simp [intOf]; omega
          · have hw := st_more (b := (b : Int)) hsp hlo hrr
            have R := hstep.out _ _ hw.1 hw.2 V w3 hnil hbel2 hgb2 hbg2
            have R' := Lib.hid R
            have hrb : ((m.run + 1) == G.R) = false := beq_eq_false_iff_ne.2 hrr
            clear hw R hsp hrr hlo
            go_wp2
            go_roundw
            case rel => exact ⟨b + 1, V, _, R'.out⟩
            case measure => simp [intOf]; omega
      | true =>
        by_cases hlo : E < G.L * (G.B : Int)
        · have hq := decide_eq_true hlo
          have hql : decide (G.L * (G.B : Int) ≤ E) = false := decide_eq_false (by omega)
          by_cases hF : m.run + 1 = G.F
          · have hfe : fend G b true m = (b : Int) - G.F + 1 := by unfold fend; rw [if_pos (show frun true m = G.F from hF)]
            have h0 : 0 ≤ (b : Int) - G.F + 1 := by omega
            have hFb : ((m.run + 1) == G.F) = true := beq_iff_eq.2 hF
            have hw := st_end (b := (b : Int)) hsp hq hfe h0
            have hw1 := Lib.hid hw.1
            have hw2 := Lib.hid hw.2
            have heB := mul_bd (a := (G.B : Int)) (b := (b : Int) - G.F + 1) (m := 4096) (q := 200001) (by omega) (by omega) (by omega) (by omega) (by omega)
            rw [Int.mul_comm (G.B : Int) ((b : Int) - G.F + 1)] at heB
            have heB1 := heB.1
            have heB2 := heB.2
            clear hw hsp hfe hF hq hlo heB 
            go_wp2_with (at_builtin; refine wpList_append_own _ rfl (.tmp 92) (.tmp 102) 66 rfl w.heap.size 84 i0 (.agg #[.int .i64 0, .int .i64 0]) 2 16 Try.underlying66 hi hz0 hz1 hz2 rfl (by decide) V (runS G xs b).length (sgv (runS G xs b)) rfl (hown2.alloc _) ⟨w3.heap.size, 0, none⟩ 1 1 [.int .i64 (m.first * (G.B : Int)), .int .i64 (((b : Int) - G.F + 1) * (G.B : Int))] rfl rfl (news_seg _ _ _) (oneCell2 _ _) ?pa3 ?pa4 ?pa5 ?_)
            case pa3 => unfold maxLen; omega
            case pa4 => omega
            case pa5 => simp; omega
            intro v5 w5 hown5 hg5 _
            have hrow := Lib.hid (fun k (hk : V.ownBlock = some k) => (hown2.lt k hk).1)
            have hlen5 : (runS G xs b ++ [(m.first * (G.B : Int), ((b : Int) - G.F + 1) * (G.B : Int))]).length = (runS G xs b).length + 1 := by simp
            have hown6 : w5.ownsRow w.heap.size 84 2 v5 (runS G xs b ++ [(m.first * (G.B : Int), ((b : Int) - G.F + 1) * (G.B : Int))]).length (sgv (runS G xs b ++ [(m.first * (G.B : Int), ((b : Int) - G.F + 1) * (G.B : Int))])) := by rw [hlen5, sgv_app]; exact hown5
            have hb5 : Below w.heap.size w w5 := (hbel2.alloc hbel2.size _).grown hg5 (by simp; omega) hrow.out
            have hg5b : Blk w5 w.heap.size 65 #[.int .i64 G.B, .int .i64 G.H, .int .i64 G.L, .int .i64 G.R, .int .i64 G.F, .int .i64 G.D, .int .i64 G.X] := (hgb2.alloc _).grown hg5 (fun ee => by have h9 := hown2.2; rcases h9 with ⟨h9, _⟩ | ⟨gx, cx, cux, h9, _, h10, _⟩ <;> rw [h9] at ee <;> simp [Value.ownBlock] at ee; rw [← ee] at h10; have := Blk.ne_ty hgb2 h10 (by decide); exact this)
            have R' := Lib.hid (hstep.out _ _ hw1.out hw2.out v5 w5 hown6 hb5 hg5b (by have := hg5.size; simp at this; omega))
            clear hown5 hlen5 hown6
            go_wp2
            go_roundw
            case rel => exact ⟨b + 1, v5, _, R'.out⟩
            case measure => simp [intOf]; omega
          · have hFb : ((m.run + 1) == G.F) = false := beq_eq_false_iff_ne.2 hF
            by_cases hX : (b : Int) + 1 - m.first = G.X
            · have hfe : fend G b true m = (b : Int) + 1 := by unfold fend; rw [if_neg (show ¬ frun true m = G.F from hF), if_pos hX]
              have h0 : 0 ≤ (b : Int) + 1 := by omega
              have hXb : ((b : Int) + 1 - m.first == G.X) = true := beq_iff_eq.2 hX
              have hw := st_end (b := (b : Int)) hsp hq hfe h0
              have hw1 := Lib.hid hw.1
              have hw2 := Lib.hid hw.2
              have heB := mul_bd (a := (G.B : Int)) (b := (b : Int) + 1) (m := 4096) (q := 200001) (by omega) (by omega) (by omega) (by omega) (by omega)
              rw [Int.mul_comm (G.B : Int) ((b : Int) + 1)] at heB
              have heB1 := heB.1
              have heB2 := heB.2
              clear hw hsp hfe hF hq hlo heB hX
              go_wp2_with (at_builtin; refine wpList_append_own _ rfl (.tmp 92) (.tmp 102) 66 rfl w.heap.size 84 i0 (.agg #[.int .i64 0, .int .i64 0]) 2 16 Try.underlying66 hi hz0 hz1 hz2 rfl (by decide) V (runS G xs b).length (sgv (runS G xs b)) rfl (hown2.alloc _) ⟨w3.heap.size, 0, none⟩ 1 1 [.int .i64 (m.first * (G.B : Int)), .int .i64 (((b : Int) + 1) * (G.B : Int))] rfl rfl (news_seg _ _ _) (oneCell2 _ _) ?pb3 ?pb4 ?pb5 ?_)
              case pb3 => unfold maxLen; omega
              case pb4 => omega
              case pb5 => simp; omega
              intro v5 w5 hown5 hg5 _
              have hrow := Lib.hid (fun k (hk : V.ownBlock = some k) => (hown2.lt k hk).1)
              have hlen5 : (runS G xs b ++ [(m.first * (G.B : Int), ((b : Int) + 1) * (G.B : Int))]).length = (runS G xs b).length + 1 := by simp
              have hown6 : w5.ownsRow w.heap.size 84 2 v5 (runS G xs b ++ [(m.first * (G.B : Int), ((b : Int) + 1) * (G.B : Int))]).length (sgv (runS G xs b ++ [(m.first * (G.B : Int), ((b : Int) + 1) * (G.B : Int))])) := by rw [hlen5, sgv_app]; exact hown5
              have hb5 : Below w.heap.size w w5 := (hbel2.alloc hbel2.size _).grown hg5 (by simp; omega) hrow.out
              have hg5b : Blk w5 w.heap.size 65 #[.int .i64 G.B, .int .i64 G.H, .int .i64 G.L, .int .i64 G.R, .int .i64 G.F, .int .i64 G.D, .int .i64 G.X] := (hgb2.alloc _).grown hg5 (fun ee => by have h9 := hown2.2; rcases h9 with ⟨h9, _⟩ | ⟨gx, cx, cux, h9, _, h10, _⟩ <;> rw [h9] at ee <;> simp [Value.ownBlock] at ee; rw [← ee] at h10; have := Blk.ne_ty hgb2 h10 (by decide); exact this)
              have R' := Lib.hid (hstep.out _ _ hw1.out hw2.out v5 w5 hown6 hb5 hg5b (by have := hg5.size; simp at this; omega))
              clear hown5 hlen5 hown6
              go_wp2
              go_roundw
              case rel => exact ⟨b + 1, v5, _, R'.out⟩
              case measure => simp [intOf]; omega
            · have hfe : fend G b true m = -1 := by unfold fend; rw [if_neg (show ¬ frun true m = G.F from hF), if_neg hX]
              have hXb : ((b : Int) + 1 - m.first == G.X) = false := beq_eq_false_iff_ne.2 hX
              have hw := st_on (b := (b : Int)) hsp hq hfe
              have R := hstep.out _ _ hw.1 hw.2 V w3 hnil hbel2 hgb2 hbg2
              have R' := Lib.hid R
              clear hw R hsp hfe hX hF hq hlo
              go_wp2
              go_roundw
              case rel => exact ⟨b + 1, V, _, R'.out⟩
              case measure => simp [intOf]; omega
        · have hq := decide_eq_false hlo
          have hql : decide (G.L * (G.B : Int) ≤ E) = true := decide_eq_true (by omega)
          have hF : ¬ (0 : Int) = G.F := by omega
          have hFb : ((0 : Int) == G.F) = false := beq_eq_false_iff_ne.2 hF
          by_cases hX : (b : Int) + 1 - m.first = G.X
          · have hfe : fend G b false m = (b : Int) + 1 := by unfold fend; rw [if_neg (show ¬ frun false m = G.F from hF), if_pos hX]
            have h0 : 0 ≤ (b : Int) + 1 := by omega
            have hXb : ((b : Int) + 1 - m.first == G.X) = true := beq_iff_eq.2 hX
            have hw := st_end (b := (b : Int)) hsp hq hfe h0
            have hw1 := Lib.hid hw.1
            have hw2 := Lib.hid hw.2
            have heB := mul_bd (a := (G.B : Int)) (b := (b : Int) + 1) (m := 4096) (q := 200001) (by omega) (by omega) (by omega) (by omega) (by omega)
            rw [Int.mul_comm (G.B : Int) ((b : Int) + 1)] at heB
            have heB1 := heB.1
            have heB2 := heB.2
            clear hw hsp hfe hF hq hlo heB hX
            go_wp2_with (at_builtin; refine wpList_append_own _ rfl (.tmp 92) (.tmp 102) 66 rfl w.heap.size 84 i0 (.agg #[.int .i64 0, .int .i64 0]) 2 16 Try.underlying66 hi hz0 hz1 hz2 rfl (by decide) V (runS G xs b).length (sgv (runS G xs b)) rfl (hown2.alloc _) ⟨w3.heap.size, 0, none⟩ 1 1 [.int .i64 (m.first * (G.B : Int)), .int .i64 (((b : Int) + 1) * (G.B : Int))] rfl rfl (news_seg _ _ _) (oneCell2 _ _) ?pc3 ?pc4 ?pc5 ?_)
            case pc3 => unfold maxLen; omega
            case pc4 => omega
            case pc5 => simp; omega
            intro v5 w5 hown5 hg5 _
            have hrow := Lib.hid (fun k (hk : V.ownBlock = some k) => (hown2.lt k hk).1)
            have hlen5 : (runS G xs b ++ [(m.first * (G.B : Int), ((b : Int) + 1) * (G.B : Int))]).length = (runS G xs b).length + 1 := by simp
            have hown6 : w5.ownsRow w.heap.size 84 2 v5 (runS G xs b ++ [(m.first * (G.B : Int), ((b : Int) + 1) * (G.B : Int))]).length (sgv (runS G xs b ++ [(m.first * (G.B : Int), ((b : Int) + 1) * (G.B : Int))])) := by rw [hlen5, sgv_app]; exact hown5
            have hb5 : Below w.heap.size w w5 := (hbel2.alloc hbel2.size _).grown hg5 (by simp; omega) hrow.out
            have hg5b : Blk w5 w.heap.size 65 #[.int .i64 G.B, .int .i64 G.H, .int .i64 G.L, .int .i64 G.R, .int .i64 G.F, .int .i64 G.D, .int .i64 G.X] := (hgb2.alloc _).grown hg5 (fun ee => by have h9 := hown2.2; rcases h9 with ⟨h9, _⟩ | ⟨gx, cx, cux, h9, _, h10, _⟩ <;> rw [h9] at ee <;> simp [Value.ownBlock] at ee; rw [← ee] at h10; have := Blk.ne_ty hgb2 h10 (by decide); exact this)
            have R' := Lib.hid (hstep.out _ _ hw1.out hw2.out v5 w5 hown6 hb5 hg5b (by have := hg5.size; simp at this; omega))
            clear hown5 hlen5 hown6
            go_wp2
            go_roundw
            case rel => exact ⟨b + 1, v5, _, R'.out⟩
            case measure => simp [intOf]; omega
          · have hfe : fend G b false m = -1 := by unfold fend; rw [if_neg (show ¬ frun false m = G.F from hF), if_neg hX]
            have hXb : ((b : Int) + 1 - m.first == G.X) = false := beq_eq_false_iff_ne.2 hX
            have hw := st_on (b := (b : Int)) hsp hq hfe
            have R := hstep.out _ _ hw.1 hw.2 V w3 hnil hbel2 hgb2 hbg2
            have R' := Lib.hid R
            clear hw R hsp hfe hX hF hq hlo
            go_wp2
            go_roundw
            case rel => exact ⟨b + 1, V, _, R'.out⟩
            case measure => simp [intOf]; omega

    · have hbq : b = xs.length / G.B := by
        rw [hl.out]
        have h1 := ho'.out
        symm
        rw [Nat.div_eq_iff (by omega)]
        rw [h1]; omega
      have hmE : Hid (endM G xs = m) := by show _ = _; unfold endM; rw [← hbq]; exact hm.out
      have hsE : Hid (segs G xs = runS G xs b) := by show _ = _; unfold segs; rw [← hbq]
      have hlti : ¬ (o : Int) + (G.B : Int) ≤ (n : Int) := by omega
      have hltd : decide ((o : Int) + (G.B : Int) ≤ (n : Int)) = false := decide_eq_false hlti
      have hown2 := hown
      have hbel2 := hbel
      obtain ⟨w3, rfl⟩ : ∃ w3 : World, w3 = wr := ⟨_, rfl⟩
      clear hbq
      have hmB := mul_bd (a := (G.B : Int)) (b := m.first) (m := 4096) (q := 200000) (by omega) (by omega) (by omega) (by omega) (by omega)
      rw [Int.mul_comm (G.B : Int) m.first] at hmB
      have hmB1 := hmB.1
      have hmB2 := hmB.2
      clear hmB hlti
      have hxl2 := hl.out
      have hxl := Lib.hid hxl2
      clear hxl2
      cases cl with
      | false =>
        go_wp2
        go_ret2
        exact ⟨V, by rw [hmE.out]; rfl, by rw [show rsg false G xs = segs G xs from rfl, hsE.out]; exact hown, hbel⟩
      | true =>
        cases hsp : m.sp with
        | false =>
          have hls := Lib.hid (lastS_wait (G := G) (all := xs) (by rw [hmE.out]; exact hsp))
          go_wp2
          go_ret2
          exact ⟨V, by rw [hmE.out, hsp]; rfl, by rw [show rsg true G xs = segs G xs ++ lastS G xs from rfl, hsE.out, hls.out, List.append_nil]; exact hown, hbel⟩
        | true =>
          have hls := Lib.hid (show lastS G xs = [(m.first * (G.B : Int), (n : Int))] by rw [lastS_speech (by rw [hmE.out]; exact hsp), hmE.out, hl.out])
          have hsp' := Lib.hid hsp
          clear hsp
          go_wp2_with (at_builtin; refine wpList_append_own _ rfl (.tmp 109) (.tmp 117) 66 rfl w.heap.size 84 i0 (.agg #[.int .i64 0, .int .i64 0]) 2 16 Try.underlying66 hi hz0 hz1 hz2 rfl (by decide) V (runS G xs b).length (sgv (runS G xs b)) rfl (hown2.alloc _) ⟨w3.heap.size, 0, none⟩ 1 1 [.int .i64 (m.first * (G.B : Int)), .int .i64 ((n : Int))] rfl rfl (news_seg _ _ _) (oneCell2 _ _) ?pz3 ?pz4 ?pz5 ?_)
          case pz3 => unfold maxLen; omega
          case pz4 => omega
          case pz5 => simp; omega
          intro v5 w5 hown5 hg5 _
          have hrow := Lib.hid (fun k (hk : V.ownBlock = some k) => (hown2.lt k hk).1)
          have hlen5 : (runS G xs b ++ [(m.first * (G.B : Int), (n : Int))]).length = (runS G xs b).length + 1 := by simp
          have hown6 : w5.ownsRow w.heap.size 84 2 v5 (runS G xs b ++ [(m.first * (G.B : Int), (n : Int))]).length (sgv (runS G xs b ++ [(m.first * (G.B : Int), (n : Int))])) := by rw [hlen5, sgv_app]; exact hown5
          have hb5 : Below w.heap.size w w5 := (hbel2.alloc hbel2.size _).grown hg5 (by simp; omega) hrow.out
          go_wp2
          go_ret2
          exact ⟨v5, by rw [hmE.out, hsp'.out]; rfl, by rw [show rsg true G xs = segs G xs ++ lastS G xs from rfl, hsE.out, hls.out]; exact hown6, hb5⟩
end Go.Proofs.Ytobobbhifajhmaa
