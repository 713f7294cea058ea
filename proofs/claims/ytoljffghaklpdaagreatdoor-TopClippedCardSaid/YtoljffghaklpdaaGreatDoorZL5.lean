/- A listener is fed. -/
import Derived.Test.YtoljffghaklpdaaGreatDoorHM
import Derived.Test.YtoljffghaklpdaaGreatDoorJA
import Derived.Test.YtoljffghaklpdaaGreatDoorZL1
import Derived.Deep.LoopGhost
import Derived.Deep.DeepCutAuto
namespace Go.Proofs.YtoljffghaklpdaaGreatDoor
open Go.RowKit

/-- segments as cells -/
def sgv (ps : List (Int × Int)) : List Value := ps.flatMap fun p => [.int .i64 p.1, .int .i64 p.2]
theorem sgv_len (ps : List (Int × Int)) : (sgv ps).length = ps.length * 2 := by
  induction ps with
  | nil => rfl
  | cons p ps ih => simp only [sgv, List.flatMap_cons, List.length_append, List.length_cons, List.length_nil] at ih ⊢; omega
theorem sgv_app (ps qs : List (Int × Int)) : sgv (ps ++ qs) = sgv ps ++ sgv qs := by simp [sgv]
theorem oneCell_sgv (ps : List (Int × Int)) : ∀ u ∈ sgv ps, u.oneCell' = true := by
  intro u hu
  simp only [sgv, List.mem_flatMap] at hu
  obtain ⟨p, _, hp⟩ := hu
  simp at hp
  rcases hp with rfl | rfl <;> rfl

theorem hearS_cases (G : Gt) (b E : Int) (m : Ms) : hearS G b E m = [] ∨ ∃ s t, hearS G b E m = [(s, t)] := by
  unfold hearS
  split
  · split
    · exact .inl rfl
    · exact .inr ⟨_, _, rfl⟩
  · exact .inl rfl

/-- blocks g and gr hold a listener that has heard all samples -/
structure Lis (w : World) (g gr : Nat) (G : Gt) (all : List Int) : Prop where
  lb : LB w g G (endM G all).st (.slice (some ⟨gr, 0, none⟩) (2 * G.B) (2 * G.B)) (all.length : Int) (endM G all).run (endM G all).first (endM G all).last
  ring : ∃ rs, Mk w gr 3 .i64 rs ∧ rs.length = 2 * G.B ∧ (rs.drop (all.length / G.B % 2 * G.B)).take (all.length % G.B) = all.drop (all.length / G.B * G.B)
  ne : gr ≠ g
  ok : ∀ x ∈ all, -32768 ≤ x ∧ x ≤ 32767
  top : all.length ≤ 2147483648
theorem Lis.drewN {w : World} {g gr : Nat} {G : Gt} {all : List Int} (h : Lis w g gr G all) (n : Nat) : Lis (w.drewN n) g gr G all :=
  ⟨h.lb, h.ring, h.ne, h.ok, h.top⟩

/-- what fill leaves, before the block is heard -/
structure Mid (w : World) (g gr : Nat) (G : Gt) (all ys : List Int) : Prop where
  lb : LB w g G (endM G all).st (.slice (some ⟨gr, 0, none⟩) (2 * G.B) (2 * G.B)) ((all ++ ys).length : Int) (endM G all).run (endM G all).first (endM G all).last
  ring : ∃ rs, Mk w gr 3 .i64 rs ∧ rs.length = 2 * G.B ∧ (rs.drop (all.length / G.B % 2 * G.B)).take (all.length % G.B + ys.length) = all.drop (all.length / G.B * G.B) ++ ys
  ne : gr ≠ g
  ok : ∀ x ∈ all ++ ys, -32768 ≤ x ∧ x ≤ 32767
  top : (all ++ ys).length ≤ 2147483648
theorem Mid.drewN {w : World} {g gr : Nat} {G : Gt} {all ys : List Int} (h : Mid w g gr G all ys) (n : Nat) : Mid (w.drewN n) g gr G all ys :=
  ⟨h.lb, h.ring, h.ne, h.ok, h.top⟩

theorem Lis.alloc {w : World} {g gr : Nat} {G : Gt} {all : List Int} (h : Lis w g gr G all) (o : Obj) : Lis (w.alloc o) g gr G all :=
  ⟨Blk.alloc h.lb o, by obtain ⟨rs, hR, h2⟩ := h.ring; exact ⟨rs, hR.alloc o, h2⟩, h.ne, h.ok, h.top⟩
theorem Mid.alloc {w : World} {g gr : Nat} {G : Gt} {all ys : List Int} (h : Mid w g gr G all ys) (o : Obj) : Mid (w.alloc o) g gr G all ys :=
  ⟨Blk.alloc h.lb o, by obtain ⟨rs, hR, h2⟩ := h.ring; exact ⟨rs, hR.alloc o, h2⟩, h.ne, h.ok, h.top⟩
theorem Lis.far {w : World} {g gr : Nat} {G : Gt} {all : List Int} (h : Lis w g gr G all) {p : Addr} (h1 : g ≠ p.block) (h2 : gr ≠ p.block) (u : Value) : Lis (w.setCell p u) g gr G all :=
  ⟨Blk.far h.lb h1 u, by obtain ⟨rs, hR, h3⟩ := h.ring; exact ⟨rs, hR.far h2 u, h3⟩, h.ne, h.ok, h.top⟩
theorem Lis.lt {w : World} {g gr : Nat} {G : Gt} {all : List Int} (h : Lis w g gr G all) : g < w.heap.size ∧ gr < w.heap.size := ⟨Blk.lt h.lb, by obtain ⟨rs, hR, _⟩ := h.ring; exact hR.lt⟩

theorem ob_le {b B : Nat} : b % 2 * B + B ≤ 2 * B := by
  rcases (show b % 2 = 0 ∨ b % 2 = 1 by omega) with e | e <;> rw [e] <;> omega

set_option maxHeartbeats 400000 in
theorem fill_lis (g gr : Nat) (A : Option Addr) (n c : Nat) (xs all : List Int) (w : World) (G : Gt) (hG : G.Ok) (h : Lis w g gr G all) (hS : Sl .i64 w A n c xs) (hn : 0 < n)
    (hx : ∀ x ∈ xs, -32768 ≤ x ∧ x ≤ 32767) (htop : all.length + n ≤ 2147483648) :
    Calls Tryz.prog 145 #[.pointer (some ⟨g, 0, none⟩), .slice A n c] w fun e w' => e = .returned (.int .i64 ((min n (G.B - all.length % G.B) : Nat) : Int)) ∧ Mid w' g gr G all (xs.take (min n (G.B - all.length % G.B))) ∧ Two g gr w w' := by
  obtain ⟨rs, hR, hrl, hpart⟩ := h.ring
  refine (fill_any g gr all.length A n c xs w G hG _ _ _ _ rs h.top h.lb hR h.ne hrl hS hn (by omega)).mono fun e w' ⟨he, hF⟩ => ⟨he, ?_, hF.two⟩
  have hb1 := hG.b1
  have hp := Nat.mod_lt all.length (show 0 < G.B by omega)
  have hob := @ob_le (all.length / G.B) G.B
  generalize ht : min n (G.B - all.length % G.B) = t at *
  have hl : (xs.take t).length = t := by rw [List.length_take, hS.len]; omega
  refine ⟨?_, ⟨_, hF.ring, ?_, ?_⟩, h.ne, ?_, ?_⟩
  · rw [List.length_append, hl]; exact hF.lb
  · rw [spl_len (by rw [hl, hrl]; omega), hrl]
  · rw [spl_part (by rw [hl, hrl]; omega), hpart]
  · intro x hx2
    rcases List.mem_append.1 hx2 with h2 | h2
    · exact h.ok x h2
    · exact hx x (List.mem_of_mem_take h2)
  · rw [List.length_append, hl]; omega

/-- no block is complete -/
theorem Mid.lis {w : World} {g gr : Nat} {G : Gt} {all ys : List Int} (h : Mid w g gr G all ys) (hG : G.Ok) (hlt : all.length % G.B + ys.length < G.B) :
    Lis w g gr G (all ++ ys) ∧ segs G (all ++ ys) = segs G all := by
  have hb1 := hG.b1
  have hd := Nat.div_add_mod all.length G.B
  have e1 : (all.length + ys.length) / G.B = all.length / G.B := by
    rw [show all.length + ys.length = (all.length % G.B + ys.length) + G.B * (all.length / G.B) by omega, Nat.add_mul_div_left _ _ (by omega), Nat.div_eq_of_lt hlt, Nat.zero_add]
  have e2 : (all.length + ys.length) % G.B = all.length % G.B + ys.length := by
    rw [show all.length + ys.length = (all.length % G.B + ys.length) + G.B * (all.length / G.B) by omega, Nat.add_mul_mod_self_left, Nat.mod_eq_of_lt hlt]
  have hs := seg_same (ys := ys) e1
  refine ⟨⟨?_, ?_, h.ne, h.ok, h.top⟩, hs.2⟩
  · rw [hs.1]; exact h.lb
  · obtain ⟨rs, hR, hrl, hpart⟩ := h.ring
    refine ⟨rs, hR, hrl, ?_⟩
    rw [List.length_append, e1, e2, hpart, List.drop_append_of_le_length]
    exact Nat.div_mul_le_self _ _

set_option maxHeartbeats 400000 in
/-- a block is complete: it is heard -/
theorem hear_lis (g gr b : Nat) (all ys : List Int) (w : World) (G : Gt) (hG : G.Ok) (h : Mid w g gr G all ys) (hlt : all.length % G.B + ys.length = G.B) (hb : b = all.length / G.B) :
    Calls Tryz.prog 146 #[.pointer (some ⟨g, 0, none⟩), .int .i64 (b : Int)] w fun e w' => e = .returned (heVal (hearS G b (eng (blk G (all ++ ys) b)) (endM G all))) ∧ Lis w' g gr G (all ++ ys) ∧ Two g gr w w' := by
  subst hb
  have hb1 := hG.b1
  have hd := Nat.div_add_mod all.length G.B
  obtain ⟨rs, hR, hrl, hpart⟩ := h.ring
  have hbl : all.length / G.B ≤ all.length := Nat.div_le_self _ _
  have htop := h.top
  rw [List.length_append] at htop
  have hle : all.length / G.B * G.B ≤ all.length := Nat.div_mul_le_self _ _
  have hstep := seg_step hG (ys := ys) (b := all.length / G.B) rfl (by rw [Nat.add_mul, Nat.one_mul, Nat.mul_comm (all.length / G.B) G.B]; omega)
  have hblk : (rs.drop (all.length / G.B % 2 * G.B)).take G.B = blk G (all ++ ys) (all.length / G.B) := by
    rw [hlt] at hpart
    rw [hpart]
    unfold blk
    rw [List.drop_append_of_le_length hle, List.take_of_length_le]
    rw [List.length_append, List.length_drop, Nat.mul_comm (all.length / G.B) G.B]; omega
  have hmem : ∀ y ∈ blk G (all ++ ys) (all.length / G.B), -32768 ≤ y ∧ y ≤ 32768 := fun y hy => by
    have := h.ok y (List.mem_of_mem_drop (List.mem_of_mem_take hy)); omega
  refine (hear_any g gr _ w G hG (endM G all) _ rs _ (runM_bd hG all _) (by omega) h.lb hR h.ne hrl hblk hmem).mono fun e w' ⟨he, hA⟩ => ⟨he, ⟨?_, ⟨rs, hA.ring, hrl, ?_⟩, h.ne, h.ok, h.top⟩, hA.two⟩
  · rw [hstep.1]; exact hA.lb
  · have e2 : (all ++ ys).length % G.B = 0 := by
      rw [List.length_append, show all.length + ys.length = G.B * (all.length / G.B + 1) by rw [Nat.mul_add]; omega]
      exact Nat.mul_mod_right _ _
    have e3 : (all ++ ys).length / G.B * G.B = (all ++ ys).length := by have := Nat.div_add_mod (all ++ ys).length G.B; rw [Nat.mul_comm] at this; omega
    rw [e2, e3, List.take_zero, List.drop_length]
end Go.Proofs.YtoljffghaklpdaaGreatDoor


/- A listener is fed: the loop. -/
namespace Go.Proofs.YtoljffghaklpdaaGreatDoor
open Go.RowKit

def slen : Value → Nat
  | .slice _ n _ => n
  | _ => 0
theorem info_seg : (Tryz.prog.info? 61).map (fun i => (i.zero, i.size, i.bytes)) = some (some (.agg #[.int .i64 0, .int .i64 0]), 2, 16) := by kernel_rfl

theorem Mid.stA {m : Ms} : m.st = 1 ∨ m.st = 2 := by unfold Ms.st; cases m.sp <;> simp

/-- at the head of a round: k samples are done -/
structure FeR (w : World) (g gr : Nat) (G : Gt) (n : Nat) (xs all : List Int) (xv ev : Value) (wr : World) (A : Option Addr) (n' c' k : Nat) (new : List (Int × Int)) (E : Value) : Prop where
  x : xv = .slice A n' c'
  e : E = ev
  sl : Sl .i64 wr A n' c' (xs.drop k)
  sum : n' + k = n
  own : wr.ownsRow w.heap.size 61 2 E new.length (sgv new)
  seg : Hid (segs G (all ++ xs.take k) = segs G all ++ new)
  lis : Lis wr g gr G (all ++ xs.take k)
  two : Two g gr w wr
  few : new.length ≤ k
  far : Hid (0 < n' → ∀ ad, A = some ad → (ad.block ≠ g ∧ ad.block ≠ gr) ∧ ad.block < w.heap.size)

theorem own_two {a b : World} {base e size n g gr : Nat} {v : Value} {xs : List Value} (h : a.ownsRow base e size v n xs) (hb : Two g gr a b) (h1 : g < base) (h2 : gr < base) : b.ownsRow base e size v n xs :=
  own_same h fun k hk hlt => hb.block k hlt (by omega) (by omega)

/-- what hear returns, in letters -/
theorem heVal_form (G : Gt) (b E : Int) (m : Ms) : ∃ q1 q2 ok, heVal (hearS G b E m) = .tuple #[.agg #[.int .i64 q1, .int .i64 q2], .bool ok] ∧ ((ok = false ∧ hearS G b E m = []) ∨ (ok = true ∧ hearS G b E m = [(q1, q2)])) := by
  rcases hearS_cases G b E m with h | ⟨s, t, h⟩
  · exact ⟨0, 0, false, by rw [h]; rfl, .inl ⟨rfl, h⟩⟩
  · exact ⟨s, t, true, by rw [h]; rfl, .inr ⟨rfl, h⟩⟩

theorem cell_set2 (w : World) (g : Nat) (q : Addr) (a b : Value) (h : q.block ≠ g) : ((w.setCell ⟨g, 0, none⟩ a).setCell ⟨g, 1, none⟩ b).cell? q = w.cell? q :=
  (World.cell?_setCell_other _ _ q b (fun e => h (by rw [← e]))).trans (World.cell?_setCell_other _ _ q a (fun e => h (by rw [← e])))

theorem two_grown {g gr : Nat} {w a b : World} {row : Option Nat} (h : Two g gr w a) (hb : a.grownBy b row) (hr : ∀ k, row = some k → w.heap.size ≤ k) : Two g gr w b :=
  ⟨hb.os.trans h.os, hb.tape.trans h.tape, hb.output.trans h.output, Nat.le_trans h.size hb.size, fun k hk h1 h2 => (hb.block k (Nat.lt_of_lt_of_le hk h.size) (fun e => by have := hr k e.symm; omega)).trans (h.block k hk h1 h2)⟩
theorem lis_same {a b : World} {g gr : Nat} {G : Gt} {all : List Int} (h : Lis a g gr G all) (h1 : b.heap[g]? = a.heap[g]?) (h2 : b.heap[gr]? = a.heap[gr]?) : Lis b g gr G all :=
  ⟨h1.trans h.lb, by obtain ⟨rs, hR, h3⟩ := h.ring; exact ⟨rs, h2.trans hR, h3⟩, h.ne, h.ok, h.top⟩
theorem sl_old {k : IntKind} {a b : World} {A : Option Addr} {n c B : Nat} {xs : List Int} (h : Sl k a A n c xs) (hb : ∀ j, j < B → b.heap[j]? = a.heap[j]?) (hA : 0 < n → ∀ ad, A = some ad → ad.block < B) : Sl k b A n c xs :=
  ⟨h.len, h.cap, h.top, fun hn => by
    obtain ⟨ad, e, hc⟩ := h.cell hn
    refine ⟨ad, e, fun j x hx => ?_⟩
    have h3 : b.heap[(ad.add j).block]? = a.heap[(ad.add j).block]? := by
      rw [block_of_add]; exact hb _ (hA hn ad e)
    exact (World.cell?_of_block h3).trans (hc j x hx)⟩
theorem news_two (w : World) (t : TypeId) (a b : Value) : ∀ j u, ([a, b] : List Value)[j]? = some u → (w.alloc (.cells #[a, b] t)).cell? ((⟨w.heap.size, 0, none⟩ : Addr).add j) = some u := by
  intro j u hu
  rw [add_new, (Blk.new w t #[a, b]).cell j]
  simpa using hu

theorem take_more {xs : List Int} {k t : Nat} (all : List Int) : all ++ xs.take (k + t) = (all ++ xs.take k) ++ (xs.drop k).take t := by
  rw [List.append_assoc, List.take_add]

theorem hear_at (g gr b : Nat) (iv : Int) (hiv : iv = (b : Int)) (all ys : List Int) (w : World) (G : Gt) (hG : G.Ok) (h : Mid w g gr G all ys) (hlt : all.length % G.B + ys.length = G.B) (hb : b = all.length / G.B)
    (l : List (Int × Int)) (hl : hearS G b (eng (blk G (all ++ ys) b)) (endM G all) = l) (v : Value) (hv : heVal l = v) :
    Calls Tryz.prog 146 #[.pointer (some ⟨g, 0, none⟩), .int .i64 iv] w fun e w' => e = .returned v ∧ Lis w' g gr G (all ++ ys) ∧ Two g gr w w' := by
  subst hiv hl hv
  exact hear_lis g gr b all ys w G hG h hlt hb

/-- all is done: nothing is left behind the samples that were put in -/
theorem fe_last {n k t : Nat} {xs all all2 : List Int} (hl : xs.length = n) (hsum : t + k = n) (hA : all ++ xs.take k = all2) : all2 ++ (xs.drop k).take t = all ++ xs := by
  rw [← hA, ← take_more, List.take_of_length_le (by omega)]
theorem tmod_nat {L B r : Nat} (h : L % B = r) : (L : Int).tmod (B : Int) = (r : Int) := by rw [← h, Int.tmod_eq_emod_of_nonneg (by omega), Int.natCast_emod]
theorem ediv_nat {L B r : Nat} (h : L / B = r) : (L : Int) / (B : Int) = (r : Int) := by rw [← h, Int.natCast_ediv]

set_option maxHeartbeats 4000000 in
set_option maxRecDepth 100000 in
theorem Feed_any (g gr : Nat) (A : Option Addr) (n c : Nat) (xs all : List Int) (w : World) (G : Gt) (hG : G.Ok) (h : Lis w g gr G all) (hS : Sl .i64 w A n c xs) (hn : n ≤ 200000)
    (hx : allB (-32768) 32767 xs = true) (htop : all.length + n ≤ 2147483648) (hfar : 0 < n → ∀ ad, A = some ad → ad.block ≠ g ∧ ad.block ≠ gr) :
    Calls Tryz.prog 93 #[.pointer (some ⟨g, 0, none⟩), .slice A n c] w fun e w' => ∃ v new, e = .returned (.tuple #[v, .int .i64 0]) ∧ w'.ownsRow w.heap.size 61 2 v new.length (sgv new) ∧ Hid (segs G (all ++ xs) = segs G all ++ new) ∧ Lis w' g gr G (all ++ xs) ∧ Two g gr w w' := by
  have hl := Lib.hid hS.len
  have hcap := hS.cap
  have hctop := hS.top
  have hck := Lib.hid (show chk (-32768) 32767 xs = 0 by unfold chk; rw [if_neg (by rw [hl.out]; omega), hx]; rfl)
  have hxo := Lib.hid (allB_mem hx)
  clear hx
  have hst := @Mid.stA (endM G all)
  have hlb := h.lb
  have c0 := hlb.c0
  have c7 := hlb.c7
  have c9 := hlb.c9
  have hs0 : decide ((endM G all).st = 0) = false := by rcases hst with e | e <;> rw [e] <;> rfl
  have hs3 : ((endM G all).st == 3) = false := by rcases hst with e | e <;> rw [e] <;> rfl
  have hgl := Blk.lt hlb
  have hgrl : gr < w.heap.size := by obtain ⟨rs, hR, _⟩ := h.ring; exact hR.lt
  have hatop := h.top
  have hroom : decide (2147483648 - (all.length : Int) < (n : Int)) = false := by simp; omega
  clear hst
  have hfar3 := Lib.hid (show 0 < n → ∀ ad, A = some ad → (ad.block ≠ g ∧ ad.block ≠ gr) ∧ ad.block < w.heap.size from fun h ad he => ⟨hfar h ad he, hS.blt h ad he⟩)
  clear hfar
  go_enter Tryz.func93, Tryz.ntmps93
  go_wp2_with fail
  refine (isMissing_any _ _ _ _ _ _ _ _ _ hlb).mono ?_
  rintro e w' ⟨rfl, rfl⟩
  go_wp2_with (go_at_call 142; refine (checkSamples_any _ _ _ _ _ hS).mono ?_; rintro e w' ⟨rfl, rfl⟩; rw [hck.out])
  clear c0 c7 c9 hs0 hs3 hroom
  go_loopw [1, 7] (fun xv ev wr => ∃ A' n' c' k new E, FeR w g gr G n xs all xv ev wr A' n' c' k new E) (fun xv _ _ => slen xv)
  case atStart => exact ⟨A, n, c, 0, [], _, rfl, rfl, hS, rfl, World.ownsRow_nil _ _ _ _, show _ = _ by simp, by simpa using h, Two.refl _ _ _, Nat.le_refl _, hfar3⟩
  case round =>
    obtain ⟨A', n', c', k, new, ev, rfl, rfl, hS', hsum, hown, hseg, hlis, htwo, hfew, hfar'⟩ := hrel
    have hcap' := hS'.cap
    have hctop' := hS'.top
    rcases Nat.eq_zero_or_pos n' with h0 | hpos
    · subst h0
      have hkn : k = n := by omega
      subst hkn
      go_wp2
      go_ret2
      rw [List.take_of_length_le (by rw [hl.out]; exact Nat.le_refl _)] at hseg hlis
      exact ⟨_, new, rfl, hown, hseg, hlis, htwo⟩
    · have hal : (all ++ xs.take k).length = all.length + k := by rw [List.length_append, List.length_take, hl.out]; omega
      generalize hA2 : all ++ xs.take k = all2 at *
      have hA2' := Lib.hid hA2
      clear hA2
      have hal' := Lib.hid hal
      have hbpos := hG.b1
      have hp := Nat.mod_lt all2.length (show 0 < G.B by omega)
      have hfill := fill_lis g gr A' n' c' (xs.drop k) all2 wr G hG hlis hS' hpos (fun x hx => hxo.out x (List.mem_of_mem_drop hx)) (by omega)
      have hd := Nat.div_add_mod all2.length G.B
      have hyl : ((xs.drop k).take (min n' (G.B - all2.length % G.B))).length = min n' (G.B - all2.length % G.B) := by rw [List.length_take, List.length_drop, hl.out]; omega
      generalize ht : min n' (G.B - all2.length % G.B) = t at *
      have htn : t ≤ n' := by omega
      have htp : all2.length % G.B + t ≤ G.B := by omega
      have ht0 : 0 < t := by omega
      have htd : t = n' ∨ all2.length % G.B + t = G.B := by omega
      clear ht
      have hcut : t ≤ c' := by omega
      have hsum' := Lib.hid hsum
      have hd' := Lib.hid hd
      have hyl' := Lib.hid hyl
      have htd' := Lib.hid htd
      clear hsum hd hyl hal htd
      by_cases hfull : all2.length % G.B + t = G.B
      · have hfull' := Lib.hid hfull
        clear hfull
        obtain ⟨L, hL⟩ : ∃ L, (all2 ++ (xs.drop k).take t).length = L := ⟨_, rfl⟩
        have hLe : L = G.B * (all2.length / G.B + 1) := by
          rw [← hL, List.length_append, hyl'.out, Nat.mul_add]; have := hd'.out; have := hfull'.out; omega
        obtain ⟨b1, hb1⟩ : ∃ b1, all2.length / G.B + 1 = b1 := ⟨_, rfl⟩
        have em := tmod_nat (L := L) (B := G.B) (r := 0) (by rw [hLe]; exact Nat.mul_mod_right _ _)
        have ed := ediv_nat (L := L) (B := G.B) (r := b1) (by rw [hLe, hb1]; exact Nat.mul_div_cancel_left _ (by omega))
        rw [Int.natCast_zero] at em
        have hbb : b1 ≤ 2147483649 := by have := Nat.div_le_self all2.length G.B; have := hlis.top; omega
        have hb0 : 0 < b1 := by rw [← hb1]; exact Nat.succ_pos _
        have hL' := Lib.hid hL
        have hb1' := Lib.hid hb1
        clear hL hLe hb1
        have hB0 : ¬ G.B = 0 := by omega
        have hstep := seg_step hG (xs := all2) (ys := (xs.drop k).take t) (b := b1 - 1) (by have := hb1'.out; omega) (by
          rw [hyl'.out, show b1 - 1 + 1 = all2.length / G.B + 1 by have := hb1'.out; omega, Nat.add_mul, Nat.one_mul, Nat.mul_comm]; have := hd'.out; have := hfull'.out; omega)
        have hseg2 := Lib.hid hstep.2
        clear hstep
        have htake := Lib.hid (take_more (xs := xs) (k := k) (t := t) all)
        have hhear := Lib.hid (fun w2 (hM : Mid w2 g gr G all2 ((xs.drop k).take t)) l hl v hv => hear_at g gr (b1 - 1) ((b1 : Int) - 1) (by omega) all2 ((xs.drop k).take t) w2 G hG hM (by rw [hyl'.out]; exact hfull'.out) (by have := hb1'.out; omega) l hl v hv)
        obtain ⟨q1, q2, okb, hqv, hqc⟩ := heVal_form G ((b1 - 1 : Nat) : Int) (eng (blk G (all2 ++ (xs.drop k).take t) (b1 - 1))) (endM G all2)
        have hqv := Lib.hid hqv
        have hcall := Lib.hid (fun w2 (hM : Mid w2 g gr G all2 ((xs.drop k).take t)) => hhear.out w2 hM _ rfl _ hqv.out)
        have hqc := Lib.hid hqc
        clear hhear
        rcases (show c' = t ∨ ¬ c' = t by omega) with hct | hct
        · have hnt : n' = t := by omega
          have hSc := hS'.cut htn
          rw [if_pos hct, List.drop_drop] at hSc
          subst hct
          subst hnt
          rw [Nat.sub_self] at hSc
          have hfar2 : Hid (0 < 0 → ∀ ad, A' = some ad → (ad.block ≠ g ∧ ad.block ≠ gr) ∧ ad.block < w.heap.size) := fun h => absurd h (Nat.lt_irrefl _)
          have hsum2 : Hid (0 + (k + n') = n) := by have := hsum'.out; show _ = _; omega
          go_wp2_with fail
          refine hfill.mono ?_
          rintro e w2 ⟨rfl, hM, hT2⟩
          have hMl := hM.lb
          rw [hL'.out] at hMl
          have c0 := hMl.c0
          have c9 := hMl.c9
          go_wp2
          go_quiet (fail)
          clear em c0 c9
          have hM3 := hM.drewN nq
          have hTw3 := hT2.drewN nq
          have hT3 := (htwo.trans hT2).drewN nq
          have hMl3 := hMl.drewN nq
          have hsz3 := hT3.size
          have hown3 := own_two hown hTw3 hgl hgrl
          have hSc3 := hTw3.sl hSc (fun h ad he => (hfar2.out h ad he).1)
          have hM3l : g < (w2.drewN nq).heap.size ∧ gr < (w2.drewN nq).heap.size := ⟨Blk.lt hM3.lb, by obtain ⟨rs, hR, _⟩ := hM3.ring; exact hR.lt⟩
          generalize w2.drewN nq = w3 at *
          have c0 := hMl3.c0
          have c9 := hMl3.c9
          have e1 : IntKind.i64.wrap (b1 : Int) = (b1 : Int) := IntWalk.i64_in _ (by omega)
          have e2 : IntKind.i64.wrap ((b1 : Int) - 1) = (b1 : Int) - 1 := IntWalk.i64_in _ (by omega)
          go_upto_region 14 with fail
          go_cut [8, 9] from 30 to 69 (fun sv kv wx => ∃ gs, sv = .pointer (some ⟨gs, 0, none⟩) ∧ kv = .bool okb ∧ Blk wx gs 61 #[.int .i64 q1, .int .i64 q2] ∧ Lis wx g gr G (all2 ++ (xs.drop k).take n') ∧ Two g gr w3 wx)
          case first =>
            have hlt3 := hM3l
            have hg3 : w3.heap.size ≠ g := by omega
            have hgr3 : w3.heap.size ≠ gr := by omega
            have hg3' : g ≠ w3.heap.size := by omega
            go_region_held3 (fun wx => wx.cell? ⟨g, 0, none⟩ = some (.int .i64 (G.B : Int)) ∧ wx.cell? ⟨g, 9, none⟩ = some (.int .i64 (L : Int))) (first | exact ⟨c0, c9⟩ | exact K5 | exact K8.out _ _ | go_keep)
              (first
                | (go_at_call 146; refine (hcall.out _ (hM3.drewN 1)).mono ?_; rintro e w4 ⟨rfl, hL4, hT4⟩; have hl4 := hL4.lb; rw [hL'.out] at hl4; have K5 : w4.cell? ⟨g, 0, none⟩ = some (.int .i64 (G.B : Int)) ∧ w4.cell? ⟨g, 9, none⟩ = some (.int .i64 (L : Int)) := ⟨hl4.c0, hl4.c9⟩; have tok1 : True := trivial)
                | (go_at_call 146; refine (hcall.out _ ((hM3.alloc (.cells #[.int .i64 0, .int .i64 0] 61)).drewN 1)).mono ?_; rintro e w4 ⟨rfl, hL4, hT4⟩; have hl4 := hL4.lb; rw [hL'.out] at hl4; have K5 : w4.cell? ⟨g, 0, none⟩ = some (.int .i64 (G.B : Int)) ∧ w4.cell? ⟨g, 9, none⟩ = some (.int .i64 (L : Int)) := ⟨hl4.c0, hl4.c9⟩; have P3 := hT4.blk ((Blk.new w3 61 #[.int .i64 0, .int .i64 0]).drewN 1) hg3 hgr3; have r0 := P3.cell 0; have r1 := P3.cell 1; have f0 := P3.frozen 0; have f1 := P3.frozen 1; have K8 := Lib.hid (show ∀ a b, ((w4.setCell ⟨w3.heap.size, 0, none⟩ a).setCell ⟨w3.heap.size, 1, none⟩ b).cell? ⟨g, 0, none⟩ = some (.int .i64 (G.B : Int)) ∧ ((w4.setCell ⟨w3.heap.size, 0, none⟩ a).setCell ⟨w3.heap.size, 1, none⟩ b).cell? ⟨g, 9, none⟩ = some (.int .i64 (L : Int)) from fun a b => ⟨(cell_set2 _ _ _ _ _ hg3').trans K5.1, (cell_set2 _ _ _ _ _ hg3').trans K5.2⟩); have tok2 : True := trivial))
            all_goals first
              | (have _t := tok1
                 go_wp2_with fail
                 go_meet
                 exact ⟨_, rfl, rfl, Blk.new _ _ _, hL4.alloc _, ((Two.refl g gr w3).drewN 1 |>.trans hT4).alloc _⟩)
              | (have _t := tok2
                 go_wp2_with fail
                 go_meet
                 exact ⟨_, rfl, rfl, (P3.set_ 0 _).set_ 1 _, (hL4.far (p := ⟨w3.heap.size, 0, none⟩) hg3' (fun e => hgr3 e.symm) _).far (p := ⟨w3.heap.size, 1, none⟩) hg3' (fun e => hgr3 e.symm) _, (((((Two.refl g gr w3).alloc _).drewN 1).trans hT4).setn (p := ⟨w3.heap.size, 0, none⟩) (Nat.le_refl _) _).setn (p := ⟨w3.heap.size, 1, none⟩) (Nat.le_refl _) _⟩)
          case rest =>
            obtain ⟨gs, rfl, rfl, hBs, hLc, hTc⟩ := hcut
            have hownc := own_two hown3 hTc hgl hgrl
            have hScc := hTc.sl hSc3 (fun h ad he => (hfar2.out h ad he).1)
            have hTwc := hT3.trans hTc
            have hms : slen (.slice A' 0 0) < slen (.slice A' n' n') := by have := hsum2.out; have := hsum'.out; show 0 < n'; omega
            have hkt : k + n' ≤ 200000 := by have := hsum2.out; omega
            have hAll : Hid (all2 ++ (xs.drop k).take n' = all ++ xs.take (k + n')) := by show _ = _; rw [htake.out, hA2'.out]
            have hSg : Hid (segs G (all ++ xs.take (k + n')) = segs G all ++ new ++ hearS G ((b1 - 1 : Nat) : Int) (eng (blk G (all2 ++ (xs.drop k).take n') (b1 - 1))) (endM G all2)) := by show _ = _; rw [← hAll.out, hseg2.out, hseg.out]
            have hLc2 : Lis wc g gr G (all ++ xs.take (k + n')) := by rw [← hAll.out]; exact hLc
            clear c0 c9 e1 e2 hLc
            have hms := Lib.hid hms
            cases okb with
            | false =>
              have hSg2 : Hid (segs G (all ++ xs.take (k + n')) = segs G all ++ new) := by
                show _ = _
                rcases hqc.out with ⟨_, h2⟩ | ⟨h1, _⟩
                · rw [hSg.out, h2, List.append_nil]
                · cases h1
              go_wp2
              go_roundw
              case rel => exact ⟨A', 0, 0, k + n', new, ev, rfl, rfl, hScc, hsum2.out, hownc, hSg2, hLc2, hTwc, by omega, hfar2⟩
              case measure => exact hms.out
            | true =>
              have hSg2 : Hid (segs G (all ++ xs.take (k + n')) = segs G all ++ (new ++ [(q1, q2)])) := by
                show _ = _
                rcases hqc.out with ⟨h1, _⟩ | ⟨_, h2⟩
                · cases h1
                · rw [hSg.out, h2, List.append_assoc]
              obtain ⟨i0, hi, hz0, hz1, hz2⟩ := info_parts info_seg
              have hb0 := hBs.cell 0
              have hb1 := hBs.cell 1
              go_wp2_with (at_builtin; refine wpList_append_own _ rfl (.tmp 66) (.tmp 68) 71 rfl w.heap.size 61 i0 (.agg #[.int .i64 0, .int .i64 0]) 2 16 Tryz.underlying71 hi hz0 hz1 hz2 rfl (by decide) ev new.length (sgv new) rfl (hownc.alloc _) ⟨wc.heap.size, 0, none⟩ 1 1 [.int .i64 q1, .int .i64 q2] rfl rfl ?k1 ?k2 ?k3 ?k4 ?k5 ?_)
              case k2 => exact ⟨rfl, rfl⟩
              case k3 => unfold maxLen; omega
              case k4 => omega
              case k5 => have := hTwc.size; simp; omega
              intro v1 w5 hown5 hg5 _
              have hrow : ∀ k, ev.ownBlock = some k → w.heap.size ≤ k := fun k hk => (hownc.lt k hk).1
              have hT5 := two_grown (hTwc.alloc (.cells #[.int .i64 q1, .int .i64 q2] 61)) hg5 hrow
              have hszc := hTwc.size
              have hold : ∀ j, j < w.heap.size → w5.heap[j]? = wc.heap[j]? := fun j hj =>
                (hg5.block j (by simp; omega) (fun e => by have := hrow j e.symm; omega)).trans (Below.heap_alloc wc _ j (by omega))
              have hL5 := lis_same hLc2 (hold g hgl) (hold gr hgrl)
              have hS5 := sl_old hScc hold (fun h ad he => (hfar2.out h ad he).2)
              have hlen5 : (new ++ [(q1, q2)]).length = new.length + 1 := by simp
              have hown6 : w5.ownsRow w.heap.size 61 2 v1 (new ++ [(q1, q2)]).length (sgv (new ++ [(q1, q2)])) := by rw [hlen5, sgv_app]; exact hown5
              have hfew5 : (new ++ [(q1, q2)]).length ≤ k + n' := by rw [hlen5]; omega
              clear hown5 hlen5 hold hrow hb0 hb1
              go_wp2
              go_roundw
              case rel => exact ⟨A', 0, 0, k + n', new ++ [(q1, q2)], v1, rfl, rfl, hS5, hsum2.out, hown6, hSg2, hL5, hT5, hfew5, hfar2⟩
              case measure => exact hms.out
        · have hSc := hS'.cut htn
          rw [if_neg hct, List.drop_drop] at hSc
          have hfar2 : Hid (0 < n' - t → ∀ ad, A'.map (fun x => x.add t) = some ad → (ad.block ≠ g ∧ ad.block ≠ gr) ∧ ad.block < w.heap.size) := fun h ad he => by
            obtain ⟨a1, h1, h2⟩ := Option.map_eq_some_iff.1 he
            have := hfar'.out hpos a1 h1
            rw [← h2, block_of_add]; exact this
          have hsum2 : Hid (n' - t + (k + t) = n) := by have := hsum'.out; show _ = _; omega
          go_wp2_with fail
          refine hfill.mono ?_
          rintro e w2 ⟨rfl, hM, hT2⟩
          have hMl := hM.lb
          rw [hL'.out] at hMl
          have c0 := hMl.c0
          have c9 := hMl.c9
          go_wp2
          go_quiet (fail)
          generalize n' - t = n2 at *
          generalize c' - t = c2 at *
          generalize Option.map (fun x => x.add t) A' = A2 at *
          clear em c0 c9
          have hM3 := hM.drewN nq
          have hTw3 := hT2.drewN nq
          have hT3 := (htwo.trans hT2).drewN nq
          have hMl3 := hMl.drewN nq
          have hsz3 := hT3.size
          have hown3 := own_two hown hTw3 hgl hgrl
          have hSc3 := hTw3.sl hSc (fun h ad he => (hfar2.out h ad he).1)
          have hM3l : g < (w2.drewN nq).heap.size ∧ gr < (w2.drewN nq).heap.size := ⟨Blk.lt hM3.lb, by obtain ⟨rs, hR, _⟩ := hM3.ring; exact hR.lt⟩
          generalize w2.drewN nq = w3 at *
          have c0 := hMl3.c0
          have c9 := hMl3.c9
          have e1 : IntKind.i64.wrap (b1 : Int) = (b1 : Int) := IntWalk.i64_in _ (by omega)
          have e2 : IntKind.i64.wrap ((b1 : Int) - 1) = (b1 : Int) - 1 := IntWalk.i64_in _ (by omega)
          go_upto_region 14 with fail
          go_cut [8, 9] from 30 to 69 (fun sv kv wx => ∃ gs, sv = .pointer (some ⟨gs, 0, none⟩) ∧ kv = .bool okb ∧ Blk wx gs 61 #[.int .i64 q1, .int .i64 q2] ∧ Lis wx g gr G (all2 ++ (xs.drop k).take t) ∧ Two g gr w3 wx)
          case first =>
            have hlt3 := hM3l
            have hg3 : w3.heap.size ≠ g := by omega
            have hgr3 : w3.heap.size ≠ gr := by omega
            have hg3' : g ≠ w3.heap.size := by omega
            go_region_held3 (fun wx => wx.cell? ⟨g, 0, none⟩ = some (.int .i64 (G.B : Int)) ∧ wx.cell? ⟨g, 9, none⟩ = some (.int .i64 (L : Int))) (first | exact ⟨c0, c9⟩ | exact K5 | exact K8.out _ _ | go_keep)
              (first
                | (go_at_call 146; refine (hcall.out _ (hM3.drewN 1)).mono ?_; rintro e w4 ⟨rfl, hL4, hT4⟩; have hl4 := hL4.lb; rw [hL'.out] at hl4; have K5 : w4.cell? ⟨g, 0, none⟩ = some (.int .i64 (G.B : Int)) ∧ w4.cell? ⟨g, 9, none⟩ = some (.int .i64 (L : Int)) := ⟨hl4.c0, hl4.c9⟩; have tok1 : True := trivial)
                | (go_at_call 146; refine (hcall.out _ ((hM3.alloc (.cells #[.int .i64 0, .int .i64 0] 61)).drewN 1)).mono ?_; rintro e w4 ⟨rfl, hL4, hT4⟩; have hl4 := hL4.lb; rw [hL'.out] at hl4; have K5 : w4.cell? ⟨g, 0, none⟩ = some (.int .i64 (G.B : Int)) ∧ w4.cell? ⟨g, 9, none⟩ = some (.int .i64 (L : Int)) := ⟨hl4.c0, hl4.c9⟩; have P3 := hT4.blk ((Blk.new w3 61 #[.int .i64 0, .int .i64 0]).drewN 1) hg3 hgr3; have r0 := P3.cell 0; have r1 := P3.cell 1; have f0 := P3.frozen 0; have f1 := P3.frozen 1; have K8 := Lib.hid (show ∀ a b, ((w4.setCell ⟨w3.heap.size, 0, none⟩ a).setCell ⟨w3.heap.size, 1, none⟩ b).cell? ⟨g, 0, none⟩ = some (.int .i64 (G.B : Int)) ∧ ((w4.setCell ⟨w3.heap.size, 0, none⟩ a).setCell ⟨w3.heap.size, 1, none⟩ b).cell? ⟨g, 9, none⟩ = some (.int .i64 (L : Int)) from fun a b => ⟨(cell_set2 _ _ _ _ _ hg3').trans K5.1, (cell_set2 _ _ _ _ _ hg3').trans K5.2⟩); have tok2 : True := trivial))
            all_goals first
              | (have _t := tok1
                 go_wp2_with fail
                 go_meet
                 exact ⟨_, rfl, rfl, Blk.new _ _ _, hL4.alloc _, ((Two.refl g gr w3).drewN 1 |>.trans hT4).alloc _⟩)
              | (have _t := tok2
                 go_wp2_with fail
                 go_meet
                 exact ⟨_, rfl, rfl, (P3.set_ 0 _).set_ 1 _, (hL4.far (p := ⟨w3.heap.size, 0, none⟩) hg3' (fun e => hgr3 e.symm) _).far (p := ⟨w3.heap.size, 1, none⟩) hg3' (fun e => hgr3 e.symm) _, (((((Two.refl g gr w3).alloc _).drewN 1).trans hT4).setn (p := ⟨w3.heap.size, 0, none⟩) (Nat.le_refl _) _).setn (p := ⟨w3.heap.size, 1, none⟩) (Nat.le_refl _) _⟩)
          case rest =>
            obtain ⟨gs, rfl, rfl, hBs, hLc, hTc⟩ := hcut
            have hownc := own_two hown3 hTc hgl hgrl
            have hScc := hTc.sl hSc3 (fun h ad he => (hfar2.out h ad he).1)
            have hTwc := hT3.trans hTc
            have hms : slen (.slice A2 n2 c2) < slen (.slice A' n' c') := by have := hsum2.out; have := hsum'.out; show n2 < n'; omega
            have hkt : k + t ≤ 200000 := by have := hsum2.out; omega
            have hAll : Hid (all2 ++ (xs.drop k).take t = all ++ xs.take (k + t)) := by show _ = _; rw [htake.out, hA2'.out]
            have hSg : Hid (segs G (all ++ xs.take (k + t)) = segs G all ++ new ++ hearS G ((b1 - 1 : Nat) : Int) (eng (blk G (all2 ++ (xs.drop k).take t) (b1 - 1))) (endM G all2)) := by show _ = _; rw [← hAll.out, hseg2.out, hseg.out]
            have hLc2 : Lis wc g gr G (all ++ xs.take (k + t)) := by rw [← hAll.out]; exact hLc
            clear c0 c9 e1 e2 hLc
            have hms := Lib.hid hms
            cases okb with
            | false =>
              have hSg2 : Hid (segs G (all ++ xs.take (k + t)) = segs G all ++ new) := by
                show _ = _
                rcases hqc.out with ⟨_, h2⟩ | ⟨h1, _⟩
                · rw [hSg.out, h2, List.append_nil]
                · cases h1
              go_wp2
              go_roundw
              case rel => exact ⟨A2, n2, c2, k + t, new, ev, rfl, rfl, hScc, hsum2.out, hownc, hSg2, hLc2, hTwc, by omega, hfar2⟩
              case measure => exact hms.out
            | true =>
              have hSg2 : Hid (segs G (all ++ xs.take (k + t)) = segs G all ++ (new ++ [(q1, q2)])) := by
                show _ = _
                rcases hqc.out with ⟨h1, _⟩ | ⟨_, h2⟩
                · cases h1
                · rw [hSg.out, h2, List.append_assoc]
              obtain ⟨i0, hi, hz0, hz1, hz2⟩ := info_parts info_seg
              have hb0 := hBs.cell 0
              have hb1 := hBs.cell 1
              go_wp2_with (at_builtin; refine wpList_append_own _ rfl (.tmp 66) (.tmp 68) 71 rfl w.heap.size 61 i0 (.agg #[.int .i64 0, .int .i64 0]) 2 16 Tryz.underlying71 hi hz0 hz1 hz2 rfl (by decide) ev new.length (sgv new) rfl (hownc.alloc _) ⟨wc.heap.size, 0, none⟩ 1 1 [.int .i64 q1, .int .i64 q2] rfl rfl ?mm1 ?mm2 ?mm3 ?mm4 ?mm5 ?_)
              case mm2 => exact ⟨rfl, rfl⟩
              case mm3 => unfold maxLen; omega
              case mm4 => omega
              case mm5 => have := hTwc.size; simp; omega
              intro v1 w5 hown5 hg5 _
              have hrow : ∀ k, ev.ownBlock = some k → w.heap.size ≤ k := fun k hk => (hownc.lt k hk).1
              have hT5 := two_grown (hTwc.alloc (.cells #[.int .i64 q1, .int .i64 q2] 61)) hg5 hrow
              have hszc := hTwc.size
              have hold : ∀ j, j < w.heap.size → w5.heap[j]? = wc.heap[j]? := fun j hj =>
                (hg5.block j (by simp; omega) (fun e => by have := hrow j e.symm; omega)).trans (Below.heap_alloc wc _ j (by omega))
              have hL5 := lis_same hLc2 (hold g hgl) (hold gr hgrl)
              have hS5 := sl_old hScc hold (fun h ad he => (hfar2.out h ad he).2)
              have hlen5 : (new ++ [(q1, q2)]).length = new.length + 1 := by simp
              have hown6 : w5.ownsRow w.heap.size 61 2 v1 (new ++ [(q1, q2)]).length (sgv (new ++ [(q1, q2)])) := by rw [hlen5, sgv_app]; exact hown5
              have hfew5 : (new ++ [(q1, q2)]).length ≤ k + t := by rw [hlen5]; omega
              clear hown5 hlen5 hold hrow hb0 hb1
              go_wp2
              go_roundw
              case rel => exact ⟨A2, n2, c2, k + t, new ++ [(q1, q2)], v1, rfl, rfl, hS5, hsum2.out, hown6, hSg2, hL5, hT5, hfew5, hfar2⟩
              case measure => exact hms.out
      · have htn' : t = n' := by have := htd'.out; omega
        have hnf := Lib.hid hfull
        clear hfull
        subst htn'
        obtain ⟨L, hL⟩ : ∃ L, (all2 ++ (xs.drop k).take t).length = L := ⟨_, rfl⟩
        obtain ⟨r, hr⟩ : ∃ r, all2.length % G.B + t = r := ⟨_, rfl⟩
        have hrB : r < G.B := by have := hnf.out; omega
        have hr0 : 0 < r := by omega
        have em := tmod_nat (L := L) (B := G.B) (r := r) (by
          rw [← hL, List.length_append, hyl'.out, ← hr, show all2.length + t = (all2.length % G.B + t) + G.B * (all2.length / G.B) by have := hd'.out; omega, Nat.add_mul_mod_self_left, Nat.mod_eq_of_lt (by omega)])
        have hB0 : ¬ G.B = 0 := by omega
        have hLis := fun w2 (hM : Mid w2 g gr G all2 ((xs.drop k).take t)) => hM.lis hG (by rw [hyl'.out, hr]; exact hrB)
        have hLis := Lib.hid hLis
        have hr' := Lib.hid hr
        have hL' := Lib.hid hL
        clear hr hL
        have hend : ∀ w2, Mid w2 g gr G all2 ((xs.drop k).take t) → Two g gr wr w2 → ∀ i, ∃ v new, Ending.returned (.tuple #[ev, .int .i64 0]) = .returned (.tuple #[v, .int .i64 0]) ∧ (w2.drewN i).ownsRow w.heap.size 61 2 v new.length (sgv new) ∧ Hid (segs G (all ++ xs) = segs G all ++ new) ∧ Lis (w2.drewN i) g gr G (all ++ xs) ∧ Two g gr w (w2.drewN i) := fun w2 hM hT i => by
          have h1 := hLis.out w2 hM
          have h2 := fe_last (all := all) hl.out hsum'.out hA2'.out
          rw [h2] at h1
          exact ⟨ev, new, rfl, own_two hown (hT.drewN i) hgl (by have := hgrl; omega), show _ = _ by rw [h1.2]; exact hseg.out, h1.1.drewN i, (htwo.trans hT).drewN i⟩
        have hend := Lib.hid hend
        rcases (show c' = t ∨ ¬ c' = t by omega) with hct | hct
        · subst hct
          go_wp2_with fail
          refine hfill.mono ?_
          rintro e w2 ⟨rfl, hM, hT2⟩
          have hMl := hM.lb
          rw [hL'.out] at hMl
          have c0 := hMl.c0
          have c9 := hMl.c9
          go_wp2
          go_quiet (fail)
          clear em c0 c9
          go_wp2
          go_ret2
          exact hend.out w2 hM hT2 _
        · go_wp2_with fail
          refine hfill.mono ?_
          rintro e w2 ⟨rfl, hM, hT2⟩
          have hMl := hM.lb
          rw [hL'.out] at hMl
          have c0 := hMl.c0
          have c9 := hMl.c9
          go_wp2
          go_quiet (fail)
          clear em c0 c9
          go_wp2
          go_ret2
          exact hend.out w2 hM hT2 _
end Go.Proofs.YtoljffghaklpdaaGreatDoor


/- A listener is made and closed. -/
namespace Go.Proofs.YtoljffghaklpdaaGreatDoor
open Go.RowKit

/-- is a gate as it has to be? -/
def gtB (b h l r f d x : Int) : Bool := okB 1 4096 b && okB 0 1073741824 h && okB 0 h l && okB 1 1000 r && okB 1 1000 f && okB 0 1000 d && okB (r + f + d) 100000 x
def gtV (b h l r f d x : Int) : Value := .agg #[.int .i64 b, .int .i64 h, .int .i64 l, .int .i64 r, .int .i64 f, .int .i64 d, .int .i64 x]

set_option maxHeartbeats 1600000 in
theorem validGate_any (b h l r f d x : Int) (w : World) :
    Calls Tryz.prog 143 #[gtV b h l r f d x] w fun e w' => e = .returned (.bool (gtB b h l r f d x)) ∧ Below w.heap.size w w' := by
  unfold gtV
  cases q0 : okB 1 4096 b with
  | false =>
    have hv := Lib.hid (show gtB b h l r f d x = false by unfold gtB; rw [q0]; rfl)
    go_enter Tryz.func143, Tryz.ntmps143
    go_wp2_with (go_at_call 51; refine (within_any _ _ _ _).mono ?_; rintro e w' ⟨rfl, rfl⟩)
    go_ret
    exact ⟨ret_bool hv.out.symm, (Below.refl _ _).alloc (Nat.le_refl _) _⟩
  | true =>
    cases q1 : okB 0 1073741824 h with
    | false =>
      have hv := Lib.hid (show gtB b h l r f d x = false by unfold gtB; rw [q0, q1]; rfl)
      go_enter Tryz.func143, Tryz.ntmps143
      go_wp2_with (go_at_call 51; refine (within_any _ _ _ _).mono ?_; rintro e w' ⟨rfl, rfl⟩)
      go_ret
      exact ⟨ret_bool hv.out.symm, (Below.refl _ _).alloc (Nat.le_refl _) _⟩
    | true =>
      cases q2 : okB 0 h l with
      | false =>
        have hv := Lib.hid (show gtB b h l r f d x = false by unfold gtB; rw [q0, q1, q2]; rfl)
        go_enter Tryz.func143, Tryz.ntmps143
        go_wp2_with (go_at_call 51; refine (within_any _ _ _ _).mono ?_; rintro e w' ⟨rfl, rfl⟩)
        go_ret
        exact ⟨ret_bool hv.out.symm, (Below.refl _ _).alloc (Nat.le_refl _) _⟩
      | true =>
        cases q3 : okB 1 1000 r with
        | false =>
          have hv := Lib.hid (show gtB b h l r f d x = false by unfold gtB; rw [q0, q1, q2, q3]; rfl)
          go_enter Tryz.func143, Tryz.ntmps143
          go_wp2_with (go_at_call 51; refine (within_any _ _ _ _).mono ?_; rintro e w' ⟨rfl, rfl⟩)
          go_ret
          exact ⟨ret_bool hv.out.symm, (Below.refl _ _).alloc (Nat.le_refl _) _⟩
        | true =>
          cases q4 : okB 1 1000 f with
          | false =>
            have hv := Lib.hid (show gtB b h l r f d x = false by unfold gtB; rw [q0, q1, q2, q3, q4]; rfl)
            go_enter Tryz.func143, Tryz.ntmps143
            go_wp2_with (go_at_call 51; refine (within_any _ _ _ _).mono ?_; rintro e w' ⟨rfl, rfl⟩)
            go_ret
            exact ⟨ret_bool hv.out.symm, (Below.refl _ _).alloc (Nat.le_refl _) _⟩
          | true =>
            cases q5 : okB 0 1000 d with
            | false =>
              have hv := Lib.hid (show gtB b h l r f d x = false by unfold gtB; rw [q0, q1, q2, q3, q4, q5]; rfl)
              go_enter Tryz.func143, Tryz.ntmps143
              go_wp2_with (go_at_call 51; refine (within_any _ _ _ _).mono ?_; rintro e w' ⟨rfl, rfl⟩)
              go_ret
              exact ⟨ret_bool hv.out.symm, (Below.refl _ _).alloc (Nat.le_refl _) _⟩
            | true =>
              cases q6 : okB (r + f + d) 100000 x with
              | false =>
                have hv := Lib.hid (show gtB b h l r f d x = false by unfold gtB; rw [q0, q1, q2, q3, q4, q5, q6]; rfl)
                have b4 := okB_iff.1 q3
                have b5 := okB_iff.1 q4
                have b6 := okB_iff.1 q5
                go_enter Tryz.func143, Tryz.ntmps143
                go_wp2_with (go_at_call 51; refine (within_any _ _ _ _).mono ?_; rintro e w' ⟨rfl, rfl⟩)
                go_ret
                exact ⟨ret_bool hv.out.symm, (Below.refl _ _).alloc (Nat.le_refl _) _⟩
              | true =>
                have hv := Lib.hid (show gtB b h l r f d x = true by unfold gtB; rw [q0, q1, q2, q3, q4, q5, q6]; rfl)
                have b4 := okB_iff.1 q3
                have b5 := okB_iff.1 q4
                have b6 := okB_iff.1 q5
                go_enter Tryz.func143, Tryz.ntmps143
                go_wp2_with (go_at_call 51; refine (within_any _ _ _ _).mono ?_; rintro e w' ⟨rfl, rfl⟩)
                go_ret
                exact ⟨ret_bool hv.out.symm, (Below.refl _ _).alloc (Nat.le_refl _) _⟩
end Go.Proofs.YtoljffghaklpdaaGreatDoor


/- A listener is made and closed. -/
namespace Go.Proofs.YtoljffghaklpdaaGreatDoor
open Go.RowKit

theorem gtB_ok {b h l r f d x : Int} (hv : gtB b h l r f d x = true) : ∃ G : Gt, G.Ok ∧ b = (G.B : Int) ∧ h = G.H ∧ l = G.L ∧ r = G.R ∧ f = G.F ∧ d = G.D ∧ x = G.X := by
  unfold gtB at hv
  simp only [Bool.and_eq_true, okB_iff] at hv
  obtain ⟨⟨⟨⟨⟨⟨h1, h2⟩, h3⟩, h4⟩, h5⟩, h6⟩, h7⟩ := hv
  exact ⟨⟨b.toNat, h, l, r, f, d, x⟩, ⟨by dsimp only; omega, by dsimp only; omega, h2.1, h2.2, h3.1, h3.2, h4.1, h4.2, h5.1, h5.2, h6.1, h6.2, h7.1, h7.2⟩, by dsimp only; omega, rfl, rfl, rfl, rfl, rfl, rfl⟩
def gval (G : Gt) : Value := gtV (G.B : Int) G.H G.L G.R G.F G.D G.X
theorem gtB_of {G : Gt} (hG : G.Ok) : gtB (G.B : Int) G.H G.L G.R G.F G.D G.X = true := by
  obtain ⟨h1, h2, h3, h4, h5, h6, h7, h8, h9, h10, h11, h12, h13, h14⟩ := hG
  unfold gtB
  simp only [Bool.and_eq_true, okB_iff]
  exact ⟨⟨⟨⟨⟨⟨⟨by omega, by omega⟩, h3, h4⟩, h5, h6⟩, h7, h8⟩, h9, h10⟩, h11, h12⟩, h13, h14⟩

theorem Lis.start {w : World} {g gr : Nat} {G : Gt} (hL : LB w g G 1 (.slice (some ⟨gr, 0, none⟩) (2 * G.B) (2 * G.B)) 0 0 0 0) (hR : Mk w gr 3 .i64 (zs (2 * G.B))) (hne : gr ≠ g) : Lis w g gr G [] := by
  have e : endM G [] = Ms.start := by unfold endM; rw [show ([] : List Int).length / G.B = 0 from Nat.zero_div _]; rfl
  exact ⟨by rw [e]; exact hL, ⟨_, hR, zs_len _, by simp⟩, hne, (fun x hx => absurd hx List.not_mem_nil), Nat.zero_le _⟩

set_option maxHeartbeats 1600000 in
theorem Listen_bad (b h l r f d x : Int) (w : World) (hv : gtB b h l r f d x = false) :
    Calls Tryz.prog 92 #[gtV b h l r f d x] w fun e w' => e = .returned (.tuple #[.pointer none, .int .i64 2]) ∧ Below w.heap.size w w' := by
  have hb0 := (Below.refl w.heap.size w).alloc (Nat.le_refl _) (.cells #[.int .i64 b, .int .i64 h, .int .i64 l, .int .i64 r, .int .i64 f, .int .i64 d, .int .i64 x] 66)
  have hvg := fun w => validGate_any b h l r f d x w
  unfold gtV at hvg ⊢
  rw [hv] at hvg
  have hvg := Lib.hid hvg
  go_enter Tryz.func92, Tryz.ntmps92
  go_wp2_with (go_at_call 143; refine (hvg.out _).mono ?_; rintro e w1 ⟨rfl, hb1⟩)
  go_ret2
  exact ⟨rfl, hb0.trans (hb1.mono hb0.size)⟩

set_option maxHeartbeats 1600000 in
set_option maxRecDepth 100000 in
theorem Listen_any (G : Gt) (hG : G.Ok) (w : World) :
    Calls Tryz.prog 92 #[gval G] w fun e w' => ∃ g gr, e = .returned (.tuple #[.pointer (some ⟨g, 0, none⟩), .int .i64 0]) ∧ Lis w' g gr G [] ∧ Below w.heap.size w w' ∧ w.heap.size ≤ g ∧ w.heap.size ≤ gr := by
  have hb0 := (Below.refl w.heap.size w).alloc (Nat.le_refl _) (.cells #[.int .i64 G.B, .int .i64 G.H, .int .i64 G.L, .int .i64 G.R, .int .i64 G.F, .int .i64 G.D, .int .i64 G.X] 66)
  have hB0 := Blk.new w 66 #[.int .i64 G.B, .int .i64 G.H, .int .i64 G.L, .int .i64 G.R, .int .i64 G.F, .int .i64 G.D, .int .i64 G.X]
  have hvg := fun w => validGate_any G.B G.H G.L G.R G.F G.D G.X w
  rw [gtB_of hG] at hvg
  have hb1 := hG.b1
  have hb2 := hG.b2
  unfold gval gtV at *
  have hvg := Lib.hid hvg
  have hmk : ∀ w : World, (Instr.makeSlice 28 (.int .i64 (2 * (G.B : Int))) (.int .i64 (2 * (G.B : Int)))).run Tryz.prog w = .ok (.slice (some ⟨w.heap.size, 0, none⟩) (2 * G.B) (2 * G.B)) (w.alloc (.cells (ivs .i64 (zs (2 * G.B))).toArray 3)) := fun w => by
    have := make_int (2 * G.B) (by omega) w
    rw [Int.natCast_mul] at this
    exact this
  go_enter Tryz.func92, Tryz.ntmps92
  go_wp2_with (go_at_call 143; refine (hvg.out _).mono ?_; rintro e w1 ⟨rfl, hb1⟩)
  have hB1 := hB0.below hb1
  have hbw := hb0.trans (hb1.mono hb0.size)
  have hsz := hB1.lt
  have c0 := hB1.cell 0
  have c1 := hB1.cell 1
  have c2 := hB1.cell 2
  have c3 := hB1.cell 3
  have c4 := hB1.cell 4
  have c5 := hB1.cell 5
  have c6 := hB1.cell 6
  have e1 : IntKind.i64.wrap (2 * (G.B : Int)) = 2 * (G.B : Int) := IntWalk.i64_in _ (by omega)
  go_region
  clear e1 c0 c1 c2 c3 c4 c5 c6 hmk
  go_wp2
  go_ret2
  refine ⟨_, _, rfl, Lis.start (Blk.drewN (by have := Blk.new (w1.alloc (.cells (ivs .i64 (zs (2 * G.B))).toArray 3)) 164 (lcs G 1 (.slice (some ⟨w1.heap.size, 0, none⟩) (2 * G.B) (2 * G.B)) 0 0 0 0); rw [show (w1.alloc (.cells (ivs .i64 (zs (2 * G.B))).toArray 3)).heap.size = w1.heap.size + 1 by simp] at this; exact this) 1) ((Mk.new w1 _ _ _).alloc _) (by omega), (bel_drewN ((hbw.alloc hbw.size _).alloc (by simp; have := hbw.size; omega) _) 1), by omega, by omega⟩

/-- the cells of a closed listener -/
def G0 : Gt := ⟨0, 0, 0, 0, 0, 0, 0⟩
def Closed (w : World) (g : Nat) (n : Nat) : Prop := LB w g G0 3 (.slice none 0 0) (n : Int) 0 0 0

theorem Close_nil (w : World) : Calls Tryz.prog 94 #[.pointer none] w fun e w' => e = .returned (.tuple #[.slice none 0 0, .int .i64 1]) ∧ w = w' := by
  go_enter Tryz.func94, Tryz.ntmps94
  go_wp2_with (go_at_call 144; refine (isMissing_nil _).mono ?_; rintro e w' ⟨rfl, rfl⟩)
  go_ret2
  exact ⟨rfl, rfl⟩
theorem Close_zero (g : Nat) (w : World) (G : Gt) (ring : Value) (arr run first last : Int) (h : LB w g G 0 ring arr run first last) :
    Calls Tryz.prog 94 #[.pointer (some ⟨g, 0, none⟩)] w fun e w' => e = .returned (.tuple #[.slice none 0 0, .int .i64 1]) ∧ w = w' := by
  go_enter Tryz.func94, Tryz.ntmps94
  go_wp2_with (go_at_call 144; refine (isMissing_any _ _ _ _ _ _ _ _ _ h).mono ?_; rintro e w' ⟨rfl, rfl⟩)
  go_ret2
  exact ⟨rfl, rfl⟩
theorem Close_closed (g : Nat) (w : World) (n : Nat) (h : Closed w g n) :
    Calls Tryz.prog 94 #[.pointer (some ⟨g, 0, none⟩)] w fun e w' => e = .returned (.tuple #[.slice none 0 0, .int .i64 8]) ∧ w = w' := by
  unfold Closed at h
  have c7 := h.c7
  go_enter Tryz.func94, Tryz.ntmps94
  go_wp2_with (go_at_call 144; refine (isMissing_any _ _ _ _ _ _ _ _ _ h).mono ?_; rintro e w' ⟨rfl, rfl⟩)
  go_ret2
  exact ⟨rfl, rfl⟩

theorem lastS_wait {G : Gt} {all : List Int} (h : (endM G all).sp = false) : lastS G all = [] := by unfold lastS; rw [h]; rfl
theorem lastS_speech {G : Gt} {all : List Int} (h : (endM G all).sp = true) : lastS G all = [((endM G all).first * G.B, (all.length : Int))] := by unfold lastS; rw [h]; rfl

theorem LB.s0 {w : World} {g : Nat} {G : Gt} {st arr run first last : Int} {ring : Value} (h : LB w g G st ring arr run first last) (v : Nat) : LB (w.setCell ⟨g, 0, none⟩ (.int .i64 (v : Int))) g ⟨v, G.H, G.L, G.R, G.F, G.D, G.X⟩ st ring arr run first last := Blk.set_ h 0 _
theorem LB.s1 {w : World} {g : Nat} {G : Gt} {st arr run first last : Int} {ring : Value} (h : LB w g G st ring arr run first last) (v : Int) : LB (w.setCell ⟨g, 1, none⟩ (.int .i64 v)) g ⟨G.B, v, G.L, G.R, G.F, G.D, G.X⟩ st ring arr run first last := Blk.set_ h 1 _
theorem LB.s2 {w : World} {g : Nat} {G : Gt} {st arr run first last : Int} {ring : Value} (h : LB w g G st ring arr run first last) (v : Int) : LB (w.setCell ⟨g, 2, none⟩ (.int .i64 v)) g ⟨G.B, G.H, v, G.R, G.F, G.D, G.X⟩ st ring arr run first last := Blk.set_ h 2 _
theorem LB.s3 {w : World} {g : Nat} {G : Gt} {st arr run first last : Int} {ring : Value} (h : LB w g G st ring arr run first last) (v : Int) : LB (w.setCell ⟨g, 3, none⟩ (.int .i64 v)) g ⟨G.B, G.H, G.L, v, G.F, G.D, G.X⟩ st ring arr run first last := Blk.set_ h 3 _
theorem LB.s4 {w : World} {g : Nat} {G : Gt} {st arr run first last : Int} {ring : Value} (h : LB w g G st ring arr run first last) (v : Int) : LB (w.setCell ⟨g, 4, none⟩ (.int .i64 v)) g ⟨G.B, G.H, G.L, G.R, v, G.D, G.X⟩ st ring arr run first last := Blk.set_ h 4 _
theorem LB.s5 {w : World} {g : Nat} {G : Gt} {st arr run first last : Int} {ring : Value} (h : LB w g G st ring arr run first last) (v : Int) : LB (w.setCell ⟨g, 5, none⟩ (.int .i64 v)) g ⟨G.B, G.H, G.L, G.R, G.F, v, G.X⟩ st ring arr run first last := Blk.set_ h 5 _
theorem LB.s6 {w : World} {g : Nat} {G : Gt} {st arr run first last : Int} {ring : Value} (h : LB w g G st ring arr run first last) (v : Int) : LB (w.setCell ⟨g, 6, none⟩ (.int .i64 v)) g ⟨G.B, G.H, G.L, G.R, G.F, G.D, v⟩ st ring arr run first last := Blk.set_ h 6 _
theorem LB.s8 {w : World} {g : Nat} {G : Gt} {st arr run first last : Int} {ring : Value} (h : LB w g G st ring arr run first last) (v : Value) : LB (w.setCell ⟨g, 8, none⟩ v) g G st v arr run first last := Blk.set_ h 8 _
/-- thirteen stores -/
theorem LB.all13 {w : World} {g : Nat} {G : Gt} {st arr run first last : Int} {ring : Value} (h : LB w g G st ring arr run first last) (n : Nat) :
    Closed (((((((((((((w.setCell ⟨g, 0, none⟩ (.int .i64 0)).setCell ⟨g, 1, none⟩ (.int .i64 0)).setCell ⟨g, 2, none⟩ (.int .i64 0)).setCell ⟨g, 3, none⟩ (.int .i64 0)).setCell ⟨g, 4, none⟩ (.int .i64 0)).setCell ⟨g, 5, none⟩ (.int .i64 0)).setCell ⟨g, 6, none⟩ (.int .i64 0)).setCell ⟨g, 7, none⟩ (.int .i64 3)).setCell ⟨g, 8, none⟩ (.slice none 0 0)).setCell ⟨g, 9, none⟩ (.int .i64 (n : Int))).setCell ⟨g, 10, none⟩ (.int .i64 0)).setCell ⟨g, 11, none⟩ (.int .i64 0)).setCell ⟨g, 12, none⟩ (.int .i64 0)) g n :=
  ((((((((((((h.s0 0).s1 0).s2 0).s3 0).s4 0).s5 0).s6 0).s7 3).s8 (.slice none 0 0)).s9 (n : Int)).s10 0).s11 0).s12 0

set_option maxHeartbeats 1600000 in
theorem Close_wait (g gr : Nat) (all : List Int) (w : World) (G : Gt) (h : Lis w g gr G all) (hs : (endM G all).sp = false) :
    Calls Tryz.prog 94 #[.pointer (some ⟨g, 0, none⟩)] w fun e w' => e = .returned (.tuple #[.slice none 0 0, .int .i64 0]) ∧ Closed w' g all.length ∧ Two g gr w w' := by
  have hst : (endM G all).st = 1 := by unfold Ms.st; rw [hs]; rfl
  have hlb := h.lb
  rw [hst] at hlb
  clear hst hs
  have c0 := hlb.c0
  have c1 := hlb.c1
  have c2 := hlb.c2
  have c3 := hlb.c3
  have c4 := hlb.c4
  have c5 := hlb.c5
  have c6 := hlb.c6
  have c7 := hlb.c7
  have c8 := hlb.c8
  have c9 := hlb.c9
  have c10 := hlb.c10
  have c11 := hlb.c11
  have c12 := hlb.c12
  have f := fun i => hlb.fz i
  go_enter Tryz.func94, Tryz.ntmps94
  go_wp2_with (go_at_call 144; refine (isMissing_any _ _ _ _ _ _ _ _ _ hlb).mono ?_; rintro e w' ⟨rfl, rfl⟩)
  go_ret2
  exact ⟨rfl, LB.all13 (show LB _ _ _ _ _ _ _ _ _ from hlb) _, ((((((((((((((Two.refl g gr w).set_ 0 _).set_ 1 _).set_ 2 _).set_ 3 _).set_ 4 _).set_ 5 _).set_ 6 _).set_ 7 _).set_ 8 _).set_ 9 _).set_ 10 _).set_ 11 _).set_ 12 _)⟩
end Go.Proofs.YtoljffghaklpdaaGreatDoor


/- A listener is closed in speech; what it refuses. -/
namespace Go.Proofs.YtoljffghaklpdaaGreatDoor
open Go.RowKit

set_option maxHeartbeats 1600000 in
set_option maxRecDepth 100000 in
theorem Close_speech (g gr : Nat) (all : List Int) (w : World) (G : Gt) (hG : G.Ok) (h : Lis w g gr G all) (hs : (endM G all).sp = true) :
    Calls Tryz.prog 94 #[.pointer (some ⟨g, 0, none⟩)] w fun e w' => ∃ gl, e = .returned (.tuple #[.slice (some ⟨gl, 0, none⟩) 1 1, .int .i64 0]) ∧ Blk w' gl 61 #[.int .i64 ((endM G all).first * G.B), .int .i64 (all.length : Int)] ∧ w.heap.size ≤ gl ∧ Closed w' g all.length ∧ Two g gr w w' := by
  have hst : (endM G all).st = 2 := by unfold Ms.st; rw [hs]; rfl
  have hlb := h.lb
  have htop := h.top
  have hgl := Blk.lt hlb
  have hbd := runM_bd hG all (all.length / G.B)
  have hf1 : 0 ≤ (endM G all).first := hbd.f1
  have hdv : all.length / G.B ≤ all.length := Nat.div_le_self _ _
  have hf2 : (endM G all).first ≤ 2147483648 := by have : (endM G all).first ≤ ((all.length / G.B : Nat) : Int) := hbd.f2; omega
  have hb2 := hG.b2
  have hq := mul_bd (a := (G.B : Int)) (b := (endM G all).first) (m := 4096) (q := 2147483648) (by omega) (by omega) (by omega) hf2 (by omega)
  rw [Int.mul_comm (G.B : Int)] at hq
  rw [hst] at hlb
  clear hst hs hbd hdv
  generalize endM G all = m at *
  have c0 := hlb.c0
  have c1 := hlb.c1
  have c2 := hlb.c2
  have c3 := hlb.c3
  have c4 := hlb.c4
  have c5 := hlb.c5
  have c6 := hlb.c6
  have c7 := hlb.c7
  have c8 := hlb.c8
  have c9 := hlb.c9
  have c10 := hlb.c10
  have c11 := hlb.c11
  have c12 := hlb.c12
  have e1 : IntKind.i64.wrap (m.first * (G.B : Int)) = m.first * (G.B : Int) := IntWalk.i64_in _ (by omega)
  clear hq
  go_enter Tryz.func94, Tryz.ntmps94
  go_wp2_with (go_at_call 144; refine (isMissing_any _ _ _ _ _ _ _ _ _ hlb).mono ?_; rintro e w' ⟨rfl, rfl⟩)
  go_still_tail 15, (by kernel_rfl)
  change wpList _ _ _ _ _ (w.drewN 1)
  have hlb1 : LB (w.drewN 1) g G 2 (.slice (some ⟨gr, 0, none⟩) (2 * G.B) (2 * G.B)) (all.length : Int) m.run m.first m.last := hlb
  have hT1 := (Two.refl g gr w).drewN 1
  have hsz1 : (w.drewN 1).heap.size = w.heap.size := rfl
  clear c0 c1 c2 c3 c4 c5 c6 c7 c8 c9 c10 c11 c12 e1
  generalize w.drewN 1 = w1 at *
  have hB2 := Blk.new w1 61 #[.int .i64 (m.first * (G.B : Int)), .int .i64 (all.length : Int)]
  have hlb2 : LB (w1.alloc (.cells #[.int .i64 (m.first * (G.B : Int)), .int .i64 (all.length : Int)] 61)) g G 2 (.slice (some ⟨gr, 0, none⟩) (2 * G.B) (2 * G.B)) (all.length : Int) m.run m.first m.last := Blk.alloc hlb1 _
  have hT2 := hT1.alloc (.cells #[.int .i64 (m.first * (G.B : Int)), .int .i64 (all.length : Int)] 61)
  have c0 := hlb2.c0
  have c1 := hlb2.c1
  have c2 := hlb2.c2
  have c3 := hlb2.c3
  have c4 := hlb2.c4
  have c5 := hlb2.c5
  have c6 := hlb2.c6
  have c7 := hlb2.c7
  have c8 := hlb2.c8
  have c9 := hlb2.c9
  have c10 := hlb2.c10
  have c11 := hlb2.c11
  have c12 := hlb2.c12
  have f := fun i => hlb2.fz i
  have hne : w1.heap.size ≠ g := by omega
  have hge : w.heap.size ≤ w1.heap.size := by omega
  have hsz1' := Lib.hid hsz1
  clear hsz1
  go_wp2
  go_ret2
  exact ⟨w1.heap.size, rfl, ((((((((((((hB2.far hne _).far hne _).far hne _).far hne _).far hne _).far hne _).far hne _).far hne _).far hne _).far hne _).far hne _).far hne _).far hne _, hge, hlb2.all13 _, ((((((((((((hT2.set_ 0 _).set_ 1 _).set_ 2 _).set_ 3 _).set_ 4 _).set_ 5 _).set_ 6 _).set_ 7 _).set_ 8 _).set_ 9 _).set_ 10 _).set_ 11 _).set_ 12 _⟩

/-- a listener that refuses samples -/
theorem Feed_bad (g gr : Nat) (A : Option Addr) (n c : Nat) (xs all : List Int) (w : World) (G : Gt) (h : Lis w g gr G all) (hS : Sl .i64 w A n c xs) (code : Int) (hc : chk (-32768) 32767 xs = code) (hc0 : (code == 0) = false) :
    Calls Tryz.prog 93 #[.pointer (some ⟨g, 0, none⟩), .slice A n c] w fun e w' => e = .returned (.tuple #[.slice none 0 0, .int .i64 code]) ∧ w = w' := by
  have hlb := h.lb
  have hst := @Mid.stA (endM G all)
  have hs0 : decide ((endM G all).st = 0) = false := by rcases hst with e | e <;> rw [e] <;> rfl
  have hc := Lib.hid hc
  go_enter Tryz.func93, Tryz.ntmps93
  go_wp2_with fail
  refine (isMissing_any _ _ _ _ _ _ _ _ _ hlb).mono ?_
  rintro e w' ⟨rfl, rfl⟩
  go_wp2_with (go_at_call 142; refine (checkSamples_any _ _ _ _ _ hS).mono ?_; rintro e w' ⟨rfl, rfl⟩; rw [hc.out])
  go_ret2
  exact ⟨rfl, rfl⟩
theorem Feed_nil (A : Option Addr) (n c : Nat) (w : World) : Calls Tryz.prog 93 #[.pointer none, .slice A n c] w fun e w' => e = .returned (.tuple #[.slice none 0 0, .int .i64 1]) ∧ w = w' := by
  go_enter Tryz.func93, Tryz.ntmps93
  go_wp2_with (go_at_call 144; refine (isMissing_nil _).mono ?_; rintro e w' ⟨rfl, rfl⟩)
  go_ret2
  exact ⟨rfl, rfl⟩
theorem Feed_zero (g : Nat) (A : Option Addr) (n c : Nat) (w : World) (G : Gt) (ring : Value) (arr run first last : Int) (h : LB w g G 0 ring arr run first last) :
    Calls Tryz.prog 93 #[.pointer (some ⟨g, 0, none⟩), .slice A n c] w fun e w' => e = .returned (.tuple #[.slice none 0 0, .int .i64 1]) ∧ w = w' := by
  go_enter Tryz.func93, Tryz.ntmps93
  go_wp2_with (go_at_call 144; refine (isMissing_any _ _ _ _ _ _ _ _ _ h).mono ?_; rintro e w' ⟨rfl, rfl⟩)
  go_ret2
  exact ⟨rfl, rfl⟩
end Go.Proofs.YtoljffghaklpdaaGreatDoor
