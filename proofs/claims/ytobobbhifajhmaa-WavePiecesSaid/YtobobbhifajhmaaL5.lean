/- A listener is fed. -/
import Derived.Test.YtobobbhifajhmaaL4
import Derived.Deep.LoopGhost
namespace Go.Proofs.Ytobobbhifajhmaa
open Go.RowKit

/-- segments as cells -/
def sgv (ps : List (Int × Int)) : List Value := ps.flatMap fun p => [.int .i64 p.1, .int .i64 p.2]
theorem sgv_len (ps : List (Int × Int)) : (sgv ps).length = ps.length * 2 := by
  induction ps with
  | nil => rfl
  | cons p ps ih => simp only [sgv, List.flatMap_cons, List.length_append, List.length_cons, List.length_nil] at ih ⊢; omega
theorem sgv_app (ps qs : List (Int × Int)) : sgv (ps ++ qs) = sgv ps ++ sgv qs := by simp [sgv]
theorem oneCell_sgv (ps : List (Int × Int)) : ∀ u ∈ sgv ps, u.oneCell' = true := by
  intro u hu
  simp only [sgv, List.mem_flatMap] at hu
  obtain ⟨p, _, hp⟩ := hu
  simp at hp
  rcases hp with rfl | rfl <;> rfl

theorem hearS_cases (G : Gt) (b E : Int) (m : Ms) : hearS G b E m = [] ∨ ∃ s t, hearS G b E m = [(s, t)] := by
  unfold hearS
  split
  · split
    · exact .inl rfl
    · exact .inr ⟨_, _, rfl⟩
  · exact .inl rfl

/-- blocks g and gr hold a listener that has heard all samples -/
structure Lis (w : World) (g gr : Nat) (G : Gt) (all : List Int) : Prop where
  lb : LB w g G (endM G all).st (.slice (some ⟨gr, 0, none⟩) (2 * G.B) (2 * G.B)) (all.length : Int) (endM G all).run (endM G all).first (endM G all).last
  ring : ∃ rs, Mk w gr 3 .i64 rs ∧ rs.length = 2 * G.B ∧ (rs.drop (all.length / G.B % 2 * G.B)).take (all.length % G.B) = all.drop (all.length / G.B * G.B)
  ne : gr ≠ g
  ok : ∀ x ∈ all, -32768 ≤ x ∧ x ≤ 32767
  top : all.length ≤ 2147483648
theorem Lis.drewN {w : World} {g gr : Nat} {G : Gt} {all : List Int} (h : Lis w g gr G all) (n : Nat) : Lis (w.drewN n) g gr G all :=
  ⟨h.lb, h.ring, h.ne, h.ok, h.top⟩

/-- what fill leaves, before the block is heard -/
structure Mid (w : World) (g gr : Nat) (G : Gt) (all ys : List Int) : Prop where
  lb : LB w g G (endM G all).st (.slice (some ⟨gr, 0, none⟩) (2 * G.B) (2 * G.B)) ((all ++ ys).length : Int) (endM G all).run (endM G all).first (endM G all).last
  ring : ∃ rs, Mk w gr 3 .i64 rs ∧ rs.length = 2 * G.B ∧ (rs.drop (all.length / G.B % 2 * G.B)).take (all.length % G.B + ys.length) = all.drop (all.length / G.B * G.B) ++ ys
  ne : gr ≠ g
  ok : ∀ x ∈ all ++ ys, -32768 ≤ x ∧ x ≤ 32767
  top : (all ++ ys).length ≤ 2147483648
theorem Mid.drewN {w : World} {g gr : Nat} {G : Gt} {all ys : List Int} (h : Mid w g gr G all ys) (n : Nat) : Mid (w.drewN n) g gr G all ys :=
  ⟨h.lb, h.ring, h.ne, h.ok, h.top⟩

theorem Lis.alloc {w : World} {g gr : Nat} {G : Gt} {all : List Int} (h : Lis w g gr G all) (o : Obj) : Lis (w.alloc o) g gr G all :=
  ⟨Blk.alloc h.lb o, by obtain ⟨rs, hR, h2⟩ := h.ring; exact ⟨rs, hR.alloc o, h2⟩, h.ne, h.ok, h.top⟩
theorem Mid.alloc {w : World} {g gr : Nat} {G : Gt} {all ys : List Int} (h : Mid w g gr G all ys) (o : Obj) : Mid (w.alloc o) g gr G all ys :=
  ⟨Blk.alloc h.lb o, by obtain ⟨rs, hR, h2⟩ := h.ring; exact ⟨rs, hR.alloc o, h2⟩, h.ne, h.ok, h.top⟩
theorem Lis.far {w : World} {g gr : Nat} {G : Gt} {all : List Int} (h : Lis w g gr G all) {p : Addr} (h1 : g ≠ p.block) (h2 : gr ≠ p.block) (u : Value) : Lis (w.setCell p u) g gr G all :=
  ⟨Blk.far h.lb h1 u, by obtain ⟨rs, hR, h3⟩ := h.ring; exact ⟨rs, hR.far h2 u, h3⟩, h.ne, h.ok, h.top⟩
theorem Lis.lt {w : World} {g gr : Nat} {G : Gt} {all : List Int} (h : Lis w g gr G all) : g < w.heap.size ∧ gr < w.heap.size := ⟨Blk.lt h.lb, by obtain ⟨rs, hR, _⟩ := h.ring; exact hR.lt⟩

theorem ob_le {b B : Nat} : b % 2 * B + B ≤ 2 * B := by
  rcases (show b % 2 = 0 ∨ b % 2 = 1 by omega) with e | e <;> rw [e] <;> omega

set_option maxHeartbeats 400000 in
theorem fill_lis (g gr : Nat) (A : Option Addr) (n c : Nat) (xs all : List Int) (w : World) (G : Gt) (hG : G.Ok) (h : Lis w g gr G all) (hS : Sl .i64 w A n c xs) (hn : 0 < n)
    (hx : ∀ x ∈ xs, -32768 ≤ x ∧ x ≤ 32767) (htop : all.length + n ≤ 2147483648) :
    Calls Try.prog 90 #[.pointer (some ⟨g, 0, none⟩), .slice A n c] w fun e w' => e = .returned (.int .i64 ((min n (G.B - all.length % G.B) : Nat) : Int)) ∧ Mid w' g gr G all (xs.take (min n (G.B - all.length % G.B))) ∧ Two g gr w w' := by
  obtain ⟨rs, hR, hrl, hpart⟩ := h.ring
  refine (fill_any g gr all.length A n c xs w G hG _ _ _ _ rs h.top h.lb hR h.ne hrl hS hn (by omega)).mono fun e w' ⟨he, hF⟩ => ⟨he, ?_, hF.two⟩
  have hb1 := hG.b1
  have hp := Nat.mod_lt all.length (show 0 < G.B by omega)
  have hob := @ob_le (all.length / G.B) G.B
  generalize ht : min n (G.B - all.length % G.B) = t at *
  have hl : (xs.take t).length = t := by rw [List.length_take, hS.len]; omega
  refine ⟨?_, ⟨_, hF.ring, ?_, ?_⟩, h.ne, ?_, ?_⟩
  · rw [List.length_append, hl]; exact hF.lb
  · rw [spl_len (by rw [hl, hrl]; omega), hrl]
  · rw [spl_part (by rw [hl, hrl]; omega), hpart]
  · intro x hx2
    rcases List.mem_append.1 hx2 with h2 | h2
    · exact h.ok x h2
    · exact hx x (List.mem_of_mem_take h2)
  · rw [List.length_append, hl]; omega

/-- no block is complete -/
theorem Mid.lis {w : World} {g gr : Nat} {G : Gt} {all ys : List Int} (h : Mid w g gr G all ys) (hG : G.Ok) (hlt : all.length % G.B + ys.length < G.B) :
    Lis w g gr G (all ++ ys) ∧ segs G (all ++ ys) = segs G all := by
  have hb1 := hG.b1
  have hd := Nat.div_add_mod all.length G.B
  have e1 : (all.length + ys.length) / G.B = all.length / G.B := by
    rw [show all.length + ys.length = (all.length % G.B + ys.length) + G.B * (all.length / G.B) by omega, Nat.add_mul_div_left _ _ (by omega), Nat.div_eq_of_lt hlt, Nat.zero_add]
  have e2 : (all.length + ys.length) % G.B = all.length % G.B + ys.length := by
    rw [show all.length + ys.length = (all.length % G.B + ys.length) + G.B * (all.length / G.B) by omega, Nat.add_mul_mod_self_left, Nat.mod_eq_of_lt hlt]
  have hs := seg_same (ys := ys) e1
  refine ⟨⟨?_, ?_, h.ne, h.ok, h.top⟩, hs.2⟩
  · rw [hs.1]; exact h.lb
  · obtain ⟨rs, hR, hrl, hpart⟩ := h.ring
    refine ⟨rs, hR, hrl, ?_⟩
    rw [List.length_append, e1, e2, hpart, List.drop_append_of_le_length]
    exact Nat.div_mul_le_self _ _

set_option maxHeartbeats 400000 in
/-- a block is complete: it is heard -/
theorem hear_lis (g gr b : Nat) (all ys : List Int) (w : World) (G : Gt) (hG : G.Ok) (h : Mid w g gr G all ys) (hlt : all.length % G.B + ys.length = G.B) (hb : b = all.length / G.B) :
    Calls Try.prog 91 #[.pointer (some ⟨g, 0, none⟩), .int .i64 (b : Int)] w fun e w' => e = .returned (heVal (hearS G b (eng (blk G (all ++ ys) b)) (endM G all))) ∧ Lis w' g gr G (all ++ ys) ∧ Two g gr w w' := by
  subst hb
  have hb1 := hG.b1
  have hd := Nat.div_add_mod all.length G.B
  obtain ⟨rs, hR, hrl, hpart⟩ := h.ring
  have hbl : all.length / G.B ≤ all.length := Nat.div_le_self _ _
  have htop := h.top
  rw [List.length_append] at htop
  have hle : all.length / G.B * G.B ≤ all.length := Nat.div_mul_le_self _ _
  have hstep := seg_step hG (ys := ys) (b := all.length / G.B) rfl (by rw [Nat.add_mul, Nat.one_mul, Nat.mul_comm (all.length / G.B) G.B]; omega)
  have hblk : (rs.drop (all.length / G.B % 2 * G.B)).take G.B = blk G (all ++ ys) (all.length / G.B) := by
    rw [hlt] at hpart
    rw [hpart]
    unfold blk
    rw [List.drop_append_of_le_length hle, List.take_of_length_le]
    rw [List.length_append, List.length_drop, Nat.mul_comm (all.length / G.B) G.B]; omega
  have hmem : ∀ y ∈ blk G (all ++ ys) (all.length / G.B), -32768 ≤ y ∧ y ≤ 32768 := fun y hy => by
    have := h.ok y (List.mem_of_mem_drop (List.mem_of_mem_take hy)); omega
  refine (hear_any g gr _ w G hG (endM G all) _ rs _ (runM_bd hG all _) (by omega) h.lb hR h.ne hrl hblk hmem).mono fun e w' ⟨he, hA⟩ => ⟨he, ⟨?_, ⟨rs, hA.ring, hrl, ?_⟩, h.ne, h.ok, h.top⟩, hA.two⟩
  · rw [hstep.1]; exact hA.lb
  · have e2 : (all ++ ys).length % G.B = 0 := by
      rw [List.length_append, show all.length + ys.length = G.B * (all.length / G.B + 1) by rw [Nat.mul_add]; omega]
      exact Nat.mul_mod_right _ _
    have e3 : (all ++ ys).length / G.B * G.B = (all ++ ys).length := by have := Nat.div_add_mod (all ++ ys).length G.B; rw [Nat.mul_comm] at this; omega
    rw [e2, e3, List.take_zero, List.drop_length]
end Go.Proofs.Ytobobbhifajhmaa
