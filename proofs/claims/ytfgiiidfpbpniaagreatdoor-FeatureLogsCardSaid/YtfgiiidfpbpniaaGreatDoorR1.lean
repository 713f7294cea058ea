import Derived.Test.YtfgiiidfpbpniaaGreatDoorB1

namespace Go.Proofs.YtfgiiidfpbpniaaGreatDoor.Fr
open Go.RowKit Num

theorem Dg.nob32 {k : IntKind} {w : World} {A : Option Addr} {n c : Nat} {xs : List Nat} (h : Dg k w A n c xs) {g : Nat} {t : TypeId} {a : Bool} {p1 q1 : Option Addr} {p2 p3 q2 q3 : Nat}
    (hB : Blk w g t #[.bool a, .slice p1 p2 p3, .slice q1 q2 q3]) : 0 < n → ∀ ad, A = some ad → ad.block ≠ g := by
  intro hp ad he hg
  obtain ⟨ad', x, e2, hc, _⟩ := h.at_ hp
  rw [he] at e2
  injection e2 with e2
  subst e2
  unfold Blk at hB
  rw [← hg] at hB
  rw [show ad.add 0 = ad from rfl] at hc
  simp only [World.cell?, hB] at hc
  have h3 : ∀ i : Nat, ∀ v, (#[Value.bool a, .slice p1 p2 p3, .slice q1 q2 q3] : Array Value)[i]? = some v → (∃ b, v = .bool b) ∨ ∃ x y z, v = .slice x y z := by
    intro i v hv
    match i, hv with
    | 0, hv => simp at hv; exact .inl ⟨_, hv.symm⟩
    | 1, hv => simp at hv; exact .inr ⟨_, _, _, hv.symm⟩
    | 2, hv => simp at hv; exact .inr ⟨_, _, _, hv.symm⟩
    | (i + 3), hv => simp at hv
  split at hc
  · cases hc
  · rcases h3 _ _ hc with ⟨b, hv⟩ | ⟨x1, y1, z1, hv⟩ <;> cases hv
theorem nv_le {k : IntKind} {w : World} {v : Value} {x L L' : Nat} (h : NV k w v x L) (hl : L ≤ L') : NV k w v x L' := by
  obtain ⟨A, m, c, us, e, hD, h1, h2, h3⟩ := h
  exact ⟨A, m, c, us, e, hD, h1, h2, Nat.le_trans h3 hl⟩
theorem nv_set3_32 {k : IntKind} {w : World} {v : Value} {x L : Nat} (h : NV k w v x L) {g : Nat} {t : TypeId} {a : Bool} {p1 q1 : Option Addr} {p2 p3 q2 q3 : Nat} (hB : Blk w g t #[.bool a, .slice p1 p2 p3, .slice q1 q2 q3]) (x1 x2 x3 : Value) :
    NV k (((w.setCell ⟨g, 0, none⟩ x1).setCell ⟨g, 1, none⟩ x2).setCell ⟨g, 2, none⟩ x3) v x L := by
  obtain ⟨A, m, c, us, e, hD, h1, h2, h3⟩ := h
  have hn := hD.nob32 hB
  have st : ∀ {w' : World} (i : Nat) (u : Value), Dg k w' A m c us → Dg k (w'.setCell ⟨g, i, none⟩ u) A m c us := fun i u hd =>
    ⟨hd.len, hd.cap, hd.top, hd.ok, fun hp => by
      obtain ⟨ad, e, hc⟩ := hd.cell hp
      refine ⟨ad, e, fun j x hx => ?_⟩
      rw [World.cell?_setCell_other _ _ _ u (fun e2 => by have h2 := congrArg Addr.block e2; rw [block_of_add] at h2; exact hn hp ad e h2.symm)]
      exact hc j x hx⟩
  exact ⟨A, m, c, us, e, st 2 _ (st 1 _ (st 0 _ hD)), h1, h2, h3⟩

end Go.Proofs.YtfgiiidfpbpniaaGreatDoor.Fr
