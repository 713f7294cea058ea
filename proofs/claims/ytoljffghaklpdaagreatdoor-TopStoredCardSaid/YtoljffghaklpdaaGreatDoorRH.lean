/- Arguments of a law: gates. -/
import Derived.Test.YtoljffghaklpdaaGreatDoorRG
import Derived.Test.YtoljffghaklpdaaGreatDoorZL5
namespace Go.Proofs.YtoljffghaklpdaaGreatDoor
open Go.ChangeShapes Go.WideShapes Go.ChangeAt Go.RowKit Go.Joins Go.Deep

set_option maxRecDepth 100000 in
theorem open_gate {H : Type} {enc : TypeId × Value → H} {W : World} {b0 : Nat} {v : Value} {d : DataW H} {p : List MemPlace} (hv : Value.okWide Tryz.prog W .any b0 66 v)
    (h : DataW.Trod enc Tryz.prog W 0 (fun _ => true) true 66 v d p) : ∃ a0 a1 a2 a3 a4 a5 a6 : Int, v = gtV a0 a1 a2 a3 a4 a5 a6 := by
  obtain ⟨cs, n, rfl, hl, hf⟩ := open_aggN Tryz.underlying66 (by kernel_rfl) (by kernel_rfl) hv h
  match cs, hl with
  | [c0, c1, c2, c3, c4, c5, c6], _ =>
    obtain ⟨_, h0⟩ := hf 0 _ rfl
    obtain ⟨_, h1⟩ := hf 1 _ rfl
    obtain ⟨_, h2⟩ := hf 2 _ rfl
    obtain ⟨_, h3⟩ := hf 3 _ rfl
    obtain ⟨_, h4⟩ := hf 4 _ rfl
    obtain ⟨_, h5⟩ := hf 5 _ rfl
    obtain ⟨_, h6⟩ := hf 6 _ rfl
    obtain ⟨a0, rfl⟩ := int_cellT (v := c0) Tryz.underlying3 h0
    obtain ⟨a1, rfl⟩ := int_cellT (v := c1) Tryz.underlying3 h1
    obtain ⟨a2, rfl⟩ := int_cellT (v := c2) Tryz.underlying3 h2
    obtain ⟨a3, rfl⟩ := int_cellT (v := c3) Tryz.underlying3 h3
    obtain ⟨a4, rfl⟩ := int_cellT (v := c4) Tryz.underlying3 h4
    obtain ⟨a5, rfl⟩ := int_cellT (v := c5) Tryz.underlying3 h5
    obtain ⟨a6, rfl⟩ := int_cellT (v := c6) Tryz.underlying3 h6
    exact ⟨a0, a1, a2, a3, a4, a5, a6, rfl⟩
end Go.Proofs.YtoljffghaklpdaaGreatDoor
