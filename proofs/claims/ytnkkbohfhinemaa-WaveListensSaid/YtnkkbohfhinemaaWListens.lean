/- What a listener returns, call by call, when it is fed in pieces, and what happens after closing, is what the definition says. No condition. -/
import Derived.Test.YtnkkbohfhinemaaJ2
import Derived.Test.YtnkkbohfhinemaaR4
namespace Go.Proofs.Ytnkkbohfhinemaa.waveListens
open Go.ChangeShapes Go.WideShapes Go.ChangeAt Go.RowKit

set_option maxRecDepth 100000 in
theorem lifted (os : Os) (started : os.Started) (H : Type) (enc : TypeId × Value → H) :
    ReturnsInHanded {} Try.checked os 16 .any (Rows.waveListensSpec.pre6 enc Try.prog Try.f16 Rows.waveListensRow.domain false) (Rows.waveListensSpec.post enc Try.prog Try.f16 false true false false) := by
  refine returnsInHanded_of_change_sized (C := Try.checked) ownK started (by kernel_rfl) Try.func16
    (ChangeSpec.witness6 (enc := enc) (C := Try.checked) false ⟨#[], #[.slice none 0 0, gtV 0 0 0 0 0 0 0, .slice none 0 0], []⟩ 8 (by kernel_rfl) (by kernel_rfl) (by kernel_rfl) (by kernel_rfl)) ?_
  intro W base args ds gs before hval0 hW _ hsz _
  have hval : ∀ (j : Nat) t v, Try.f16.params[j]? = some t → args[j]? = some v → Value.okWide Try.prog W .any base t v := hval0
  have hW' := hW
  obtain ⟨p, q, hA0, hV, rfl, hfz, hnd⟩ := hW
  have hA : DataW.TrodAll enc Try.prog W 0 (fun _ => true) true Try.f16.params.toList args.toList ds p := hA0
  rw [Try.params16] at hA hval
  obtain ⟨v0, vs0, d0, ds0, p0, q0, hargs, rfl, rfl, h0, r0⟩ := trodAll_cons hA
  obtain ⟨v1, vs1, d1, ds1, p1, q1, rfl, rfl, rfl, h1, r1⟩ := trodAll_cons r0
  obtain ⟨v2, vs2, d2, ds2, p2, q2, rfl, rfl, rfl, h2, r2⟩ := trodAll_cons r1
  obtain ⟨rfl, rfl, rfl⟩ := trodAll_nil r2
  obtain rfl : args = #[v0, v1, v2] := by cases args; simp_all
  obtain ⟨rfl, rfl⟩ := trodVars_none hV
  have hsz0 : ∀ x ∈ d0.weights Try.prog 47, x ≤ reachBytes := fun x hx => by
    have := List.all_eq_true.1 hsz x (DataW.weights_mem_each (j := 0) (t := 47) rfl rfl x hx)
    simpa using this
  obtain ⟨A0, n0, c0, B0, L0, C0, X0, rfl, hS0⟩ := open_rows (hval 0 47 v0 rfl rfl) h0 hsz0
  obtain ⟨g0, g1, g2, g3, g4, g5, g6, rfl⟩ := open_gate (hval 1 65 v1 rfl rfl) h1
  obtain ⟨A2, n2, c2, xs2, rfl, hS2⟩ := open_sl (hval 2 22 v2 rfl rfl) h2
  clear hA0 hval0
  refine (listens_any A0 n0 c0 B0 L0 C0 X0 g0 g1 g2 g3 g4 g5 g6 A2 n2 c2 xs2 W hS0 hS2).mono fun e W' ⟨he, hb⟩ => ?_
  subst he
  exact ⟨_, rfl, law_done rfl (by kernel_rfl) rfl hW' rfl rfl rfl hb⟩

theorem over : Rows.waveListensRow.holds Try.pinned (OpenSpec.ofChange Rows.waveListensSpec) :=
  OpenClaim.holds_of_wide 16 Try.f16 rfl rfl rfl rfl rfl rfl rfl ⟨rfl, rfl, rfl, rfl, rfl⟩ rfl rfl rfl rfl rfl (by kernel_rfl) Try.func16 (by kernel_rfl)
    (of_decide_eq_true (by kernel_rfl)) (by unfold Func.isWrapper; first | (rw [if_pos (by decide +kernel)]; kernel_rfl) | (rw [if_neg (by decide +kernel)]; exact ⟨rfl, rfl⟩))
    (fun os started H enc _ => lifted os started H enc)

/-- the statement -/
theorem proved : Rows.WaveListensSaid := over
#print axioms proved
end Go.Proofs.Ytnkkbohfhinemaa.waveListens
