/-
  No cell of these rows narrows 'for every input' (looked for: loops, veiled, ifaces, maps, wideKeys, modest, calm, conditions, laid).
  DERIVED. THE GIVEN ROWS OF THIS SEAT. 6 by the template 'for every input the law returns true; each argument reads behind the call as it read before'; 0 by the template 'total and deterministic' (their statements: YtlednmkbeoopfabTotals.lean).
  GIVEN WITH THE SEED: the statements are not yours to turn. If you find one false, say at which input.
  Laid BY PROGRAM, IN A SANDBOX (cutbox-rows.mjs): the forced cells as the released guide's own fill.sh prints them over the translation 65be011ccfca0b73… (all of the seat's roots in one cut). By AI agents, Wed Nov 11 2026. No macro, syntax, notation, axiom, sorry.
-/
import Derived.Test.YtlednmkbeoopfabChecked
import GoSem.Claim
import GoSem.ClaimJoined
import GoSem.ClaimMapViews
import Derived.JoinedTies
import Derived.KernelRfl
namespace Go.Proofs.Ytlednmkbeoopfab
/- THE CELL 'sum', in the pinned program and in every row, IS THE sha256 OF THE DUMP (.gsa) THAT YtlednmkbeoopfabProg.lean LOADS. Nothing in Lean hashes anything: it is a label: what it is worth is what the hold of that sum in a sandbox is worth. -/
noncomputable def Try.pinned : Pinned := { name := "ytlednmkbeoopfab", sum := "65be011ccfca0b7323c62c2f4ebe6cec99d69a1aa7ec03982c283ab0b9211745", checked := Try.checked }
namespace Rows
def none {H : Type} : Left H := { results := [], args := [] }

/-- 'earshotlaw02.WaveSegments': WHATEVER THE INPUT: true; the input reads as it did. -/
def waveSegmentsSpec : ChangeSpec := { name := "waveSegments", fn := fun _ => fun
  | [d1, d2] => { results := [.lit (.bool true)], args := [d1, d2] }
  | _ => none }
def waveSegmentsRow : OpenClaim := { program := "ytlednmkbeoopfab", sum := "65be011ccfca0b7323c62c2f4ebe6cec99d69a1aa7ec03982c283ab0b9211745", func := "earshot/earshotlaw02.WaveSegments", spec := "waveSegments", unfollowed := true, recurses := true, apart := false }
def WaveSegmentsSaid : Prop := waveSegmentsRow.holds Try.pinned (OpenSpec.ofChange waveSegmentsSpec)

/-- ITS FALSE NEIGHBOUR: 'it returns false'. Refute it at one input. -/
def waveSegmentsWrong : ChangeSpec := { name := "waveSegments", fn := fun _ => fun
  | [d1, d2] => { results := [.lit (.bool false)], args := [d1, d2] }
  | _ => none }
def WaveSegmentsWrongFalsely : Prop := waveSegmentsRow.holds Try.pinned (OpenSpec.ofChange waveSegmentsWrong)

/-- 'earshotlaw02.WaveListens': WHATEVER THE INPUT: true; the input reads as it did. -/
def waveListensSpec : ChangeSpec := { name := "waveListens", fn := fun _ => fun
  | [d1, d2, d3] => { results := [.lit (.bool true)], args := [d1, d2, d3] }
  | _ => none }
def waveListensRow : OpenClaim := { program := "ytlednmkbeoopfab", sum := "65be011ccfca0b7323c62c2f4ebe6cec99d69a1aa7ec03982c283ab0b9211745", func := "earshot/earshotlaw02.WaveListens", spec := "waveListens", unfollowed := true, recurses := true, apart := false }
def WaveListensSaid : Prop := waveListensRow.holds Try.pinned (OpenSpec.ofChange waveListensSpec)

/-- ITS FALSE NEIGHBOUR: 'it returns false'. Refute it at one input. -/
def waveListensWrong : ChangeSpec := { name := "waveListens", fn := fun _ => fun
  | [d1, d2, d3] => { results := [.lit (.bool false)], args := [d1, d2, d3] }
  | _ => none }
def WaveListensWrongFalsely : Prop := waveListensRow.holds Try.pinned (OpenSpec.ofChange waveListensWrong)

/-- 'earshotlaw02.WaveRefuses': WHATEVER THE INPUT: true; the input reads as it did. -/
def waveRefusesSpec : ChangeSpec := { name := "waveRefuses", fn := fun _ => fun
  | [d1, d2, d3, d4] => { results := [.lit (.bool true)], args := [d1, d2, d3, d4] }
  | _ => none }
def waveRefusesRow : OpenClaim := { program := "ytlednmkbeoopfab", sum := "65be011ccfca0b7323c62c2f4ebe6cec99d69a1aa7ec03982c283ab0b9211745", func := "earshot/earshotlaw02.WaveRefuses", spec := "waveRefuses", unfollowed := true, recurses := true, apart := false }
def WaveRefusesSaid : Prop := waveRefusesRow.holds Try.pinned (OpenSpec.ofChange waveRefusesSpec)

/-- ITS FALSE NEIGHBOUR: 'it returns false'. Refute it at one input. -/
def waveRefusesWrong : ChangeSpec := { name := "waveRefuses", fn := fun _ => fun
  | [d1, d2, d3, d4] => { results := [.lit (.bool false)], args := [d1, d2, d3, d4] }
  | _ => none }
def WaveRefusesWrongFalsely : Prop := waveRefusesRow.holds Try.pinned (OpenSpec.ofChange waveRefusesWrong)

/-- 'earshotlaw02.WaveOrder': WHATEVER THE INPUT: true; the input reads as it did. -/
def waveOrderSpec : ChangeSpec := { name := "waveOrder", fn := fun _ => fun
  | [d1, d2] => { results := [.lit (.bool true)], args := [d1, d2] }
  | _ => none }
def waveOrderRow : OpenClaim := { program := "ytlednmkbeoopfab", sum := "65be011ccfca0b7323c62c2f4ebe6cec99d69a1aa7ec03982c283ab0b9211745", func := "earshot/earshotlaw02.WaveOrder", spec := "waveOrder", unfollowed := true, recurses := true, apart := false }
def WaveOrderSaid : Prop := waveOrderRow.holds Try.pinned (OpenSpec.ofChange waveOrderSpec)

/-- ITS FALSE NEIGHBOUR: 'it returns false'. Refute it at one input. -/
def waveOrderWrong : ChangeSpec := { name := "waveOrder", fn := fun _ => fun
  | [d1, d2] => { results := [.lit (.bool false)], args := [d1, d2] }
  | _ => none }
def WaveOrderWrongFalsely : Prop := waveOrderRow.holds Try.pinned (OpenSpec.ofChange waveOrderWrong)

/-- 'earshotlaw02.WaveClips': WHATEVER THE INPUT: true; the input reads as it did. -/
def waveClipsSpec : ChangeSpec := { name := "waveClips", fn := fun _ => fun
  | [d1, d2] => { results := [.lit (.bool true)], args := [d1, d2] }
  | _ => none }
def waveClipsRow : OpenClaim := { program := "ytlednmkbeoopfab", sum := "65be011ccfca0b7323c62c2f4ebe6cec99d69a1aa7ec03982c283ab0b9211745", func := "earshot/earshotlaw02.WaveClips", spec := "waveClips", unfollowed := true, recurses := true, apart := false }
def WaveClipsSaid : Prop := waveClipsRow.holds Try.pinned (OpenSpec.ofChange waveClipsSpec)

/-- ITS FALSE NEIGHBOUR: 'it returns false'. Refute it at one input. -/
def waveClipsWrong : ChangeSpec := { name := "waveClips", fn := fun _ => fun
  | [d1, d2] => { results := [.lit (.bool false)], args := [d1, d2] }
  | _ => none }
def WaveClipsWrongFalsely : Prop := waveClipsRow.holds Try.pinned (OpenSpec.ofChange waveClipsWrong)

/-- 'earshotlaw02.WaveNil': WHATEVER THE INPUT: true; the input reads as it did. -/
def waveNilSpec : ChangeSpec := { name := "waveNil", fn := fun _ => fun
  | [d] => { results := [.lit (.bool true)], args := [d] }
  | _ => none }
def waveNilRow : OpenClaim := { program := "ytlednmkbeoopfab", sum := "65be011ccfca0b7323c62c2f4ebe6cec99d69a1aa7ec03982c283ab0b9211745", func := "earshot/earshotlaw02.WaveNil", spec := "waveNil", unfollowed := true, recurses := true, apart := false }
def WaveNilSaid : Prop := waveNilRow.holds Try.pinned (OpenSpec.ofChange waveNilSpec)

/-- ITS FALSE NEIGHBOUR: 'it returns false'. Refute it at one input. -/
def waveNilWrong : ChangeSpec := { name := "waveNil", fn := fun _ => fun
  | [d] => { results := [.lit (.bool false)], args := [d] }
  | _ => none }
def WaveNilWrongFalsely : Prop := waveNilRow.holds Try.pinned (OpenSpec.ofChange waveNilWrong)

/- THE SECOND FORM. 'bulk': how many values and letters a reading holds, each counted each time it is reached (what is shared counts as often as it is met; a slice's spare places count too). A statement '..UptoSaid' is the law's where the arguments, and the package variables that the reading takes, are together of bulk at most 1048576: NARROWER than '..Said'. Prove '..Said' where nothing that the law and all that it calls make is longer than what came in: it says more and counts as full. Else prove '..UptoSaid'. A law counts once. -/
mutual
def uptoBulk {H : Type} : DataW H → Nat
  | .lit (.string bytes) => bytes.length + 1
  | .lit _ => 1
  | .nil => 1
  | .ptr d => uptoBulk d + 1
  | .slice elems spare => uptoBulkAll elems + uptoBulkAll spare + 1
  | .agg parts => uptoBulkAll parts + 1
  | .iface _ d => uptoBulk d + 1
  | .map entries => uptoBulkEntries entries + 1
  | .held _ => 1
def uptoBulkAll {H : Type} : List (DataW H) → Nat
  | [] => 0
  | d :: r => uptoBulk d + uptoBulkAll r
def uptoBulkEntries {H : Type} : List (Lit × DataW H) → Nat
  | [] => 0
  | x :: r => uptoBulkEntry x + uptoBulkEntries r
def uptoBulkEntry {H : Type} : Lit × DataW H → Nat
  | (.string bytes, d) => bytes.length + uptoBulk d + 1
  | (_, d) => uptoBulk d + 1
 end
def uptoSmall : (H : Type) → List (DataW H) → Bool := fun _ ds => decide (uptoBulkAll ds ≤ 1048576)
def OpenSpec.upto (s : _root_.Go.ChangeSpec) : _root_.Go.OpenSpec := { _root_.Go.OpenSpec.ofChange s with cond := some uptoSmall }

/-- 'earshotlaw02.WaveSegments', WHERE WHAT IT READS IS OF BULK AT MOST 1048576: true; the input reads as it did. -/
def waveSegmentsUptoRow : OpenClaim := { program := "ytlednmkbeoopfab", sum := "65be011ccfca0b7323c62c2f4ebe6cec99d69a1aa7ec03982c283ab0b9211745", func := "earshot/earshotlaw02.WaveSegments", spec := "waveSegments", unfollowed := true, recurses := true, apart := false, narrowed := true }
def WaveSegmentsUptoSaid : Prop := waveSegmentsUptoRow.holds Try.pinned (OpenSpec.upto waveSegmentsSpec)

/-- 'earshotlaw02.WaveListens', WHERE WHAT IT READS IS OF BULK AT MOST 1048576: true; the input reads as it did. -/
def waveListensUptoRow : OpenClaim := { program := "ytlednmkbeoopfab", sum := "65be011ccfca0b7323c62c2f4ebe6cec99d69a1aa7ec03982c283ab0b9211745", func := "earshot/earshotlaw02.WaveListens", spec := "waveListens", unfollowed := true, recurses := true, apart := false, narrowed := true }
def WaveListensUptoSaid : Prop := waveListensUptoRow.holds Try.pinned (OpenSpec.upto waveListensSpec)

/-- 'earshotlaw02.WaveRefuses', WHERE WHAT IT READS IS OF BULK AT MOST 1048576: true; the input reads as it did. -/
def waveRefusesUptoRow : OpenClaim := { program := "ytlednmkbeoopfab", sum := "65be011ccfca0b7323c62c2f4ebe6cec99d69a1aa7ec03982c283ab0b9211745", func := "earshot/earshotlaw02.WaveRefuses", spec := "waveRefuses", unfollowed := true, recurses := true, apart := false, narrowed := true }
def WaveRefusesUptoSaid : Prop := waveRefusesUptoRow.holds Try.pinned (OpenSpec.upto waveRefusesSpec)

/-- 'earshotlaw02.WaveOrder', WHERE WHAT IT READS IS OF BULK AT MOST 1048576: true; the input reads as it did. -/
def waveOrderUptoRow : OpenClaim := { program := "ytlednmkbeoopfab", sum := "65be011ccfca0b7323c62c2f4ebe6cec99d69a1aa7ec03982c283ab0b9211745", func := "earshot/earshotlaw02.WaveOrder", spec := "waveOrder", unfollowed := true, recurses := true, apart := false, narrowed := true }
def WaveOrderUptoSaid : Prop := waveOrderUptoRow.holds Try.pinned (OpenSpec.upto waveOrderSpec)

/-- 'earshotlaw02.WaveClips', WHERE WHAT IT READS IS OF BULK AT MOST 1048576: true; the input reads as it did. -/
def waveClipsUptoRow : OpenClaim := { program := "ytlednmkbeoopfab", sum := "65be011ccfca0b7323c62c2f4ebe6cec99d69a1aa7ec03982c283ab0b9211745", func := "earshot/earshotlaw02.WaveClips", spec := "waveClips", unfollowed := true, recurses := true, apart := false, narrowed := true }
def WaveClipsUptoSaid : Prop := waveClipsUptoRow.holds Try.pinned (OpenSpec.upto waveClipsSpec)

/-- 'earshotlaw02.WaveNil', WHERE WHAT IT READS IS OF BULK AT MOST 1048576: true; the input reads as it did. -/
def waveNilUptoRow : OpenClaim := { program := "ytlednmkbeoopfab", sum := "65be011ccfca0b7323c62c2f4ebe6cec99d69a1aa7ec03982c283ab0b9211745", func := "earshot/earshotlaw02.WaveNil", spec := "waveNil", unfollowed := true, recurses := true, apart := false, narrowed := true }
def WaveNilUptoSaid : Prop := waveNilUptoRow.holds Try.pinned (OpenSpec.upto waveNilSpec)

end Rows
end Go.Proofs.Ytlednmkbeoopfab
