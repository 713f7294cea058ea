/-
  NARROWER THAN 'FOR EVERY INPUT', by the rows' own cells (each row's printed sentence says how): FeatureLogs: laid · FeatureExtracts: laid · FeatureTurned: laid · FeatureImproves: laid · FeatureSeeds: laid · TopClipped: laid · TopStored: laid.
  DERIVED. THE GIVEN ROWS OF THIS SEAT. 7 by the template 'for every input the law returns true; each argument reads behind the call as it read before'; 0 by the template 'total and deterministic' (their statements: YtoljffghaklpdaaGreatDoorTotals.lean).
  GIVEN WITH THE SEED: the statements are not yours to turn. If you find one false, say at which input.
  Laid BY PROGRAM, IN A SANDBOX (cutbox-rows.mjs): the forced cells as the released guide's own fill.sh prints them over the translation f9b2f6ed3cf50ece… (all of the seat's roots in one cut). By AI agents, Wed Nov 11 2026. No macro, syntax, notation, axiom, sorry.
-/
import Derived.Test.YtoljffghaklpdaaGreatDoorChecked
import GoSem.Claim
import GoSem.ClaimJoined
import GoSem.ClaimMapViews
import Derived.JoinedTies
import Derived.KernelRfl
namespace Go.Proofs.YtoljffghaklpdaaGreatDoor
/- THE CELL 'sum', in the pinned program and in every row, IS THE sha256 OF THE DUMP (.gsa) THAT YtoljffghaklpdaaGreatDoorProg.lean LOADS. Nothing in Lean hashes anything: it is a label: what it is worth is what the hold of that sum in a sandbox is worth. -/
noncomputable def Tryz.pinned : Pinned := { name := "ytoljffghaklpdaagreatdoor", sum := "f9b2f6ed3cf50eced3af7e03280e30d86b402445e4be10a6578832ec2f39aad4", checked := Tryz.checked }
namespace Rows
def none {H : Type} : Left H := { results := [], args := [] }

/- WHAT THE LISTED PACKAGE-LEVEL VARIABLES READ AS WHEN THE CALL BEGINS. Each datum BY PROGRAM (the guide's laid-datum.mjs) off the statement by which the dump's own 'gosem.cut.vars' lays the variable. In a bare row this is a premise. The card (YtoljffghaklpdaaGreatDoorCards.lean) ties it to the program's text. -/
def laid_earshot_api_Cosines {H : Type} : DataW H := .agg [.lit (.int .i64 16384), .lit (.int .i64 16379), .lit (.int .i64 16364), .lit (.int .i64 16340), .lit (.int .i64 16305), .lit (.int .i64 16261), .lit (.int .i64 16207), .lit (.int .i64 16143), .lit (.int .i64 16069), .lit (.int .i64 15986), .lit (.int .i64 15893), .lit (.int .i64 15791), .lit (.int .i64 15679), .lit (.int .i64 15557), .lit (.int .i64 15426), .lit (.int .i64 15286), .lit (.int .i64 15137), .lit (.int .i64 14978), .lit (.int .i64 14811), .lit (.int .i64 14635), .lit (.int .i64 14449), .lit (.int .i64 14256), .lit (.int .i64 14053), .lit (.int .i64 13842), .lit (.int .i64 13623), .lit (.int .i64 13395), .lit (.int .i64 13160), .lit (.int .i64 12916), .lit (.int .i64 12665), .lit (.int .i64 12406), .lit (.int .i64 12140), .lit (.int .i64 11866), .lit (.int .i64 11585), .lit (.int .i64 11297), .lit (.int .i64 11003), .lit (.int .i64 10702), .lit (.int .i64 10394), .lit (.int .i64 10080), .lit (.int .i64 9760), .lit (.int .i64 9434), .lit (.int .i64 9102), .lit (.int .i64 8765), .lit (.int .i64 8423), .lit (.int .i64 8076), .lit (.int .i64 7723), .lit (.int .i64 7366), .lit (.int .i64 7005), .lit (.int .i64 6639), .lit (.int .i64 6270), .lit (.int .i64 5897), .lit (.int .i64 5520), .lit (.int .i64 5139), .lit (.int .i64 4756), .lit (.int .i64 4370), .lit (.int .i64 3981), .lit (.int .i64 3590), .lit (.int .i64 3196), .lit (.int .i64 2801), .lit (.int .i64 2404), .lit (.int .i64 2006), .lit (.int .i64 1606), .lit (.int .i64 1205), .lit (.int .i64 804), .lit (.int .i64 402), .lit (.int .i64 0)]

/-- 'earshotlaw03.FeatureLogs': WHATEVER THE INPUT: true; the input reads as it did. -/
def featureLogsSpec : ChangeSpec := { name := "featureLogs", fn := fun _ => fun
  | [d] => { results := [.lit (.bool true)], args := [d] }
  | _ => none }
def featureLogsRow : OpenClaim := { program := "ytoljffghaklpdaagreatdoor", sum := "f9b2f6ed3cf50eced3af7e03280e30d86b402445e4be10a6578832ec2f39aad4", func := "earshot/earshotlaw03.FeatureLogs", spec := "featureLogs", inPlace := ["math/bits.Add64", "math/bits.Sub64"], unfollowed := true, recurses := true, named := ["math/bits.divideError", "math/bits.overflowError", "earshot/api.Cosines"], apart := false, laid := [("earshot/api.Cosines", laid_earshot_api_Cosines)] }
def FeatureLogsSaid : Prop := featureLogsRow.holds Tryz.pinned (OpenSpec.ofChange featureLogsSpec)

/-- ITS FALSE NEIGHBOUR: 'it returns false'. Refute it at one input. -/
def featureLogsWrong : ChangeSpec := { name := "featureLogs", fn := fun _ => fun
  | [d] => { results := [.lit (.bool false)], args := [d] }
  | _ => none }
def FeatureLogsWrongFalsely : Prop := featureLogsRow.holds Tryz.pinned (OpenSpec.ofChange featureLogsWrong)

/-- 'earshotlaw03.FeatureExtracts': WHATEVER THE INPUT: true; the input reads as it did. -/
def featureExtractsSpec : ChangeSpec := { name := "featureExtracts", fn := fun _ => fun
  | [d1, d2] => { results := [.lit (.bool true)], args := [d1, d2] }
  | _ => none }
def featureExtractsRow : OpenClaim := { program := "ytoljffghaklpdaagreatdoor", sum := "f9b2f6ed3cf50eced3af7e03280e30d86b402445e4be10a6578832ec2f39aad4", func := "earshot/earshotlaw03.FeatureExtracts", spec := "featureExtracts", inPlace := ["math/bits.Add64", "math/bits.Sub64"], unfollowed := true, recurses := true, named := ["earshot/api.Cosines", "math/bits.divideError", "math/bits.overflowError"], apart := false, laid := [("earshot/api.Cosines", laid_earshot_api_Cosines)] }
def FeatureExtractsSaid : Prop := featureExtractsRow.holds Tryz.pinned (OpenSpec.ofChange featureExtractsSpec)

/-- ITS FALSE NEIGHBOUR: 'it returns false'. Refute it at one input. -/
def featureExtractsWrong : ChangeSpec := { name := "featureExtracts", fn := fun _ => fun
  | [d1, d2] => { results := [.lit (.bool false)], args := [d1, d2] }
  | _ => none }
def FeatureExtractsWrongFalsely : Prop := featureExtractsRow.holds Tryz.pinned (OpenSpec.ofChange featureExtractsWrong)

/-- 'earshotlaw03.FeatureTurned': WHATEVER THE INPUT: true; the input reads as it did. -/
def featureTurnedSpec : ChangeSpec := { name := "featureTurned", fn := fun _ => fun
  | [d1, d2, d3] => { results := [.lit (.bool true)], args := [d1, d2, d3] }
  | _ => none }
def featureTurnedRow : OpenClaim := { program := "ytoljffghaklpdaagreatdoor", sum := "f9b2f6ed3cf50eced3af7e03280e30d86b402445e4be10a6578832ec2f39aad4", func := "earshot/earshotlaw03.FeatureTurned", spec := "featureTurned", inPlace := ["math/bits.Add64", "math/bits.Sub64"], unfollowed := true, recurses := true, named := ["earshot/api.Cosines", "math/bits.divideError", "math/bits.overflowError"], apart := false, laid := [("earshot/api.Cosines", laid_earshot_api_Cosines)] }
def FeatureTurnedSaid : Prop := featureTurnedRow.holds Tryz.pinned (OpenSpec.ofChange featureTurnedSpec)

/-- ITS FALSE NEIGHBOUR: 'it returns false'. Refute it at one input. -/
def featureTurnedWrong : ChangeSpec := { name := "featureTurned", fn := fun _ => fun
  | [d1, d2, d3] => { results := [.lit (.bool false)], args := [d1, d2, d3] }
  | _ => none }
def FeatureTurnedWrongFalsely : Prop := featureTurnedRow.holds Tryz.pinned (OpenSpec.ofChange featureTurnedWrong)

/-- 'earshotlaw03.FeatureImproves': WHATEVER THE INPUT: true; the input reads as it did. -/
def featureImprovesSpec : ChangeSpec := { name := "featureImproves", fn := fun _ => fun
  | [d1, d2, d3] => { results := [.lit (.bool true)], args := [d1, d2, d3] }
  | _ => none }
def featureImprovesRow : OpenClaim := { program := "ytoljffghaklpdaagreatdoor", sum := "f9b2f6ed3cf50eced3af7e03280e30d86b402445e4be10a6578832ec2f39aad4", func := "earshot/earshotlaw03.FeatureImproves", spec := "featureImproves", inPlace := ["math/bits.Add64", "math/bits.Sub64"], unfollowed := true, recurses := true, named := ["earshot/api.Cosines", "math/bits.divideError", "math/bits.overflowError"], apart := false, laid := [("earshot/api.Cosines", laid_earshot_api_Cosines)] }
def FeatureImprovesSaid : Prop := featureImprovesRow.holds Tryz.pinned (OpenSpec.ofChange featureImprovesSpec)

/-- ITS FALSE NEIGHBOUR: 'it returns false'. Refute it at one input. -/
def featureImprovesWrong : ChangeSpec := { name := "featureImproves", fn := fun _ => fun
  | [d1, d2, d3] => { results := [.lit (.bool false)], args := [d1, d2, d3] }
  | _ => none }
def FeatureImprovesWrongFalsely : Prop := featureImprovesRow.holds Tryz.pinned (OpenSpec.ofChange featureImprovesWrong)

/-- 'earshotlaw03.FeatureSeeds': WHATEVER THE INPUT: true; the input reads as it did. -/
def featureSeedsSpec : ChangeSpec := { name := "featureSeeds", fn := fun _ => fun
  | [d1, d2] => { results := [.lit (.bool true)], args := [d1, d2] }
  | _ => none }
def featureSeedsRow : OpenClaim := { program := "ytoljffghaklpdaagreatdoor", sum := "f9b2f6ed3cf50eced3af7e03280e30d86b402445e4be10a6578832ec2f39aad4", func := "earshot/earshotlaw03.FeatureSeeds", spec := "featureSeeds", inPlace := ["math/bits.Add64", "math/bits.Sub64"], unfollowed := true, recurses := true, named := ["earshot/api.Cosines", "math/bits.divideError", "math/bits.overflowError"], apart := false, laid := [("earshot/api.Cosines", laid_earshot_api_Cosines)] }
def FeatureSeedsSaid : Prop := featureSeedsRow.holds Tryz.pinned (OpenSpec.ofChange featureSeedsSpec)

/-- ITS FALSE NEIGHBOUR: 'it returns false'. Refute it at one input. -/
def featureSeedsWrong : ChangeSpec := { name := "featureSeeds", fn := fun _ => fun
  | [d1, d2] => { results := [.lit (.bool false)], args := [d1, d2] }
  | _ => none }
def FeatureSeedsWrongFalsely : Prop := featureSeedsRow.holds Tryz.pinned (OpenSpec.ofChange featureSeedsWrong)

/-- 'earshottop.TopClipped': WHATEVER THE INPUT: true; the input reads as it did. -/
def topClippedSpec : ChangeSpec := { name := "topClipped", fn := fun _ => fun
  | [d1, d2, d3, d4, d5] => { results := [.lit (.bool true)], args := [d1, d2, d3, d4, d5] }
  | _ => none }
def topClippedRow : OpenClaim := { program := "ytoljffghaklpdaagreatdoor", sum := "f9b2f6ed3cf50eced3af7e03280e30d86b402445e4be10a6578832ec2f39aad4", func := "earshot/earshottop.TopClipped", spec := "topClipped", inPlace := ["math/bits.Add64", "math/bits.Sub64"], unfollowed := true, recurses := true, named := ["math/bits.divideError", "math/bits.overflowError", "earshot/api.Cosines"], apart := false, laid := [("earshot/api.Cosines", laid_earshot_api_Cosines)] }
def TopClippedSaid : Prop := topClippedRow.holds Tryz.pinned (OpenSpec.ofChange topClippedSpec)

/-- ITS FALSE NEIGHBOUR: 'it returns false'. Refute it at one input. -/
def topClippedWrong : ChangeSpec := { name := "topClipped", fn := fun _ => fun
  | [d1, d2, d3, d4, d5] => { results := [.lit (.bool false)], args := [d1, d2, d3, d4, d5] }
  | _ => none }
def TopClippedWrongFalsely : Prop := topClippedRow.holds Tryz.pinned (OpenSpec.ofChange topClippedWrong)

/-- 'earshottop.TopStored': WHATEVER THE INPUT: true; the input reads as it did. -/
def topStoredSpec : ChangeSpec := { name := "topStored", fn := fun _ => fun
  | [d1, d2, d3] => { results := [.lit (.bool true)], args := [d1, d2, d3] }
  | _ => none }
def topStoredRow : OpenClaim := { program := "ytoljffghaklpdaagreatdoor", sum := "f9b2f6ed3cf50eced3af7e03280e30d86b402445e4be10a6578832ec2f39aad4", func := "earshot/earshottop.TopStored", spec := "topStored", inPlace := ["math/bits.Add64", "math/bits.Sub64"], unfollowed := true, recurses := true, named := ["math/bits.divideError", "math/bits.overflowError", "earshot/api.Cosines"], apart := false, laid := [("earshot/api.Cosines", laid_earshot_api_Cosines)] }
def TopStoredSaid : Prop := topStoredRow.holds Tryz.pinned (OpenSpec.ofChange topStoredSpec)

/-- ITS FALSE NEIGHBOUR: 'it returns false'. Refute it at one input. -/
def topStoredWrong : ChangeSpec := { name := "topStored", fn := fun _ => fun
  | [d1, d2, d3] => { results := [.lit (.bool false)], args := [d1, d2, d3] }
  | _ => none }
def TopStoredWrongFalsely : Prop := topStoredRow.holds Tryz.pinned (OpenSpec.ofChange topStoredWrong)

/- THE SECOND FORM. 'bulk': how many values and letters a reading holds, each counted each time it is reached (what is shared counts as often as it is met; a slice's spare places count too). A statement '..UptoSaid' is the law's where the arguments, and the package variables that the reading takes, are together of bulk at most 1048576: NARROWER than '..Said'. Prove '..Said' where nothing that the law and all that it calls make is longer than what came in: it says more and counts as full. Else prove '..UptoSaid'. A law counts once. -/
mutual
def uptoBulk {H : Type} : DataW H → Nat
  | .lit (.string bytes) => bytes.length + 1
  | .lit _ => 1
  | .nil => 1
  | .ptr d => uptoBulk d + 1
  | .slice elems spare => uptoBulkAll elems + uptoBulkAll spare + 1
  | .agg parts => uptoBulkAll parts + 1
  | .iface _ d => uptoBulk d + 1
  | .map entries => uptoBulkEntries entries + 1
  | .held _ => 1
def uptoBulkAll {H : Type} : List (DataW H) → Nat
  | [] => 0
  | d :: r => uptoBulk d + uptoBulkAll r
def uptoBulkEntries {H : Type} : List (Lit × DataW H) → Nat
  | [] => 0
  | x :: r => uptoBulkEntry x + uptoBulkEntries r
def uptoBulkEntry {H : Type} : Lit × DataW H → Nat
  | (.string bytes, d) => bytes.length + uptoBulk d + 1
  | (_, d) => uptoBulk d + 1
 end
def uptoSmall : (H : Type) → List (DataW H) → Bool := fun _ ds => decide (uptoBulkAll ds ≤ 1048576)
def OpenSpec.upto (s : _root_.Go.ChangeSpec) : _root_.Go.OpenSpec := { _root_.Go.OpenSpec.ofChange s with cond := some uptoSmall }

/-- 'earshotlaw03.FeatureLogs', WHERE WHAT IT READS IS OF BULK AT MOST 1048576: true; the input reads as it did. -/
def featureLogsUptoRow : OpenClaim := { program := "ytoljffghaklpdaagreatdoor", sum := "f9b2f6ed3cf50eced3af7e03280e30d86b402445e4be10a6578832ec2f39aad4", func := "earshot/earshotlaw03.FeatureLogs", spec := "featureLogs", inPlace := ["math/bits.Add64", "math/bits.Sub64"], unfollowed := true, recurses := true, named := ["math/bits.divideError", "math/bits.overflowError", "earshot/api.Cosines"], apart := false, laid := [("earshot/api.Cosines", laid_earshot_api_Cosines)], narrowed := true }
def FeatureLogsUptoSaid : Prop := featureLogsUptoRow.holds Tryz.pinned (OpenSpec.upto featureLogsSpec)

/-- 'earshotlaw03.FeatureExtracts', WHERE WHAT IT READS IS OF BULK AT MOST 1048576: true; the input reads as it did. -/
def featureExtractsUptoRow : OpenClaim := { program := "ytoljffghaklpdaagreatdoor", sum := "f9b2f6ed3cf50eced3af7e03280e30d86b402445e4be10a6578832ec2f39aad4", func := "earshot/earshotlaw03.FeatureExtracts", spec := "featureExtracts", inPlace := ["math/bits.Add64", "math/bits.Sub64"], unfollowed := true, recurses := true, named := ["earshot/api.Cosines", "math/bits.divideError", "math/bits.overflowError"], apart := false, laid := [("earshot/api.Cosines", laid_earshot_api_Cosines)], narrowed := true }
def FeatureExtractsUptoSaid : Prop := featureExtractsUptoRow.holds Tryz.pinned (OpenSpec.upto featureExtractsSpec)

/-- 'earshotlaw03.FeatureTurned', WHERE WHAT IT READS IS OF BULK AT MOST 1048576: true; the input reads as it did. -/
def featureTurnedUptoRow : OpenClaim := { program := "ytoljffghaklpdaagreatdoor", sum := "f9b2f6ed3cf50eced3af7e03280e30d86b402445e4be10a6578832ec2f39aad4", func := "earshot/earshotlaw03.FeatureTurned", spec := "featureTurned", inPlace := ["math/bits.Add64", "math/bits.Sub64"], unfollowed := true, recurses := true, named := ["earshot/api.Cosines", "math/bits.divideError", "math/bits.overflowError"], apart := false, laid := [("earshot/api.Cosines", laid_earshot_api_Cosines)], narrowed := true }
def FeatureTurnedUptoSaid : Prop := featureTurnedUptoRow.holds Tryz.pinned (OpenSpec.upto featureTurnedSpec)

/-- 'earshotlaw03.FeatureImproves', WHERE WHAT IT READS IS OF BULK AT MOST 1048576: true; the input reads as it did. -/
def featureImprovesUptoRow : OpenClaim := { program := "ytoljffghaklpdaagreatdoor", sum := "f9b2f6ed3cf50eced3af7e03280e30d86b402445e4be10a6578832ec2f39aad4", func := "earshot/earshotlaw03.FeatureImproves", spec := "featureImproves", inPlace := ["math/bits.Add64", "math/bits.Sub64"], unfollowed := true, recurses := true, named := ["earshot/api.Cosines", "math/bits.divideError", "math/bits.overflowError"], apart := false, laid := [("earshot/api.Cosines", laid_earshot_api_Cosines)], narrowed := true }
def FeatureImprovesUptoSaid : Prop := featureImprovesUptoRow.holds Tryz.pinned (OpenSpec.upto featureImprovesSpec)

/-- 'earshotlaw03.FeatureSeeds', WHERE WHAT IT READS IS OF BULK AT MOST 1048576: true; the input reads as it did. -/
def featureSeedsUptoRow : OpenClaim := { program := "ytoljffghaklpdaagreatdoor", sum := "f9b2f6ed3cf50eced3af7e03280e30d86b402445e4be10a6578832ec2f39aad4", func := "earshot/earshotlaw03.FeatureSeeds", spec := "featureSeeds", inPlace := ["math/bits.Add64", "math/bits.Sub64"], unfollowed := true, recurses := true, named := ["earshot/api.Cosines", "math/bits.divideError", "math/bits.overflowError"], apart := false, laid := [("earshot/api.Cosines", laid_earshot_api_Cosines)], narrowed := true }
def FeatureSeedsUptoSaid : Prop := featureSeedsUptoRow.holds Tryz.pinned (OpenSpec.upto featureSeedsSpec)

/-- 'earshottop.TopClipped', WHERE WHAT IT READS IS OF BULK AT MOST 1048576: true; the input reads as it did. -/
def topClippedUptoRow : OpenClaim := { program := "ytoljffghaklpdaagreatdoor", sum := "f9b2f6ed3cf50eced3af7e03280e30d86b402445e4be10a6578832ec2f39aad4", func := "earshot/earshottop.TopClipped", spec := "topClipped", inPlace := ["math/bits.Add64", "math/bits.Sub64"], unfollowed := true, recurses := true, named := ["math/bits.divideError", "math/bits.overflowError", "earshot/api.Cosines"], apart := false, laid := [("earshot/api.Cosines", laid_earshot_api_Cosines)], narrowed := true }
def TopClippedUptoSaid : Prop := topClippedUptoRow.holds Tryz.pinned (OpenSpec.upto topClippedSpec)

/-- 'earshottop.TopStored', WHERE WHAT IT READS IS OF BULK AT MOST 1048576: true; the input reads as it did. -/
def topStoredUptoRow : OpenClaim := { program := "ytoljffghaklpdaagreatdoor", sum := "f9b2f6ed3cf50eced3af7e03280e30d86b402445e4be10a6578832ec2f39aad4", func := "earshot/earshottop.TopStored", spec := "topStored", inPlace := ["math/bits.Add64", "math/bits.Sub64"], unfollowed := true, recurses := true, named := ["math/bits.divideError", "math/bits.overflowError", "earshot/api.Cosines"], apart := false, laid := [("earshot/api.Cosines", laid_earshot_api_Cosines)], narrowed := true }
def TopStoredUptoSaid : Prop := topStoredUptoRow.holds Tryz.pinned (OpenSpec.upto topStoredSpec)

end Rows
end Go.Proofs.YtoljffghaklpdaaGreatDoor
