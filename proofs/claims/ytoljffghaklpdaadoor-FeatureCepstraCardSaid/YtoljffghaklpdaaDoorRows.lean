/-
  NARROWER THAN 'FOR EVERY INPUT', by the rows' own cells (each row's printed sentence says how): FeatureTable: laid · FeatureTransforms: laid · FeatureInverses: laid · FeatureLinear: laid · FeatureReturns: laid · FeatureBands: laid · FeatureGrows: laid · FeatureCepstra: laid · FeatureVectors: laid · FeatureCenters: laid · FeatureNearest: laid · FeatureQuantizes: laid · FeatureFalls: laid.
  DERIVED. THE GIVEN ROWS OF THIS SEAT. 13 by the template 'for every input the law returns true; each argument reads behind the call as it read before'; 0 by the template 'total and deterministic' (their statements: YtoljffghaklpdaaDoorTotals.lean).
  GIVEN WITH THE SEED: the statements are not yours to turn. If you find one false, say at which input.
  Laid BY PROGRAM, IN A SANDBOX (cutbox-rows.mjs): the forced cells as the released guide's own fill.sh prints them over the translation bbe9ae246e1d7096… (all of the seat's roots in one cut). By AI agents, Wed Nov 11 2026. No macro, syntax, notation, axiom, sorry.
-/
import Derived.Test.YtoljffghaklpdaaDoorChecked
import GoSem.Claim
import GoSem.ClaimJoined
import GoSem.ClaimMapViews
import Derived.JoinedTies
import Derived.KernelRfl
namespace Go.Proofs.YtoljffghaklpdaaDoor
/- THE CELL 'sum', in the pinned program and in every row, IS THE sha256 OF THE DUMP (.gsa) THAT YtoljffghaklpdaaDoorProg.lean LOADS. Nothing in Lean hashes anything: it is a label: what it is worth is what the hold of that sum in a sandbox is worth. -/
noncomputable def Tryd.pinned : Pinned := { name := "ytoljffghaklpdaadoor", sum := "bbe9ae246e1d7096cffad5f3d957c1a2c8055522d78809d4ba2597ae2c8ad28d", checked := Tryd.checked }
namespace Rows
def none {H : Type} : Left H := { results := [], args := [] }

/- WHAT THE LISTED PACKAGE-LEVEL VARIABLES READ AS WHEN THE CALL BEGINS. Each datum BY PROGRAM (the guide's laid-datum.mjs) off the statement by which the dump's own 'gosem.cut.vars' lays the variable. In a bare row this is a premise. The card (YtoljffghaklpdaaDoorCards.lean) ties it to the program's text. -/
def laid_earshot_api_Cosines {H : Type} : DataW H := .agg [.lit (.int .i64 16384), .lit (.int .i64 16379), .lit (.int .i64 16364), .lit (.int .i64 16340), .lit (.int .i64 16305), .lit (.int .i64 16261), .lit (.int .i64 16207), .lit (.int .i64 16143), .lit (.int .i64 16069), .lit (.int .i64 15986), .lit (.int .i64 15893), .lit (.int .i64 15791), .lit (.int .i64 15679), .lit (.int .i64 15557), .lit (.int .i64 15426), .lit (.int .i64 15286), .lit (.int .i64 15137), .lit (.int .i64 14978), .lit (.int .i64 14811), .lit (.int .i64 14635), .lit (.int .i64 14449), .lit (.int .i64 14256), .lit (.int .i64 14053), .lit (.int .i64 13842), .lit (.int .i64 13623), .lit (.int .i64 13395), .lit (.int .i64 13160), .lit (.int .i64 12916), .lit (.int .i64 12665), .lit (.int .i64 12406), .lit (.int .i64 12140), .lit (.int .i64 11866), .lit (.int .i64 11585), .lit (.int .i64 11297), .lit (.int .i64 11003), .lit (.int .i64 10702), .lit (.int .i64 10394), .lit (.int .i64 10080), .lit (.int .i64 9760), .lit (.int .i64 9434), .lit (.int .i64 9102), .lit (.int .i64 8765), .lit (.int .i64 8423), .lit (.int .i64 8076), .lit (.int .i64 7723), .lit (.int .i64 7366), .lit (.int .i64 7005), .lit (.int .i64 6639), .lit (.int .i64 6270), .lit (.int .i64 5897), .lit (.int .i64 5520), .lit (.int .i64 5139), .lit (.int .i64 4756), .lit (.int .i64 4370), .lit (.int .i64 3981), .lit (.int .i64 3590), .lit (.int .i64 3196), .lit (.int .i64 2801), .lit (.int .i64 2404), .lit (.int .i64 2006), .lit (.int .i64 1606), .lit (.int .i64 1205), .lit (.int .i64 804), .lit (.int .i64 402), .lit (.int .i64 0)]

/-- 'earshotlaw03.FeatureTable': WHATEVER THE INPUT: true; the input reads as it did. -/
def featureTableSpec : ChangeSpec := { name := "featureTable", fn := fun _ => fun
  | [d] => { results := [.lit (.bool true)], args := [d] }
  | _ => none }
def featureTableRow : OpenClaim := { program := "ytoljffghaklpdaadoor", sum := "bbe9ae246e1d7096cffad5f3d957c1a2c8055522d78809d4ba2597ae2c8ad28d", func := "earshot/earshotlaw03.FeatureTable", spec := "featureTable", inPlace := ["math/bits.Add64", "math/bits.Sub64"], unfollowed := true, recurses := true, named := ["earshot/api.Cosines", "math/bits.divideError", "math/bits.overflowError"], apart := false, laid := [("earshot/api.Cosines", laid_earshot_api_Cosines)] }
def FeatureTableSaid : Prop := featureTableRow.holds Tryd.pinned (OpenSpec.ofChange featureTableSpec)

/-- ITS FALSE NEIGHBOUR: 'it returns false'. Refute it at one input. -/
def featureTableWrong : ChangeSpec := { name := "featureTable", fn := fun _ => fun
  | [d] => { results := [.lit (.bool false)], args := [d] }
  | _ => none }
def FeatureTableWrongFalsely : Prop := featureTableRow.holds Tryd.pinned (OpenSpec.ofChange featureTableWrong)

/-- 'earshotlaw03.FeatureTransforms': WHATEVER THE INPUT: true; the input reads as it did. -/
def featureTransformsSpec : ChangeSpec := { name := "featureTransforms", fn := fun _ => fun
  | [d] => { results := [.lit (.bool true)], args := [d] }
  | _ => none }
def featureTransformsRow : OpenClaim := { program := "ytoljffghaklpdaadoor", sum := "bbe9ae246e1d7096cffad5f3d957c1a2c8055522d78809d4ba2597ae2c8ad28d", func := "earshot/earshotlaw03.FeatureTransforms", spec := "featureTransforms", inPlace := ["math/bits.Add64", "math/bits.Sub64"], unfollowed := true, recurses := true, named := ["earshot/api.Cosines", "math/bits.divideError", "math/bits.overflowError"], apart := false, laid := [("earshot/api.Cosines", laid_earshot_api_Cosines)] }
def FeatureTransformsSaid : Prop := featureTransformsRow.holds Tryd.pinned (OpenSpec.ofChange featureTransformsSpec)

/-- ITS FALSE NEIGHBOUR: 'it returns false'. Refute it at one input. -/
def featureTransformsWrong : ChangeSpec := { name := "featureTransforms", fn := fun _ => fun
  | [d] => { results := [.lit (.bool false)], args := [d] }
  | _ => none }
def FeatureTransformsWrongFalsely : Prop := featureTransformsRow.holds Tryd.pinned (OpenSpec.ofChange featureTransformsWrong)

/-- 'earshotlaw03.FeatureInverses': WHATEVER THE INPUT: true; the input reads as it did. -/
def featureInversesSpec : ChangeSpec := { name := "featureInverses", fn := fun _ => fun
  | [d] => { results := [.lit (.bool true)], args := [d] }
  | _ => none }
def featureInversesRow : OpenClaim := { program := "ytoljffghaklpdaadoor", sum := "bbe9ae246e1d7096cffad5f3d957c1a2c8055522d78809d4ba2597ae2c8ad28d", func := "earshot/earshotlaw03.FeatureInverses", spec := "featureInverses", inPlace := ["math/bits.Add64", "math/bits.Sub64"], unfollowed := true, recurses := true, named := ["earshot/api.Cosines", "math/bits.divideError", "math/bits.overflowError"], apart := false, laid := [("earshot/api.Cosines", laid_earshot_api_Cosines)] }
def FeatureInversesSaid : Prop := featureInversesRow.holds Tryd.pinned (OpenSpec.ofChange featureInversesSpec)

/-- ITS FALSE NEIGHBOUR: 'it returns false'. Refute it at one input. -/
def featureInversesWrong : ChangeSpec := { name := "featureInverses", fn := fun _ => fun
  | [d] => { results := [.lit (.bool false)], args := [d] }
  | _ => none }
def FeatureInversesWrongFalsely : Prop := featureInversesRow.holds Tryd.pinned (OpenSpec.ofChange featureInversesWrong)

/-- 'earshotlaw03.FeatureLinear': WHATEVER THE INPUT: true; the input reads as it did. -/
def featureLinearSpec : ChangeSpec := { name := "featureLinear", fn := fun _ => fun
  | [d1, d2, d3] => { results := [.lit (.bool true)], args := [d1, d2, d3] }
  | _ => none }
def featureLinearRow : OpenClaim := { program := "ytoljffghaklpdaadoor", sum := "bbe9ae246e1d7096cffad5f3d957c1a2c8055522d78809d4ba2597ae2c8ad28d", func := "earshot/earshotlaw03.FeatureLinear", spec := "featureLinear", inPlace := ["math/bits.Add64", "math/bits.Sub64"], unfollowed := true, recurses := true, named := ["earshot/api.Cosines", "math/bits.divideError", "math/bits.overflowError"], apart := false, laid := [("earshot/api.Cosines", laid_earshot_api_Cosines)] }
def FeatureLinearSaid : Prop := featureLinearRow.holds Tryd.pinned (OpenSpec.ofChange featureLinearSpec)

/-- ITS FALSE NEIGHBOUR: 'it returns false'. Refute it at one input. -/
def featureLinearWrong : ChangeSpec := { name := "featureLinear", fn := fun _ => fun
  | [d1, d2, d3] => { results := [.lit (.bool false)], args := [d1, d2, d3] }
  | _ => none }
def FeatureLinearWrongFalsely : Prop := featureLinearRow.holds Tryd.pinned (OpenSpec.ofChange featureLinearWrong)

/-- 'earshotlaw03.FeatureReturns': WHATEVER THE INPUT: true; the input reads as it did. -/
def featureReturnsSpec : ChangeSpec := { name := "featureReturns", fn := fun _ => fun
  | [d] => { results := [.lit (.bool true)], args := [d] }
  | _ => none }
def featureReturnsRow : OpenClaim := { program := "ytoljffghaklpdaadoor", sum := "bbe9ae246e1d7096cffad5f3d957c1a2c8055522d78809d4ba2597ae2c8ad28d", func := "earshot/earshotlaw03.FeatureReturns", spec := "featureReturns", inPlace := ["math/bits.Add64", "math/bits.Sub64"], unfollowed := true, recurses := true, named := ["earshot/api.Cosines", "math/bits.divideError", "math/bits.overflowError"], apart := false, laid := [("earshot/api.Cosines", laid_earshot_api_Cosines)] }
def FeatureReturnsSaid : Prop := featureReturnsRow.holds Tryd.pinned (OpenSpec.ofChange featureReturnsSpec)

/-- ITS FALSE NEIGHBOUR: 'it returns false'. Refute it at one input. -/
def featureReturnsWrong : ChangeSpec := { name := "featureReturns", fn := fun _ => fun
  | [d] => { results := [.lit (.bool false)], args := [d] }
  | _ => none }
def FeatureReturnsWrongFalsely : Prop := featureReturnsRow.holds Tryd.pinned (OpenSpec.ofChange featureReturnsWrong)

/-- 'earshotlaw03.FeatureBands': WHATEVER THE INPUT: true; the input reads as it did. -/
def featureBandsSpec : ChangeSpec := { name := "featureBands", fn := fun _ => fun
  | [d1, d2] => { results := [.lit (.bool true)], args := [d1, d2] }
  | _ => none }
def featureBandsRow : OpenClaim := { program := "ytoljffghaklpdaadoor", sum := "bbe9ae246e1d7096cffad5f3d957c1a2c8055522d78809d4ba2597ae2c8ad28d", func := "earshot/earshotlaw03.FeatureBands", spec := "featureBands", inPlace := ["math/bits.Add64", "math/bits.Sub64"], unfollowed := true, recurses := true, named := ["earshot/api.Cosines", "math/bits.divideError", "math/bits.overflowError"], apart := false, laid := [("earshot/api.Cosines", laid_earshot_api_Cosines)] }
def FeatureBandsSaid : Prop := featureBandsRow.holds Tryd.pinned (OpenSpec.ofChange featureBandsSpec)

/-- ITS FALSE NEIGHBOUR: 'it returns false'. Refute it at one input. -/
def featureBandsWrong : ChangeSpec := { name := "featureBands", fn := fun _ => fun
  | [d1, d2] => { results := [.lit (.bool false)], args := [d1, d2] }
  | _ => none }
def FeatureBandsWrongFalsely : Prop := featureBandsRow.holds Tryd.pinned (OpenSpec.ofChange featureBandsWrong)

/-- 'earshotlaw03.FeatureGrows': WHATEVER THE INPUT: true; the input reads as it did. -/
def featureGrowsSpec : ChangeSpec := { name := "featureGrows", fn := fun _ => fun
  | [d1, d2, d3] => { results := [.lit (.bool true)], args := [d1, d2, d3] }
  | _ => none }
def featureGrowsRow : OpenClaim := { program := "ytoljffghaklpdaadoor", sum := "bbe9ae246e1d7096cffad5f3d957c1a2c8055522d78809d4ba2597ae2c8ad28d", func := "earshot/earshotlaw03.FeatureGrows", spec := "featureGrows", inPlace := ["math/bits.Add64", "math/bits.Sub64"], unfollowed := true, recurses := true, named := ["earshot/api.Cosines", "math/bits.divideError", "math/bits.overflowError"], apart := false, laid := [("earshot/api.Cosines", laid_earshot_api_Cosines)] }
def FeatureGrowsSaid : Prop := featureGrowsRow.holds Tryd.pinned (OpenSpec.ofChange featureGrowsSpec)

/-- ITS FALSE NEIGHBOUR: 'it returns false'. Refute it at one input. -/
def featureGrowsWrong : ChangeSpec := { name := "featureGrows", fn := fun _ => fun
  | [d1, d2, d3] => { results := [.lit (.bool false)], args := [d1, d2, d3] }
  | _ => none }
def FeatureGrowsWrongFalsely : Prop := featureGrowsRow.holds Tryd.pinned (OpenSpec.ofChange featureGrowsWrong)

/-- 'earshotlaw03.FeatureCepstra': WHATEVER THE INPUT: true; the input reads as it did. -/
def featureCepstraSpec : ChangeSpec := { name := "featureCepstra", fn := fun _ => fun
  | [d1, d2] => { results := [.lit (.bool true)], args := [d1, d2] }
  | _ => none }
def featureCepstraRow : OpenClaim := { program := "ytoljffghaklpdaadoor", sum := "bbe9ae246e1d7096cffad5f3d957c1a2c8055522d78809d4ba2597ae2c8ad28d", func := "earshot/earshotlaw03.FeatureCepstra", spec := "featureCepstra", inPlace := ["math/bits.Add64", "math/bits.Sub64"], unfollowed := true, recurses := true, named := ["earshot/api.Cosines", "math/bits.divideError", "math/bits.overflowError"], apart := false, laid := [("earshot/api.Cosines", laid_earshot_api_Cosines)] }
def FeatureCepstraSaid : Prop := featureCepstraRow.holds Tryd.pinned (OpenSpec.ofChange featureCepstraSpec)

/-- ITS FALSE NEIGHBOUR: 'it returns false'. Refute it at one input. -/
def featureCepstraWrong : ChangeSpec := { name := "featureCepstra", fn := fun _ => fun
  | [d1, d2] => { results := [.lit (.bool false)], args := [d1, d2] }
  | _ => none }
def FeatureCepstraWrongFalsely : Prop := featureCepstraRow.holds Tryd.pinned (OpenSpec.ofChange featureCepstraWrong)

/-- 'earshotlaw03.FeatureVectors': WHATEVER THE INPUT: true; the input reads as it did. -/
def featureVectorsSpec : ChangeSpec := { name := "featureVectors", fn := fun _ => fun
  | [d] => { results := [.lit (.bool true)], args := [d] }
  | _ => none }
def featureVectorsRow : OpenClaim := { program := "ytoljffghaklpdaadoor", sum := "bbe9ae246e1d7096cffad5f3d957c1a2c8055522d78809d4ba2597ae2c8ad28d", func := "earshot/earshotlaw03.FeatureVectors", spec := "featureVectors", inPlace := ["math/bits.Add64", "math/bits.Sub64"], unfollowed := true, recurses := true, named := ["earshot/api.Cosines", "math/bits.divideError", "math/bits.overflowError"], apart := false, laid := [("earshot/api.Cosines", laid_earshot_api_Cosines)] }
def FeatureVectorsSaid : Prop := featureVectorsRow.holds Tryd.pinned (OpenSpec.ofChange featureVectorsSpec)

/-- ITS FALSE NEIGHBOUR: 'it returns false'. Refute it at one input. -/
def featureVectorsWrong : ChangeSpec := { name := "featureVectors", fn := fun _ => fun
  | [d] => { results := [.lit (.bool false)], args := [d] }
  | _ => none }
def FeatureVectorsWrongFalsely : Prop := featureVectorsRow.holds Tryd.pinned (OpenSpec.ofChange featureVectorsWrong)

/-- 'earshotlaw03.FeatureCenters': WHATEVER THE INPUT: true; the input reads as it did. -/
def featureCentersSpec : ChangeSpec := { name := "featureCenters", fn := fun _ => fun
  | [d] => { results := [.lit (.bool true)], args := [d] }
  | _ => none }
def featureCentersRow : OpenClaim := { program := "ytoljffghaklpdaadoor", sum := "bbe9ae246e1d7096cffad5f3d957c1a2c8055522d78809d4ba2597ae2c8ad28d", func := "earshot/earshotlaw03.FeatureCenters", spec := "featureCenters", inPlace := ["math/bits.Add64", "math/bits.Sub64"], unfollowed := true, recurses := true, named := ["earshot/api.Cosines", "math/bits.divideError", "math/bits.overflowError"], apart := false, laid := [("earshot/api.Cosines", laid_earshot_api_Cosines)] }
def FeatureCentersSaid : Prop := featureCentersRow.holds Tryd.pinned (OpenSpec.ofChange featureCentersSpec)

/-- ITS FALSE NEIGHBOUR: 'it returns false'. Refute it at one input. -/
def featureCentersWrong : ChangeSpec := { name := "featureCenters", fn := fun _ => fun
  | [d] => { results := [.lit (.bool false)], args := [d] }
  | _ => none }
def FeatureCentersWrongFalsely : Prop := featureCentersRow.holds Tryd.pinned (OpenSpec.ofChange featureCentersWrong)

/-- 'earshotlaw03.FeatureNearest': WHATEVER THE INPUT: true; the input reads as it did. -/
def featureNearestSpec : ChangeSpec := { name := "featureNearest", fn := fun _ => fun
  | [d1, d2, d3] => { results := [.lit (.bool true)], args := [d1, d2, d3] }
  | _ => none }
def featureNearestRow : OpenClaim := { program := "ytoljffghaklpdaadoor", sum := "bbe9ae246e1d7096cffad5f3d957c1a2c8055522d78809d4ba2597ae2c8ad28d", func := "earshot/earshotlaw03.FeatureNearest", spec := "featureNearest", inPlace := ["math/bits.Add64", "math/bits.Sub64"], unfollowed := true, recurses := true, named := ["earshot/api.Cosines", "math/bits.divideError", "math/bits.overflowError"], apart := false, laid := [("earshot/api.Cosines", laid_earshot_api_Cosines)] }
def FeatureNearestSaid : Prop := featureNearestRow.holds Tryd.pinned (OpenSpec.ofChange featureNearestSpec)

/-- ITS FALSE NEIGHBOUR: 'it returns false'. Refute it at one input. -/
def featureNearestWrong : ChangeSpec := { name := "featureNearest", fn := fun _ => fun
  | [d1, d2, d3] => { results := [.lit (.bool false)], args := [d1, d2, d3] }
  | _ => none }
def FeatureNearestWrongFalsely : Prop := featureNearestRow.holds Tryd.pinned (OpenSpec.ofChange featureNearestWrong)

/-- 'earshotlaw03.FeatureQuantizes': WHATEVER THE INPUT: true; the input reads as it did. -/
def featureQuantizesSpec : ChangeSpec := { name := "featureQuantizes", fn := fun _ => fun
  | [d1, d2] => { results := [.lit (.bool true)], args := [d1, d2] }
  | _ => none }
def featureQuantizesRow : OpenClaim := { program := "ytoljffghaklpdaadoor", sum := "bbe9ae246e1d7096cffad5f3d957c1a2c8055522d78809d4ba2597ae2c8ad28d", func := "earshot/earshotlaw03.FeatureQuantizes", spec := "featureQuantizes", inPlace := ["math/bits.Add64", "math/bits.Sub64"], unfollowed := true, recurses := true, named := ["earshot/api.Cosines", "math/bits.divideError", "math/bits.overflowError"], apart := false, laid := [("earshot/api.Cosines", laid_earshot_api_Cosines)] }
def FeatureQuantizesSaid : Prop := featureQuantizesRow.holds Tryd.pinned (OpenSpec.ofChange featureQuantizesSpec)

/-- ITS FALSE NEIGHBOUR: 'it returns false'. Refute it at one input. -/
def featureQuantizesWrong : ChangeSpec := { name := "featureQuantizes", fn := fun _ => fun
  | [d1, d2] => { results := [.lit (.bool false)], args := [d1, d2] }
  | _ => none }
def FeatureQuantizesWrongFalsely : Prop := featureQuantizesRow.holds Tryd.pinned (OpenSpec.ofChange featureQuantizesWrong)

/-- 'earshotlaw03.FeatureFalls': WHATEVER THE INPUT: true; the input reads as it did. -/
def featureFallsSpec : ChangeSpec := { name := "featureFalls", fn := fun _ => fun
  | [d1, d2, d3] => { results := [.lit (.bool true)], args := [d1, d2, d3] }
  | _ => none }
def featureFallsRow : OpenClaim := { program := "ytoljffghaklpdaadoor", sum := "bbe9ae246e1d7096cffad5f3d957c1a2c8055522d78809d4ba2597ae2c8ad28d", func := "earshot/earshotlaw03.FeatureFalls", spec := "featureFalls", inPlace := ["math/bits.Add64", "math/bits.Sub64"], unfollowed := true, recurses := true, named := ["earshot/api.Cosines", "math/bits.divideError", "math/bits.overflowError"], apart := false, laid := [("earshot/api.Cosines", laid_earshot_api_Cosines)] }
def FeatureFallsSaid : Prop := featureFallsRow.holds Tryd.pinned (OpenSpec.ofChange featureFallsSpec)

/-- ITS FALSE NEIGHBOUR: 'it returns false'. Refute it at one input. -/
def featureFallsWrong : ChangeSpec := { name := "featureFalls", fn := fun _ => fun
  | [d1, d2, d3] => { results := [.lit (.bool false)], args := [d1, d2, d3] }
  | _ => none }
def FeatureFallsWrongFalsely : Prop := featureFallsRow.holds Tryd.pinned (OpenSpec.ofChange featureFallsWrong)

/- THE SECOND FORM. 'bulk': how many values and letters a reading holds, each counted each time it is reached (what is shared counts as often as it is met; a slice's spare places count too). A statement '..UptoSaid' is the law's where the arguments, and the package variables that the reading takes, are together of bulk at most 1048576: NARROWER than '..Said'. Prove '..Said' where nothing that the law and all that it calls make is longer than what came in: it says more and counts as full. Else prove '..UptoSaid'. A law counts once. -/
mutual
def uptoBulk {H : Type} : DataW H → Nat
  | .lit (.string bytes) => bytes.length + 1
  | .lit _ => 1
  | .nil => 1
  | .ptr d => uptoBulk d + 1
  | .slice elems spare => uptoBulkAll elems + uptoBulkAll spare + 1
  | .agg parts => uptoBulkAll parts + 1
  | .iface _ d => uptoBulk d + 1
  | .map entries => uptoBulkEntries entries + 1
  | .held _ => 1
def uptoBulkAll {H : Type} : List (DataW H) → Nat
  | [] => 0
  | d :: r => uptoBulk d + uptoBulkAll r
def uptoBulkEntries {H : Type} : List (Lit × DataW H) → Nat
  | [] => 0
  | x :: r => uptoBulkEntry x + uptoBulkEntries r
def uptoBulkEntry {H : Type} : Lit × DataW H → Nat
  | (.string bytes, d) => bytes.length + uptoBulk d + 1
  | (_, d) => uptoBulk d + 1
 end
def uptoSmall : (H : Type) → List (DataW H) → Bool := fun _ ds => decide (uptoBulkAll ds ≤ 1048576)
def OpenSpec.upto (s : _root_.Go.ChangeSpec) : _root_.Go.OpenSpec := { _root_.Go.OpenSpec.ofChange s with cond := some uptoSmall }

/-- 'earshotlaw03.FeatureTable', WHERE WHAT IT READS IS OF BULK AT MOST 1048576: true; the input reads as it did. -/
def featureTableUptoRow : OpenClaim := { program := "ytoljffghaklpdaadoor", sum := "bbe9ae246e1d7096cffad5f3d957c1a2c8055522d78809d4ba2597ae2c8ad28d", func := "earshot/earshotlaw03.FeatureTable", spec := "featureTable", inPlace := ["math/bits.Add64", "math/bits.Sub64"], unfollowed := true, recurses := true, named := ["earshot/api.Cosines", "math/bits.divideError", "math/bits.overflowError"], apart := false, laid := [("earshot/api.Cosines", laid_earshot_api_Cosines)], narrowed := true }
def FeatureTableUptoSaid : Prop := featureTableUptoRow.holds Tryd.pinned (OpenSpec.upto featureTableSpec)

/-- 'earshotlaw03.FeatureTransforms', WHERE WHAT IT READS IS OF BULK AT MOST 1048576: true; the input reads as it did. -/
def featureTransformsUptoRow : OpenClaim := { program := "ytoljffghaklpdaadoor", sum := "bbe9ae246e1d7096cffad5f3d957c1a2c8055522d78809d4ba2597ae2c8ad28d", func := "earshot/earshotlaw03.FeatureTransforms", spec := "featureTransforms", inPlace := ["math/bits.Add64", "math/bits.Sub64"], unfollowed := true, recurses := true, named := ["earshot/api.Cosines", "math/bits.divideError", "math/bits.overflowError"], apart := false, laid := [("earshot/api.Cosines", laid_earshot_api_Cosines)], narrowed := true }
def FeatureTransformsUptoSaid : Prop := featureTransformsUptoRow.holds Tryd.pinned (OpenSpec.upto featureTransformsSpec)

/-- 'earshotlaw03.FeatureInverses', WHERE WHAT IT READS IS OF BULK AT MOST 1048576: true; the input reads as it did. -/
def featureInversesUptoRow : OpenClaim := { program := "ytoljffghaklpdaadoor", sum := "bbe9ae246e1d7096cffad5f3d957c1a2c8055522d78809d4ba2597ae2c8ad28d", func := "earshot/earshotlaw03.FeatureInverses", spec := "featureInverses", inPlace := ["math/bits.Add64", "math/bits.Sub64"], unfollowed := true, recurses := true, named := ["earshot/api.Cosines", "math/bits.divideError", "math/bits.overflowError"], apart := false, laid := [("earshot/api.Cosines", laid_earshot_api_Cosines)], narrowed := true }
def FeatureInversesUptoSaid : Prop := featureInversesUptoRow.holds Tryd.pinned (OpenSpec.upto featureInversesSpec)

/-- 'earshotlaw03.FeatureLinear', WHERE WHAT IT READS IS OF BULK AT MOST 1048576: true; the input reads as it did. -/
def featureLinearUptoRow : OpenClaim := { program := "ytoljffghaklpdaadoor", sum := "bbe9ae246e1d7096cffad5f3d957c1a2c8055522d78809d4ba2597ae2c8ad28d", func := "earshot/earshotlaw03.FeatureLinear", spec := "featureLinear", inPlace := ["math/bits.Add64", "math/bits.Sub64"], unfollowed := true, recurses := true, named := ["earshot/api.Cosines", "math/bits.divideError", "math/bits.overflowError"], apart := false, laid := [("earshot/api.Cosines", laid_earshot_api_Cosines)], narrowed := true }
def FeatureLinearUptoSaid : Prop := featureLinearUptoRow.holds Tryd.pinned (OpenSpec.upto featureLinearSpec)

/-- 'earshotlaw03.FeatureReturns', WHERE WHAT IT READS IS OF BULK AT MOST 1048576: true; the input reads as it did. -/
def featureReturnsUptoRow : OpenClaim := { program := "ytoljffghaklpdaadoor", sum := "bbe9ae246e1d7096cffad5f3d957c1a2c8055522d78809d4ba2597ae2c8ad28d", func := "earshot/earshotlaw03.FeatureReturns", spec := "featureReturns", inPlace := ["math/bits.Add64", "math/bits.Sub64"], unfollowed := true, recurses := true, named := ["earshot/api.Cosines", "math/bits.divideError", "math/bits.overflowError"], apart := false, laid := [("earshot/api.Cosines", laid_earshot_api_Cosines)], narrowed := true }
def FeatureReturnsUptoSaid : Prop := featureReturnsUptoRow.holds Tryd.pinned (OpenSpec.upto featureReturnsSpec)

/-- 'earshotlaw03.FeatureBands', WHERE WHAT IT READS IS OF BULK AT MOST 1048576: true; the input reads as it did. -/
def featureBandsUptoRow : OpenClaim := { program := "ytoljffghaklpdaadoor", sum := "bbe9ae246e1d7096cffad5f3d957c1a2c8055522d78809d4ba2597ae2c8ad28d", func := "earshot/earshotlaw03.FeatureBands", spec := "featureBands", inPlace := ["math/bits.Add64", "math/bits.Sub64"], unfollowed := true, recurses := true, named := ["earshot/api.Cosines", "math/bits.divideError", "math/bits.overflowError"], apart := false, laid := [("earshot/api.Cosines", laid_earshot_api_Cosines)], narrowed := true }
def FeatureBandsUptoSaid : Prop := featureBandsUptoRow.holds Tryd.pinned (OpenSpec.upto featureBandsSpec)

/-- 'earshotlaw03.FeatureGrows', WHERE WHAT IT READS IS OF BULK AT MOST 1048576: true; the input reads as it did. -/
def featureGrowsUptoRow : OpenClaim := { program := "ytoljffghaklpdaadoor", sum := "bbe9ae246e1d7096cffad5f3d957c1a2c8055522d78809d4ba2597ae2c8ad28d", func := "earshot/earshotlaw03.FeatureGrows", spec := "featureGrows", inPlace := ["math/bits.Add64", "math/bits.Sub64"], unfollowed := true, recurses := true, named := ["earshot/api.Cosines", "math/bits.divideError", "math/bits.overflowError"], apart := false, laid := [("earshot/api.Cosines", laid_earshot_api_Cosines)], narrowed := true }
def FeatureGrowsUptoSaid : Prop := featureGrowsUptoRow.holds Tryd.pinned (OpenSpec.upto featureGrowsSpec)

/-- 'earshotlaw03.FeatureCepstra', WHERE WHAT IT READS IS OF BULK AT MOST 1048576: true; the input reads as it did. -/
def featureCepstraUptoRow : OpenClaim := { program := "ytoljffghaklpdaadoor", sum := "bbe9ae246e1d7096cffad5f3d957c1a2c8055522d78809d4ba2597ae2c8ad28d", func := "earshot/earshotlaw03.FeatureCepstra", spec := "featureCepstra", inPlace := ["math/bits.Add64", "math/bits.Sub64"], unfollowed := true, recurses := true, named := ["earshot/api.Cosines", "math/bits.divideError", "math/bits.overflowError"], apart := false, laid := [("earshot/api.Cosines", laid_earshot_api_Cosines)], narrowed := true }
def FeatureCepstraUptoSaid : Prop := featureCepstraUptoRow.holds Tryd.pinned (OpenSpec.upto featureCepstraSpec)

/-- 'earshotlaw03.FeatureVectors', WHERE WHAT IT READS IS OF BULK AT MOST 1048576: true; the input reads as it did. -/
def featureVectorsUptoRow : OpenClaim := { program := "ytoljffghaklpdaadoor", sum := "bbe9ae246e1d7096cffad5f3d957c1a2c8055522d78809d4ba2597ae2c8ad28d", func := "earshot/earshotlaw03.FeatureVectors", spec := "featureVectors", inPlace := ["math/bits.Add64", "math/bits.Sub64"], unfollowed := true, recurses := true, named := ["earshot/api.Cosines", "math/bits.divideError", "math/bits.overflowError"], apart := false, laid := [("earshot/api.Cosines", laid_earshot_api_Cosines)], narrowed := true }
def FeatureVectorsUptoSaid : Prop := featureVectorsUptoRow.holds Tryd.pinned (OpenSpec.upto featureVectorsSpec)

/-- 'earshotlaw03.FeatureCenters', WHERE WHAT IT READS IS OF BULK AT MOST 1048576: true; the input reads as it did. -/
def featureCentersUptoRow : OpenClaim := { program := "ytoljffghaklpdaadoor", sum := "bbe9ae246e1d7096cffad5f3d957c1a2c8055522d78809d4ba2597ae2c8ad28d", func := "earshot/earshotlaw03.FeatureCenters", spec := "featureCenters", inPlace := ["math/bits.Add64", "math/bits.Sub64"], unfollowed := true, recurses := true, named := ["earshot/api.Cosines", "math/bits.divideError", "math/bits.overflowError"], apart := false, laid := [("earshot/api.Cosines", laid_earshot_api_Cosines)], narrowed := true }
def FeatureCentersUptoSaid : Prop := featureCentersUptoRow.holds Tryd.pinned (OpenSpec.upto featureCentersSpec)

/-- 'earshotlaw03.FeatureNearest', WHERE WHAT IT READS IS OF BULK AT MOST 1048576: true; the input reads as it did. -/
def featureNearestUptoRow : OpenClaim := { program := "ytoljffghaklpdaadoor", sum := "bbe9ae246e1d7096cffad5f3d957c1a2c8055522d78809d4ba2597ae2c8ad28d", func := "earshot/earshotlaw03.FeatureNearest", spec := "featureNearest", inPlace := ["math/bits.Add64", "math/bits.Sub64"], unfollowed := true, recurses := true, named := ["earshot/api.Cosines", "math/bits.divideError", "math/bits.overflowError"], apart := false, laid := [("earshot/api.Cosines", laid_earshot_api_Cosines)], narrowed := true }
def FeatureNearestUptoSaid : Prop := featureNearestUptoRow.holds Tryd.pinned (OpenSpec.upto featureNearestSpec)

/-- 'earshotlaw03.FeatureQuantizes', WHERE WHAT IT READS IS OF BULK AT MOST 1048576: true; the input reads as it did. -/
def featureQuantizesUptoRow : OpenClaim := { program := "ytoljffghaklpdaadoor", sum := "bbe9ae246e1d7096cffad5f3d957c1a2c8055522d78809d4ba2597ae2c8ad28d", func := "earshot/earshotlaw03.FeatureQuantizes", spec := "featureQuantizes", inPlace := ["math/bits.Add64", "math/bits.Sub64"], unfollowed := true, recurses := true, named := ["earshot/api.Cosines", "math/bits.divideError", "math/bits.overflowError"], apart := false, laid := [("earshot/api.Cosines", laid_earshot_api_Cosines)], narrowed := true }
def FeatureQuantizesUptoSaid : Prop := featureQuantizesUptoRow.holds Tryd.pinned (OpenSpec.upto featureQuantizesSpec)

/-- 'earshotlaw03.FeatureFalls', WHERE WHAT IT READS IS OF BULK AT MOST 1048576: true; the input reads as it did. -/
def featureFallsUptoRow : OpenClaim := { program := "ytoljffghaklpdaadoor", sum := "bbe9ae246e1d7096cffad5f3d957c1a2c8055522d78809d4ba2597ae2c8ad28d", func := "earshot/earshotlaw03.FeatureFalls", spec := "featureFalls", inPlace := ["math/bits.Add64", "math/bits.Sub64"], unfollowed := true, recurses := true, named := ["earshot/api.Cosines", "math/bits.divideError", "math/bits.overflowError"], apart := false, laid := [("earshot/api.Cosines", laid_earshot_api_Cosines)], narrowed := true }
def FeatureFallsUptoSaid : Prop := featureFallsUptoRow.holds Tryd.pinned (OpenSpec.upto featureFallsSpec)

end Rows
end Go.Proofs.YtoljffghaklpdaaDoor
