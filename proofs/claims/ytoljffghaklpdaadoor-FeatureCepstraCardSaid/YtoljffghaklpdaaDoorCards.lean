/-
  DERIVED. GIVEN WITH THE SEED: THE CARDS: each row of YtoljffghaklpdaaDoorRows.lean that lists a variable, with what it lists TIED to the program's text (the seventh form; the later family's looks); each row that meets fmt, with fmt's text TOLD by the authors' own Lean function (tested against real Go, not proved from fmt's source: count such statements apart). THE CARD IS WHAT COUNTS. Prove the row's statement (the work); the ties are given (YtoljffghaklpdaaDoorTie.lean); close each card by the builder's one call (the guide's Derived/Test/ToyasCard.lean, 'card_holds'). Laid BY PROGRAM, IN A SANDBOX (cutbox-door.mjs). By AI agents, Wed Nov 11 2026. No macro, syntax, notation, axiom, sorry.
-/
import Derived.Test.YtoljffghaklpdaaDoorRows
import GoSem.ClaimSeven
namespace Go.Proofs.YtoljffghaklpdaaDoor
namespace Rows

/-- THE TIED CARD OF 'earshotlaw03.FeatureTable'. -/
def featureTableCard : Claim7 := { stood := { row := featureTableRow, standIns := [], harness := (true, "b288fe4f51d44f849ba29a68a58e361179e27aa22ce9becea2c6b29d55dfefe8"), looks := false }, kinds := [], alts := [], laidByText := true, laidKinds := [.data], laidTests := true, laidLooks := .later }
def FeatureTableCardSaid : Prop := Claim7.holds Tryd.pinned (.plain (OpenSpec.ofChange featureTableSpec)) featureTableCard

/-- THE TIED CARD OF 'earshotlaw03.FeatureTransforms'. -/
def featureTransformsCard : Claim7 := { stood := { row := featureTransformsRow, standIns := [], harness := (true, "b288fe4f51d44f849ba29a68a58e361179e27aa22ce9becea2c6b29d55dfefe8"), looks := false }, kinds := [], alts := [], laidByText := true, laidKinds := [.data], laidTests := true, laidLooks := .later }
def FeatureTransformsCardSaid : Prop := Claim7.holds Tryd.pinned (.plain (OpenSpec.ofChange featureTransformsSpec)) featureTransformsCard

/-- THE TIED CARD OF 'earshotlaw03.FeatureInverses'. -/
def featureInversesCard : Claim7 := { stood := { row := featureInversesRow, standIns := [], harness := (true, "b288fe4f51d44f849ba29a68a58e361179e27aa22ce9becea2c6b29d55dfefe8"), looks := false }, kinds := [], alts := [], laidByText := true, laidKinds := [.data], laidTests := true, laidLooks := .later }
def FeatureInversesCardSaid : Prop := Claim7.holds Tryd.pinned (.plain (OpenSpec.ofChange featureInversesSpec)) featureInversesCard

/-- THE TIED CARD OF 'earshotlaw03.FeatureLinear'. -/
def featureLinearCard : Claim7 := { stood := { row := featureLinearRow, standIns := [], harness := (true, "b288fe4f51d44f849ba29a68a58e361179e27aa22ce9becea2c6b29d55dfefe8"), looks := false }, kinds := [], alts := [], laidByText := true, laidKinds := [.data], laidTests := true, laidLooks := .later }
def FeatureLinearCardSaid : Prop := Claim7.holds Tryd.pinned (.plain (OpenSpec.ofChange featureLinearSpec)) featureLinearCard

/-- THE TIED CARD OF 'earshotlaw03.FeatureReturns'. -/
def featureReturnsCard : Claim7 := { stood := { row := featureReturnsRow, standIns := [], harness := (true, "b288fe4f51d44f849ba29a68a58e361179e27aa22ce9becea2c6b29d55dfefe8"), looks := false }, kinds := [], alts := [], laidByText := true, laidKinds := [.data], laidTests := true, laidLooks := .later }
def FeatureReturnsCardSaid : Prop := Claim7.holds Tryd.pinned (.plain (OpenSpec.ofChange featureReturnsSpec)) featureReturnsCard

/-- THE TIED CARD OF 'earshotlaw03.FeatureBands'. -/
def featureBandsCard : Claim7 := { stood := { row := featureBandsRow, standIns := [], harness := (true, "b288fe4f51d44f849ba29a68a58e361179e27aa22ce9becea2c6b29d55dfefe8"), looks := false }, kinds := [], alts := [], laidByText := true, laidKinds := [.data], laidTests := true, laidLooks := .later }
def FeatureBandsCardSaid : Prop := Claim7.holds Tryd.pinned (.plain (OpenSpec.ofChange featureBandsSpec)) featureBandsCard

/-- THE TIED CARD OF 'earshotlaw03.FeatureGrows'. -/
def featureGrowsCard : Claim7 := { stood := { row := featureGrowsRow, standIns := [], harness := (true, "b288fe4f51d44f849ba29a68a58e361179e27aa22ce9becea2c6b29d55dfefe8"), looks := false }, kinds := [], alts := [], laidByText := true, laidKinds := [.data], laidTests := true, laidLooks := .later }
def FeatureGrowsCardSaid : Prop := Claim7.holds Tryd.pinned (.plain (OpenSpec.ofChange featureGrowsSpec)) featureGrowsCard

/-- THE TIED CARD OF 'earshotlaw03.FeatureCepstra'. -/
def featureCepstraCard : Claim7 := { stood := { row := featureCepstraRow, standIns := [], harness := (true, "b288fe4f51d44f849ba29a68a58e361179e27aa22ce9becea2c6b29d55dfefe8"), looks := false }, kinds := [], alts := [], laidByText := true, laidKinds := [.data], laidTests := true, laidLooks := .later }
def FeatureCepstraCardSaid : Prop := Claim7.holds Tryd.pinned (.plain (OpenSpec.ofChange featureCepstraSpec)) featureCepstraCard

/-- THE TIED CARD OF 'earshotlaw03.FeatureVectors'. -/
def featureVectorsCard : Claim7 := { stood := { row := featureVectorsRow, standIns := [], harness := (true, "b288fe4f51d44f849ba29a68a58e361179e27aa22ce9becea2c6b29d55dfefe8"), looks := false }, kinds := [], alts := [], laidByText := true, laidKinds := [.data], laidTests := true, laidLooks := .later }
def FeatureVectorsCardSaid : Prop := Claim7.holds Tryd.pinned (.plain (OpenSpec.ofChange featureVectorsSpec)) featureVectorsCard

/-- THE TIED CARD OF 'earshotlaw03.FeatureCenters'. -/
def featureCentersCard : Claim7 := { stood := { row := featureCentersRow, standIns := [], harness := (true, "b288fe4f51d44f849ba29a68a58e361179e27aa22ce9becea2c6b29d55dfefe8"), looks := false }, kinds := [], alts := [], laidByText := true, laidKinds := [.data], laidTests := true, laidLooks := .later }
def FeatureCentersCardSaid : Prop := Claim7.holds Tryd.pinned (.plain (OpenSpec.ofChange featureCentersSpec)) featureCentersCard

/-- THE TIED CARD OF 'earshotlaw03.FeatureNearest'. -/
def featureNearestCard : Claim7 := { stood := { row := featureNearestRow, standIns := [], harness := (true, "b288fe4f51d44f849ba29a68a58e361179e27aa22ce9becea2c6b29d55dfefe8"), looks := false }, kinds := [], alts := [], laidByText := true, laidKinds := [.data], laidTests := true, laidLooks := .later }
def FeatureNearestCardSaid : Prop := Claim7.holds Tryd.pinned (.plain (OpenSpec.ofChange featureNearestSpec)) featureNearestCard

/-- THE TIED CARD OF 'earshotlaw03.FeatureQuantizes'. -/
def featureQuantizesCard : Claim7 := { stood := { row := featureQuantizesRow, standIns := [], harness := (true, "b288fe4f51d44f849ba29a68a58e361179e27aa22ce9becea2c6b29d55dfefe8"), looks := false }, kinds := [], alts := [], laidByText := true, laidKinds := [.data], laidTests := true, laidLooks := .later }
def FeatureQuantizesCardSaid : Prop := Claim7.holds Tryd.pinned (.plain (OpenSpec.ofChange featureQuantizesSpec)) featureQuantizesCard

/-- THE TIED CARD OF 'earshotlaw03.FeatureFalls'. -/
def featureFallsCard : Claim7 := { stood := { row := featureFallsRow, standIns := [], harness := (true, "b288fe4f51d44f849ba29a68a58e361179e27aa22ce9becea2c6b29d55dfefe8"), looks := false }, kinds := [], alts := [], laidByText := true, laidKinds := [.data], laidTests := true, laidLooks := .later }
def FeatureFallsCardSaid : Prop := Claim7.holds Tryd.pinned (.plain (OpenSpec.ofChange featureFallsSpec)) featureFallsCard

/-- THE SECOND FORM's CARD OF 'earshotlaw03.FeatureTable'. -/
def featureTableUptoCard : Claim7 := { stood := { row := featureTableUptoRow, standIns := [], harness := (true, "b288fe4f51d44f849ba29a68a58e361179e27aa22ce9becea2c6b29d55dfefe8"), looks := false }, kinds := [], alts := [], laidByText := true, laidKinds := [.data], laidTests := true, laidLooks := .later }
def FeatureTableUptoCardSaid : Prop := Claim7.holds Tryd.pinned (.plain (OpenSpec.upto featureTableSpec)) featureTableUptoCard

/-- THE SECOND FORM's CARD OF 'earshotlaw03.FeatureTransforms'. -/
def featureTransformsUptoCard : Claim7 := { stood := { row := featureTransformsUptoRow, standIns := [], harness := (true, "b288fe4f51d44f849ba29a68a58e361179e27aa22ce9becea2c6b29d55dfefe8"), looks := false }, kinds := [], alts := [], laidByText := true, laidKinds := [.data], laidTests := true, laidLooks := .later }
def FeatureTransformsUptoCardSaid : Prop := Claim7.holds Tryd.pinned (.plain (OpenSpec.upto featureTransformsSpec)) featureTransformsUptoCard

/-- THE SECOND FORM's CARD OF 'earshotlaw03.FeatureInverses'. -/
def featureInversesUptoCard : Claim7 := { stood := { row := featureInversesUptoRow, standIns := [], harness := (true, "b288fe4f51d44f849ba29a68a58e361179e27aa22ce9becea2c6b29d55dfefe8"), looks := false }, kinds := [], alts := [], laidByText := true, laidKinds := [.data], laidTests := true, laidLooks := .later }
def FeatureInversesUptoCardSaid : Prop := Claim7.holds Tryd.pinned (.plain (OpenSpec.upto featureInversesSpec)) featureInversesUptoCard

/-- THE SECOND FORM's CARD OF 'earshotlaw03.FeatureLinear'. -/
def featureLinearUptoCard : Claim7 := { stood := { row := featureLinearUptoRow, standIns := [], harness := (true, "b288fe4f51d44f849ba29a68a58e361179e27aa22ce9becea2c6b29d55dfefe8"), looks := false }, kinds := [], alts := [], laidByText := true, laidKinds := [.data], laidTests := true, laidLooks := .later }
def FeatureLinearUptoCardSaid : Prop := Claim7.holds Tryd.pinned (.plain (OpenSpec.upto featureLinearSpec)) featureLinearUptoCard

/-- THE SECOND FORM's CARD OF 'earshotlaw03.FeatureReturns'. -/
def featureReturnsUptoCard : Claim7 := { stood := { row := featureReturnsUptoRow, standIns := [], harness := (true, "b288fe4f51d44f849ba29a68a58e361179e27aa22ce9becea2c6b29d55dfefe8"), looks := false }, kinds := [], alts := [], laidByText := true, laidKinds := [.data], laidTests := true, laidLooks := .later }
def FeatureReturnsUptoCardSaid : Prop := Claim7.holds Tryd.pinned (.plain (OpenSpec.upto featureReturnsSpec)) featureReturnsUptoCard

/-- THE SECOND FORM's CARD OF 'earshotlaw03.FeatureBands'. -/
def featureBandsUptoCard : Claim7 := { stood := { row := featureBandsUptoRow, standIns := [], harness := (true, "b288fe4f51d44f849ba29a68a58e361179e27aa22ce9becea2c6b29d55dfefe8"), looks := false }, kinds := [], alts := [], laidByText := true, laidKinds := [.data], laidTests := true, laidLooks := .later }
def FeatureBandsUptoCardSaid : Prop := Claim7.holds Tryd.pinned (.plain (OpenSpec.upto featureBandsSpec)) featureBandsUptoCard

/-- THE SECOND FORM's CARD OF 'earshotlaw03.FeatureGrows'. -/
def featureGrowsUptoCard : Claim7 := { stood := { row := featureGrowsUptoRow, standIns := [], harness := (true, "b288fe4f51d44f849ba29a68a58e361179e27aa22ce9becea2c6b29d55dfefe8"), looks := false }, kinds := [], alts := [], laidByText := true, laidKinds := [.data], laidTests := true, laidLooks := .later }
def FeatureGrowsUptoCardSaid : Prop := Claim7.holds Tryd.pinned (.plain (OpenSpec.upto featureGrowsSpec)) featureGrowsUptoCard

/-- THE SECOND FORM's CARD OF 'earshotlaw03.FeatureCepstra'. -/
def featureCepstraUptoCard : Claim7 := { stood := { row := featureCepstraUptoRow, standIns := [], harness := (true, "b288fe4f51d44f849ba29a68a58e361179e27aa22ce9becea2c6b29d55dfefe8"), looks := false }, kinds := [], alts := [], laidByText := true, laidKinds := [.data], laidTests := true, laidLooks := .later }
def FeatureCepstraUptoCardSaid : Prop := Claim7.holds Tryd.pinned (.plain (OpenSpec.upto featureCepstraSpec)) featureCepstraUptoCard

/-- THE SECOND FORM's CARD OF 'earshotlaw03.FeatureVectors'. -/
def featureVectorsUptoCard : Claim7 := { stood := { row := featureVectorsUptoRow, standIns := [], harness := (true, "b288fe4f51d44f849ba29a68a58e361179e27aa22ce9becea2c6b29d55dfefe8"), looks := false }, kinds := [], alts := [], laidByText := true, laidKinds := [.data], laidTests := true, laidLooks := .later }
def FeatureVectorsUptoCardSaid : Prop := Claim7.holds Tryd.pinned (.plain (OpenSpec.upto featureVectorsSpec)) featureVectorsUptoCard

/-- THE SECOND FORM's CARD OF 'earshotlaw03.FeatureCenters'. -/
def featureCentersUptoCard : Claim7 := { stood := { row := featureCentersUptoRow, standIns := [], harness := (true, "b288fe4f51d44f849ba29a68a58e361179e27aa22ce9becea2c6b29d55dfefe8"), looks := false }, kinds := [], alts := [], laidByText := true, laidKinds := [.data], laidTests := true, laidLooks := .later }
def FeatureCentersUptoCardSaid : Prop := Claim7.holds Tryd.pinned (.plain (OpenSpec.upto featureCentersSpec)) featureCentersUptoCard

/-- THE SECOND FORM's CARD OF 'earshotlaw03.FeatureNearest'. -/
def featureNearestUptoCard : Claim7 := { stood := { row := featureNearestUptoRow, standIns := [], harness := (true, "b288fe4f51d44f849ba29a68a58e361179e27aa22ce9becea2c6b29d55dfefe8"), looks := false }, kinds := [], alts := [], laidByText := true, laidKinds := [.data], laidTests := true, laidLooks := .later }
def FeatureNearestUptoCardSaid : Prop := Claim7.holds Tryd.pinned (.plain (OpenSpec.upto featureNearestSpec)) featureNearestUptoCard

/-- THE SECOND FORM's CARD OF 'earshotlaw03.FeatureQuantizes'. -/
def featureQuantizesUptoCard : Claim7 := { stood := { row := featureQuantizesUptoRow, standIns := [], harness := (true, "b288fe4f51d44f849ba29a68a58e361179e27aa22ce9becea2c6b29d55dfefe8"), looks := false }, kinds := [], alts := [], laidByText := true, laidKinds := [.data], laidTests := true, laidLooks := .later }
def FeatureQuantizesUptoCardSaid : Prop := Claim7.holds Tryd.pinned (.plain (OpenSpec.upto featureQuantizesSpec)) featureQuantizesUptoCard

/-- THE SECOND FORM's CARD OF 'earshotlaw03.FeatureFalls'. -/
def featureFallsUptoCard : Claim7 := { stood := { row := featureFallsUptoRow, standIns := [], harness := (true, "b288fe4f51d44f849ba29a68a58e361179e27aa22ce9becea2c6b29d55dfefe8"), looks := false }, kinds := [], alts := [], laidByText := true, laidKinds := [.data], laidTests := true, laidLooks := .later }
def FeatureFallsUptoCardSaid : Prop := Claim7.holds Tryd.pinned (.plain (OpenSpec.upto featureFallsSpec)) featureFallsUptoCard
end Rows
end Go.Proofs.YtoljffghaklpdaaDoor
