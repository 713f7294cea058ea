/-
  DERIVED. GIVEN WITH THE SEED: THE CARDS: each row of YtfgiiidfpbpniaaDoorRows.lean that lists a variable, with what it lists TIED to the program's text (the seventh form; the later family's looks); each row that meets fmt, with fmt's text TOLD by the authors' own Lean function (tested against real Go, not proved from fmt's source: count such statements apart). THE CARD IS WHAT COUNTS. Prove the row's statement (the work); the ties are given (YtfgiiidfpbpniaaDoorTie.lean); close each card by the builder's one call (the guide's Derived/Test/ToyasCard.lean, 'card_holds'). Laid BY PROGRAM, IN A SANDBOX (cutbox-door.mjs). By AI agents, Wed Nov 11 2026. No macro, syntax, notation, axiom, sorry.
-/
import Derived.Test.YtfgiiidfpbpniaaDoorRows
import GoSem.ClaimSeven
namespace Go.Proofs.YtfgiiidfpbpniaaDoor
namespace Rows

/-- THE TIED CARD OF 'earshotlaw03.FeatureLinear'. -/
def featureLinearCard : Claim7 := { stood := { row := featureLinearRow, standIns := [], harness := (true, "a404b254d226345166a5c6458725a957d7a10a0642cc58390b5b0dc7926ed59f"), looks := false }, kinds := [], alts := [], laidByText := true, laidKinds := [.data], laidTests := true, laidLooks := .later }
def FeatureLinearCardSaid : Prop := Claim7.holds Tryd.pinned (.plain (OpenSpec.ofChange featureLinearSpec)) featureLinearCard

/-- THE TIED CARD OF 'earshotlaw03.FeatureReturns'. -/
def featureReturnsCard : Claim7 := { stood := { row := featureReturnsRow, standIns := [], harness := (true, "a404b254d226345166a5c6458725a957d7a10a0642cc58390b5b0dc7926ed59f"), looks := false }, kinds := [], alts := [], laidByText := true, laidKinds := [.data], laidTests := true, laidLooks := .later }
def FeatureReturnsCardSaid : Prop := Claim7.holds Tryd.pinned (.plain (OpenSpec.ofChange featureReturnsSpec)) featureReturnsCard

/-- THE TIED CARD OF 'earshotlaw03.FeatureBands'. -/
def featureBandsCard : Claim7 := { stood := { row := featureBandsRow, standIns := [], harness := (true, "a404b254d226345166a5c6458725a957d7a10a0642cc58390b5b0dc7926ed59f"), looks := false }, kinds := [], alts := [], laidByText := true, laidKinds := [.data], laidTests := true, laidLooks := .later }
def FeatureBandsCardSaid : Prop := Claim7.holds Tryd.pinned (.plain (OpenSpec.ofChange featureBandsSpec)) featureBandsCard

/-- THE TIED CARD OF 'earshotlaw03.FeatureVectors'. -/
def featureVectorsCard : Claim7 := { stood := { row := featureVectorsRow, standIns := [], harness := (true, "a404b254d226345166a5c6458725a957d7a10a0642cc58390b5b0dc7926ed59f"), looks := false }, kinds := [], alts := [], laidByText := true, laidKinds := [.data], laidTests := true, laidLooks := .later }
def FeatureVectorsCardSaid : Prop := Claim7.holds Tryd.pinned (.plain (OpenSpec.ofChange featureVectorsSpec)) featureVectorsCard

/-- THE TIED CARD OF 'earshotlaw03.FeatureCenters'. -/
def featureCentersCard : Claim7 := { stood := { row := featureCentersRow, standIns := [], harness := (true, "a404b254d226345166a5c6458725a957d7a10a0642cc58390b5b0dc7926ed59f"), looks := false }, kinds := [], alts := [], laidByText := true, laidKinds := [.data], laidTests := true, laidLooks := .later }
def FeatureCentersCardSaid : Prop := Claim7.holds Tryd.pinned (.plain (OpenSpec.ofChange featureCentersSpec)) featureCentersCard

/-- THE TIED CARD OF 'earshotlaw03.FeatureFalls'. -/
def featureFallsCard : Claim7 := { stood := { row := featureFallsRow, standIns := [], harness := (true, "a404b254d226345166a5c6458725a957d7a10a0642cc58390b5b0dc7926ed59f"), looks := false }, kinds := [], alts := [], laidByText := true, laidKinds := [.data], laidTests := true, laidLooks := .later }
def FeatureFallsCardSaid : Prop := Claim7.holds Tryd.pinned (.plain (OpenSpec.ofChange featureFallsSpec)) featureFallsCard

/-- THE SECOND FORM's CARD OF 'earshotlaw03.FeatureLinear'. -/
def featureLinearUptoCard : Claim7 := { stood := { row := featureLinearUptoRow, standIns := [], harness := (true, "a404b254d226345166a5c6458725a957d7a10a0642cc58390b5b0dc7926ed59f"), looks := false }, kinds := [], alts := [], laidByText := true, laidKinds := [.data], laidTests := true, laidLooks := .later }
def FeatureLinearUptoCardSaid : Prop := Claim7.holds Tryd.pinned (.plain (OpenSpec.upto featureLinearSpec)) featureLinearUptoCard

/-- THE SECOND FORM's CARD OF 'earshotlaw03.FeatureReturns'. -/
def featureReturnsUptoCard : Claim7 := { stood := { row := featureReturnsUptoRow, standIns := [], harness := (true, "a404b254d226345166a5c6458725a957d7a10a0642cc58390b5b0dc7926ed59f"), looks := false }, kinds := [], alts := [], laidByText := true, laidKinds := [.data], laidTests := true, laidLooks := .later }
def FeatureReturnsUptoCardSaid : Prop := Claim7.holds Tryd.pinned (.plain (OpenSpec.upto featureReturnsSpec)) featureReturnsUptoCard

/-- THE SECOND FORM's CARD OF 'earshotlaw03.FeatureBands'. -/
def featureBandsUptoCard : Claim7 := { stood := { row := featureBandsUptoRow, standIns := [], harness := (true, "a404b254d226345166a5c6458725a957d7a10a0642cc58390b5b0dc7926ed59f"), looks := false }, kinds := [], alts := [], laidByText := true, laidKinds := [.data], laidTests := true, laidLooks := .later }
def FeatureBandsUptoCardSaid : Prop := Claim7.holds Tryd.pinned (.plain (OpenSpec.upto featureBandsSpec)) featureBandsUptoCard

/-- THE SECOND FORM's CARD OF 'earshotlaw03.FeatureVectors'. -/
def featureVectorsUptoCard : Claim7 := { stood := { row := featureVectorsUptoRow, standIns := [], harness := (true, "a404b254d226345166a5c6458725a957d7a10a0642cc58390b5b0dc7926ed59f"), looks := false }, kinds := [], alts := [], laidByText := true, laidKinds := [.data], laidTests := true, laidLooks := .later }
def FeatureVectorsUptoCardSaid : Prop := Claim7.holds Tryd.pinned (.plain (OpenSpec.upto featureVectorsSpec)) featureVectorsUptoCard

/-- THE SECOND FORM's CARD OF 'earshotlaw03.FeatureCenters'. -/
def featureCentersUptoCard : Claim7 := { stood := { row := featureCentersUptoRow, standIns := [], harness := (true, "a404b254d226345166a5c6458725a957d7a10a0642cc58390b5b0dc7926ed59f"), looks := false }, kinds := [], alts := [], laidByText := true, laidKinds := [.data], laidTests := true, laidLooks := .later }
def FeatureCentersUptoCardSaid : Prop := Claim7.holds Tryd.pinned (.plain (OpenSpec.upto featureCentersSpec)) featureCentersUptoCard

/-- THE SECOND FORM's CARD OF 'earshotlaw03.FeatureFalls'. -/
def featureFallsUptoCard : Claim7 := { stood := { row := featureFallsUptoRow, standIns := [], harness := (true, "a404b254d226345166a5c6458725a957d7a10a0642cc58390b5b0dc7926ed59f"), looks := false }, kinds := [], alts := [], laidByText := true, laidKinds := [.data], laidTests := true, laidLooks := .later }
def FeatureFallsUptoCardSaid : Prop := Claim7.holds Tryd.pinned (.plain (OpenSpec.upto featureFallsSpec)) featureFallsUptoCard
end Rows
end Go.Proofs.YtfgiiidfpbpniaaDoor
