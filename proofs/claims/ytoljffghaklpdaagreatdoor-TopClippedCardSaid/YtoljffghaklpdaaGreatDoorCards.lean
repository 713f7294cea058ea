/-
  DERIVED. GIVEN WITH THE SEED: THE CARDS: each row of YtoljffghaklpdaaGreatDoorRows.lean that lists a variable, with what it lists TIED to the program's text (the seventh form; the later family's looks); each row that meets fmt, with fmt's text TOLD by the authors' own Lean function (tested against real Go, not proved from fmt's source: count such statements apart). THE CARD IS WHAT COUNTS. Prove the row's statement (the work); the ties are given (YtoljffghaklpdaaGreatDoorTie.lean); close each card by the builder's one call (the guide's Derived/Test/ToyasCard.lean, 'card_holds'). Laid BY PROGRAM, IN A SANDBOX (cutbox-door.mjs). By AI agents, Wed Nov 11 2026. No macro, syntax, notation, axiom, sorry.
-/
import Derived.Test.YtoljffghaklpdaaGreatDoorRows
import GoSem.ClaimSeven
namespace Go.Proofs.YtoljffghaklpdaaGreatDoor
namespace Rows

/-- THE TIED CARD OF 'earshotlaw03.FeatureLogs'. -/
def featureLogsCard : Claim7 := { stood := { row := featureLogsRow, standIns := [], harness := (true, "3d08eff6d7c2a876d218664b16e59fac0f9ca49a2b68aa3c14c5f841e028c9ba"), looks := false }, kinds := [], alts := [], laidByText := true, laidKinds := [.data], laidTests := true, laidLooks := .later }
def FeatureLogsCardSaid : Prop := Claim7.holds Tryz.pinned (.plain (OpenSpec.ofChange featureLogsSpec)) featureLogsCard

/-- THE TIED CARD OF 'earshotlaw03.FeatureExtracts'. -/
def featureExtractsCard : Claim7 := { stood := { row := featureExtractsRow, standIns := [], harness := (true, "3d08eff6d7c2a876d218664b16e59fac0f9ca49a2b68aa3c14c5f841e028c9ba"), looks := false }, kinds := [], alts := [], laidByText := true, laidKinds := [.data], laidTests := true, laidLooks := .later }
def FeatureExtractsCardSaid : Prop := Claim7.holds Tryz.pinned (.plain (OpenSpec.ofChange featureExtractsSpec)) featureExtractsCard

/-- THE TIED CARD OF 'earshotlaw03.FeatureTurned'. -/
def featureTurnedCard : Claim7 := { stood := { row := featureTurnedRow, standIns := [], harness := (true, "3d08eff6d7c2a876d218664b16e59fac0f9ca49a2b68aa3c14c5f841e028c9ba"), looks := false }, kinds := [], alts := [], laidByText := true, laidKinds := [.data], laidTests := true, laidLooks := .later }
def FeatureTurnedCardSaid : Prop := Claim7.holds Tryz.pinned (.plain (OpenSpec.ofChange featureTurnedSpec)) featureTurnedCard

/-- THE TIED CARD OF 'earshotlaw03.FeatureImproves'. -/
def featureImprovesCard : Claim7 := { stood := { row := featureImprovesRow, standIns := [], harness := (true, "3d08eff6d7c2a876d218664b16e59fac0f9ca49a2b68aa3c14c5f841e028c9ba"), looks := false }, kinds := [], alts := [], laidByText := true, laidKinds := [.data], laidTests := true, laidLooks := .later }
def FeatureImprovesCardSaid : Prop := Claim7.holds Tryz.pinned (.plain (OpenSpec.ofChange featureImprovesSpec)) featureImprovesCard

/-- THE TIED CARD OF 'earshotlaw03.FeatureSeeds'. -/
def featureSeedsCard : Claim7 := { stood := { row := featureSeedsRow, standIns := [], harness := (true, "3d08eff6d7c2a876d218664b16e59fac0f9ca49a2b68aa3c14c5f841e028c9ba"), looks := false }, kinds := [], alts := [], laidByText := true, laidKinds := [.data], laidTests := true, laidLooks := .later }
def FeatureSeedsCardSaid : Prop := Claim7.holds Tryz.pinned (.plain (OpenSpec.ofChange featureSeedsSpec)) featureSeedsCard

/-- THE TIED CARD OF 'earshottop.TopClipped'. -/
def topClippedCard : Claim7 := { stood := { row := topClippedRow, standIns := [], harness := (true, "3d08eff6d7c2a876d218664b16e59fac0f9ca49a2b68aa3c14c5f841e028c9ba"), looks := false }, kinds := [], alts := [], laidByText := true, laidKinds := [.data], laidTests := true, laidLooks := .later }
def TopClippedCardSaid : Prop := Claim7.holds Tryz.pinned (.plain (OpenSpec.ofChange topClippedSpec)) topClippedCard

/-- THE TIED CARD OF 'earshottop.TopStored'. -/
def topStoredCard : Claim7 := { stood := { row := topStoredRow, standIns := [], harness := (true, "3d08eff6d7c2a876d218664b16e59fac0f9ca49a2b68aa3c14c5f841e028c9ba"), looks := false }, kinds := [], alts := [], laidByText := true, laidKinds := [.data], laidTests := true, laidLooks := .later }
def TopStoredCardSaid : Prop := Claim7.holds Tryz.pinned (.plain (OpenSpec.ofChange topStoredSpec)) topStoredCard

/-- THE SECOND FORM's CARD OF 'earshotlaw03.FeatureLogs'. -/
def featureLogsUptoCard : Claim7 := { stood := { row := featureLogsUptoRow, standIns := [], harness := (true, "3d08eff6d7c2a876d218664b16e59fac0f9ca49a2b68aa3c14c5f841e028c9ba"), looks := false }, kinds := [], alts := [], laidByText := true, laidKinds := [.data], laidTests := true, laidLooks := .later }
def FeatureLogsUptoCardSaid : Prop := Claim7.holds Tryz.pinned (.plain (OpenSpec.upto featureLogsSpec)) featureLogsUptoCard

/-- THE SECOND FORM's CARD OF 'earshotlaw03.FeatureExtracts'. -/
def featureExtractsUptoCard : Claim7 := { stood := { row := featureExtractsUptoRow, standIns := [], harness := (true, "3d08eff6d7c2a876d218664b16e59fac0f9ca49a2b68aa3c14c5f841e028c9ba"), looks := false }, kinds := [], alts := [], laidByText := true, laidKinds := [.data], laidTests := true, laidLooks := .later }
def FeatureExtractsUptoCardSaid : Prop := Claim7.holds Tryz.pinned (.plain (OpenSpec.upto featureExtractsSpec)) featureExtractsUptoCard

/-- THE SECOND FORM's CARD OF 'earshotlaw03.FeatureTurned'. -/
def featureTurnedUptoCard : Claim7 := { stood := { row := featureTurnedUptoRow, standIns := [], harness := (true, "3d08eff6d7c2a876d218664b16e59fac0f9ca49a2b68aa3c14c5f841e028c9ba"), looks := false }, kinds := [], alts := [], laidByText := true, laidKinds := [.data], laidTests := true, laidLooks := .later }
def FeatureTurnedUptoCardSaid : Prop := Claim7.holds Tryz.pinned (.plain (OpenSpec.upto featureTurnedSpec)) featureTurnedUptoCard

/-- THE SECOND FORM's CARD OF 'earshotlaw03.FeatureImproves'. -/
def featureImprovesUptoCard : Claim7 := { stood := { row := featureImprovesUptoRow, standIns := [], harness := (true, "3d08eff6d7c2a876d218664b16e59fac0f9ca49a2b68aa3c14c5f841e028c9ba"), looks := false }, kinds := [], alts := [], laidByText := true, laidKinds := [.data], laidTests := true, laidLooks := .later }
def FeatureImprovesUptoCardSaid : Prop := Claim7.holds Tryz.pinned (.plain (OpenSpec.upto featureImprovesSpec)) featureImprovesUptoCard

/-- THE SECOND FORM's CARD OF 'earshotlaw03.FeatureSeeds'. -/
def featureSeedsUptoCard : Claim7 := { stood := { row := featureSeedsUptoRow, standIns := [], harness := (true, "3d08eff6d7c2a876d218664b16e59fac0f9ca49a2b68aa3c14c5f841e028c9ba"), looks := false }, kinds := [], alts := [], laidByText := true, laidKinds := [.data], laidTests := true, laidLooks := .later }
def FeatureSeedsUptoCardSaid : Prop := Claim7.holds Tryz.pinned (.plain (OpenSpec.upto featureSeedsSpec)) featureSeedsUptoCard

/-- THE SECOND FORM's CARD OF 'earshottop.TopClipped'. -/
def topClippedUptoCard : Claim7 := { stood := { row := topClippedUptoRow, standIns := [], harness := (true, "3d08eff6d7c2a876d218664b16e59fac0f9ca49a2b68aa3c14c5f841e028c9ba"), looks := false }, kinds := [], alts := [], laidByText := true, laidKinds := [.data], laidTests := true, laidLooks := .later }
def TopClippedUptoCardSaid : Prop := Claim7.holds Tryz.pinned (.plain (OpenSpec.upto topClippedSpec)) topClippedUptoCard

/-- THE SECOND FORM's CARD OF 'earshottop.TopStored'. -/
def topStoredUptoCard : Claim7 := { stood := { row := topStoredUptoRow, standIns := [], harness := (true, "3d08eff6d7c2a876d218664b16e59fac0f9ca49a2b68aa3c14c5f841e028c9ba"), looks := false }, kinds := [], alts := [], laidByText := true, laidKinds := [.data], laidTests := true, laidLooks := .later }
def TopStoredUptoCardSaid : Prop := Claim7.holds Tryz.pinned (.plain (OpenSpec.upto topStoredSpec)) topStoredUptoCard
end Rows
end Go.Proofs.YtoljffghaklpdaaGreatDoor
