/-
  DERIVED. GIVEN WITH THE SEED: THE CARDS: each row of YtfgiiidfpbpniaaGreatDoorRows.lean that lists a variable, with what it lists TIED to the program's text (the seventh form; the later family's looks); each row that meets fmt, with fmt's text TOLD by the authors' own Lean function (tested against real Go, not proved from fmt's source: count such statements apart). THE CARD IS WHAT COUNTS. Prove the row's statement (the work); the ties are given (YtfgiiidfpbpniaaGreatDoorTie.lean); close each card by the builder's one call (the guide's Derived/Test/ToyasCard.lean, 'card_holds'). Laid BY PROGRAM, IN A SANDBOX (cutbox-door.mjs). By AI agents, Wed Nov 11 2026. No macro, syntax, notation, axiom, sorry.
-/
import Derived.Test.YtfgiiidfpbpniaaGreatDoorRows
import GoSem.ClaimSeven
namespace Go.Proofs.YtfgiiidfpbpniaaGreatDoor
namespace Rows

/-- THE TIED CARD OF 'earshotlaw03.FeatureLogs'. -/
def featureLogsCard : Claim7 := { stood := { row := featureLogsRow, standIns := [], harness := (true, "006f332828468bfa5be8020029d393bbf29d890e888a0c35d8fef833c8ee9c66"), looks := false }, kinds := [], alts := [], laidByText := true, laidKinds := [.data], laidTests := true, laidLooks := .later }
def FeatureLogsCardSaid : Prop := Claim7.holds Tryz.pinned (.plain (OpenSpec.ofChange featureLogsSpec)) featureLogsCard

/-- THE TIED CARD OF 'earshotlaw03.FeatureImproves'. -/
def featureImprovesCard : Claim7 := { stood := { row := featureImprovesRow, standIns := [], harness := (true, "006f332828468bfa5be8020029d393bbf29d890e888a0c35d8fef833c8ee9c66"), looks := false }, kinds := [], alts := [], laidByText := true, laidKinds := [.data], laidTests := true, laidLooks := .later }
def FeatureImprovesCardSaid : Prop := Claim7.holds Tryz.pinned (.plain (OpenSpec.ofChange featureImprovesSpec)) featureImprovesCard

/-- THE TIED CARD OF 'earshotlaw03.FeatureSeeds'. -/
def featureSeedsCard : Claim7 := { stood := { row := featureSeedsRow, standIns := [], harness := (true, "006f332828468bfa5be8020029d393bbf29d890e888a0c35d8fef833c8ee9c66"), looks := false }, kinds := [], alts := [], laidByText := true, laidKinds := [.data], laidTests := true, laidLooks := .later }
def FeatureSeedsCardSaid : Prop := Claim7.holds Tryz.pinned (.plain (OpenSpec.ofChange featureSeedsSpec)) featureSeedsCard

/-- THE SECOND FORM's CARD OF 'earshotlaw03.FeatureLogs'. -/
def featureLogsUptoCard : Claim7 := { stood := { row := featureLogsUptoRow, standIns := [], harness := (true, "006f332828468bfa5be8020029d393bbf29d890e888a0c35d8fef833c8ee9c66"), looks := false }, kinds := [], alts := [], laidByText := true, laidKinds := [.data], laidTests := true, laidLooks := .later }
def FeatureLogsUptoCardSaid : Prop := Claim7.holds Tryz.pinned (.plain (OpenSpec.upto featureLogsSpec)) featureLogsUptoCard

/-- THE SECOND FORM's CARD OF 'earshotlaw03.FeatureImproves'. -/
def featureImprovesUptoCard : Claim7 := { stood := { row := featureImprovesUptoRow, standIns := [], harness := (true, "006f332828468bfa5be8020029d393bbf29d890e888a0c35d8fef833c8ee9c66"), looks := false }, kinds := [], alts := [], laidByText := true, laidKinds := [.data], laidTests := true, laidLooks := .later }
def FeatureImprovesUptoCardSaid : Prop := Claim7.holds Tryz.pinned (.plain (OpenSpec.upto featureImprovesSpec)) featureImprovesUptoCard

/-- THE SECOND FORM's CARD OF 'earshotlaw03.FeatureSeeds'. -/
def featureSeedsUptoCard : Claim7 := { stood := { row := featureSeedsUptoRow, standIns := [], harness := (true, "006f332828468bfa5be8020029d393bbf29d890e888a0c35d8fef833c8ee9c66"), looks := false }, kinds := [], alts := [], laidByText := true, laidKinds := [.data], laidTests := true, laidLooks := .later }
def FeatureSeedsUptoCardSaid : Prop := Claim7.holds Tryz.pinned (.plain (OpenSpec.upto featureSeedsSpec)) featureSeedsUptoCard
end Rows
end Go.Proofs.YtfgiiidfpbpniaaGreatDoor
