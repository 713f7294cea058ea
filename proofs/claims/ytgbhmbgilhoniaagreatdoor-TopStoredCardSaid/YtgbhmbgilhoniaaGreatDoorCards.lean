/-
  DERIVED. GIVEN WITH THE SEED: THE CARDS: each row of YtgbhmbgilhoniaaGreatDoorRows.lean that lists a variable, with what it lists TIED to the program's text (the seventh form; the later family's looks); each row that meets fmt, with fmt's text TOLD by the authors' own Lean function (tested against real Go, not proved from fmt's source: count such statements apart). THE CARD IS WHAT COUNTS. Prove the row's statement (the work); the ties are given (YtgbhmbgilhoniaaGreatDoorTie.lean); close each card by the builder's one call (the guide's Derived/Test/ToyasCard.lean, 'card_holds'). Laid BY PROGRAM, IN A SANDBOX (cutbox-door.mjs). By AI agents, Wed Nov 11 2026. No macro, syntax, notation, axiom, sorry.
-/
import Derived.Test.YtgbhmbgilhoniaaGreatDoorRows
import GoSem.ClaimSeven
namespace Go.Proofs.YtgbhmbgilhoniaaGreatDoor
namespace Rows

/-- THE TIED CARD OF 'earshotlaw03.FeatureExtracts'. -/
def featureExtractsCard : Claim7 := { stood := { row := featureExtractsRow, standIns := [], harness := (true, "d6597a03636991a072b1ee5d5638b40067b60d042070c706b42125910c777dd4"), looks := false }, kinds := [], alts := [], laidByText := true, laidKinds := [.data], laidTests := true, laidLooks := .later }
def FeatureExtractsCardSaid : Prop := Claim7.holds Tryz.pinned (.plain (OpenSpec.ofChange featureExtractsSpec)) featureExtractsCard

/-- THE TIED CARD OF 'earshotlaw03.FeatureTurned'. -/
def featureTurnedCard : Claim7 := { stood := { row := featureTurnedRow, standIns := [], harness := (true, "d6597a03636991a072b1ee5d5638b40067b60d042070c706b42125910c777dd4"), looks := false }, kinds := [], alts := [], laidByText := true, laidKinds := [.data], laidTests := true, laidLooks := .later }
def FeatureTurnedCardSaid : Prop := Claim7.holds Tryz.pinned (.plain (OpenSpec.ofChange featureTurnedSpec)) featureTurnedCard

/-- THE TIED CARD OF 'earshottop.TopClipped'. -/
def topClippedCard : Claim7 := { stood := { row := topClippedRow, standIns := [], harness := (true, "d6597a03636991a072b1ee5d5638b40067b60d042070c706b42125910c777dd4"), looks := false }, kinds := [], alts := [], laidByText := true, laidKinds := [.data], laidTests := true, laidLooks := .later }
def TopClippedCardSaid : Prop := Claim7.holds Tryz.pinned (.plain (OpenSpec.ofChange topClippedSpec)) topClippedCard

/-- THE TIED CARD OF 'earshottop.TopStored'. -/
def topStoredCard : Claim7 := { stood := { row := topStoredRow, standIns := [], harness := (true, "d6597a03636991a072b1ee5d5638b40067b60d042070c706b42125910c777dd4"), looks := false }, kinds := [], alts := [], laidByText := true, laidKinds := [.data], laidTests := true, laidLooks := .later }
def TopStoredCardSaid : Prop := Claim7.holds Tryz.pinned (.plain (OpenSpec.ofChange topStoredSpec)) topStoredCard

/-- THE SECOND FORM's CARD OF 'earshotlaw03.FeatureExtracts'. -/
def featureExtractsUptoCard : Claim7 := { stood := { row := featureExtractsUptoRow, standIns := [], harness := (true, "d6597a03636991a072b1ee5d5638b40067b60d042070c706b42125910c777dd4"), looks := false }, kinds := [], alts := [], laidByText := true, laidKinds := [.data], laidTests := true, laidLooks := .later }
def FeatureExtractsUptoCardSaid : Prop := Claim7.holds Tryz.pinned (.plain (OpenSpec.upto featureExtractsSpec)) featureExtractsUptoCard

/-- THE SECOND FORM's CARD OF 'earshotlaw03.FeatureTurned'. -/
def featureTurnedUptoCard : Claim7 := { stood := { row := featureTurnedUptoRow, standIns := [], harness := (true, "d6597a03636991a072b1ee5d5638b40067b60d042070c706b42125910c777dd4"), looks := false }, kinds := [], alts := [], laidByText := true, laidKinds := [.data], laidTests := true, laidLooks := .later }
def FeatureTurnedUptoCardSaid : Prop := Claim7.holds Tryz.pinned (.plain (OpenSpec.upto featureTurnedSpec)) featureTurnedUptoCard

/-- THE SECOND FORM's CARD OF 'earshottop.TopClipped'. -/
def topClippedUptoCard : Claim7 := { stood := { row := topClippedUptoRow, standIns := [], harness := (true, "d6597a03636991a072b1ee5d5638b40067b60d042070c706b42125910c777dd4"), looks := false }, kinds := [], alts := [], laidByText := true, laidKinds := [.data], laidTests := true, laidLooks := .later }
def TopClippedUptoCardSaid : Prop := Claim7.holds Tryz.pinned (.plain (OpenSpec.upto topClippedSpec)) topClippedUptoCard

/-- THE SECOND FORM's CARD OF 'earshottop.TopStored'. -/
def topStoredUptoCard : Claim7 := { stood := { row := topStoredUptoRow, standIns := [], harness := (true, "d6597a03636991a072b1ee5d5638b40067b60d042070c706b42125910c777dd4"), looks := false }, kinds := [], alts := [], laidByText := true, laidKinds := [.data], laidTests := true, laidLooks := .later }
def TopStoredUptoCardSaid : Prop := Claim7.holds Tryz.pinned (.plain (OpenSpec.upto topStoredSpec)) topStoredUptoCard
end Rows
end Go.Proofs.YtgbhmbgilhoniaaGreatDoor
