/-
  DERIVED. GIVEN WITH THE SEED: THE CARDS: each row of YtpdfjlbfhnapkaaGreatDoorRows.lean that lists a variable, with what it lists TIED to the program's text (the seventh form; the later family's looks); each row that meets fmt, with fmt's text TOLD by the authors' own Lean function (tested against real Go, not proved from fmt's source: count such statements apart). THE CARD IS WHAT COUNTS. Prove the row's statement (the work); the ties are given (YtpdfjlbfhnapkaaGreatDoorTie.lean); close each card by the builder's one call (the guide's Derived/Test/ToyasCard.lean, 'card_holds'). Laid BY PROGRAM, IN A SANDBOX (cutbox-door.mjs). By AI agents, Wed Nov 11 2026. No macro, syntax, notation, axiom, sorry.
-/
import Derived.Test.YtpdfjlbfhnapkaaGreatDoorRows
import GoSem.ClaimSeven
namespace Go.Proofs.YtpdfjlbfhnapkaaGreatDoor
namespace Rows

/-- THE TIED CARD OF 'earshotlaw09.WrittenSpeaks'. -/
def writtenSpeaksCard : Claim7 := { stood := { row := writtenSpeaksRow, standIns := [], harness := (true, "585ccbc4e2eea06b668daed0d61e00e1e7ad2cbdf2d9155637334f09ec469085"), looks := true }, kinds := [], alts := [], laidByText := true, laidKinds := [.data, .data, .data, .data, .data, .data, .data, .pinned], laidTests := true, laidLooks := .later }
def WrittenSpeaksCardSaid : Prop := Claim7.holds Tryz.pinned (.plain (OpenSpec.ofChange writtenSpeaksSpec)) writtenSpeaksCard

/-- THE TIED CARD OF 'earshotlaw09.WrittenWrites'. -/
def writtenWritesCard : Claim7 := { stood := { row := writtenWritesRow, standIns := [], harness := (true, "585ccbc4e2eea06b668daed0d61e00e1e7ad2cbdf2d9155637334f09ec469085"), looks := true }, kinds := [], alts := [], laidByText := true, laidKinds := [.data, .data, .data, .data, .data, .data, .data, .data, .data, .data, .pinned], laidTests := true, laidLooks := .later }
def WrittenWritesCardSaid : Prop := Claim7.holds Tryz.pinned (.plain (OpenSpec.ofChange writtenWritesSpec)) writtenWritesCard

/-- THE TIED CARD OF 'earshotlaw09.WrittenReturns'. -/
def writtenReturnsCard : Claim7 := { stood := { row := writtenReturnsRow, standIns := [], harness := (true, "585ccbc4e2eea06b668daed0d61e00e1e7ad2cbdf2d9155637334f09ec469085"), looks := true }, kinds := [], alts := [], laidByText := true, laidKinds := [.data, .data, .data, .data, .data, .data, .data, .pinned], laidTests := true, laidLooks := .later }
def WrittenReturnsCardSaid : Prop := Claim7.holds Tryz.pinned (.plain (OpenSpec.ofChange writtenReturnsSpec)) writtenReturnsCard

/-- THE TIED CARD OF 'earshotlaw09.WrittenUnlike'. -/
def writtenUnlikeCard : Claim7 := { stood := { row := writtenUnlikeRow, standIns := [], harness := (true, "585ccbc4e2eea06b668daed0d61e00e1e7ad2cbdf2d9155637334f09ec469085"), looks := true }, kinds := [], alts := [], laidByText := true, laidKinds := [.data, .data, .data, .data, .data, .data, .data, .pinned], laidTests := true, laidLooks := .later }
def WrittenUnlikeCardSaid : Prop := Claim7.holds Tryz.pinned (.plain (OpenSpec.ofChange writtenUnlikeSpec)) writtenUnlikeCard

/-- THE TIED CARD OF 'earshotlaw09.WrittenNumbers'. -/
def writtenNumbersCard : Claim7 := { stood := { row := writtenNumbersRow, standIns := [], harness := (true, "585ccbc4e2eea06b668daed0d61e00e1e7ad2cbdf2d9155637334f09ec469085"), looks := true }, kinds := [], alts := [], laidByText := true, laidKinds := [.data, .data, .data, .data, .data, .data, .data, .data, .data, .data, .pinned], laidTests := true, laidLooks := .later }
def WrittenNumbersCardSaid : Prop := Claim7.holds Tryz.pinned (.plain (OpenSpec.ofChange writtenNumbersSpec)) writtenNumbersCard

/-- THE TIED CARD OF 'earshotlaw09.WrittenCounts'. -/
def writtenCountsCard : Claim7 := { stood := { row := writtenCountsRow, standIns := [], harness := (true, "585ccbc4e2eea06b668daed0d61e00e1e7ad2cbdf2d9155637334f09ec469085"), looks := true }, kinds := [], alts := [], laidByText := true, laidKinds := [.data, .data, .data, .data, .sentinel, .sentinel, .data, .data, .data, .data, .data, .data, .pinned], laidTests := true, laidLooks := .later }
def WrittenCountsCardSaid : Prop := Claim7.holds Tryz.pinned (.plain (OpenSpec.ofChange writtenCountsSpec)) writtenCountsCard

/-- THE TIED CARD OF 'earshotlaw09.WrittenThousands'. -/
def writtenThousandsCard : Claim7 := { stood := { row := writtenThousandsRow, standIns := [], harness := (true, "585ccbc4e2eea06b668daed0d61e00e1e7ad2cbdf2d9155637334f09ec469085"), looks := true }, kinds := [], alts := [], laidByText := true, laidKinds := [.data, .data, .data, .data, .data, .data, .data, .data, .data, .data, .pinned], laidTests := true, laidLooks := .later }
def WrittenThousandsCardSaid : Prop := Claim7.holds Tryz.pinned (.plain (OpenSpec.ofChange writtenThousandsSpec)) writtenThousandsCard

/-- THE TIED CARD OF 'earshotlaw09.WrittenDays'. -/
def writtenDaysCard : Claim7 := { stood := { row := writtenDaysRow, standIns := [], harness := (true, "585ccbc4e2eea06b668daed0d61e00e1e7ad2cbdf2d9155637334f09ec469085"), looks := true }, kinds := [], alts := [], laidByText := true, laidKinds := [.data, .data, .data, .data, .data, .data, .data, .pinned], laidTests := true, laidLooks := .later }
def WrittenDaysCardSaid : Prop := Claim7.holds Tryz.pinned (.plain (OpenSpec.ofChange writtenDaysSpec)) writtenDaysCard

/-- THE TIED CARD OF 'earshotlaw09.WrittenYears'. -/
def writtenYearsCard : Claim7 := { stood := { row := writtenYearsRow, standIns := [], harness := (true, "585ccbc4e2eea06b668daed0d61e00e1e7ad2cbdf2d9155637334f09ec469085"), looks := true }, kinds := [], alts := [], laidByText := true, laidKinds := [.data, .data, .data, .data, .data, .data, .data, .pinned], laidTests := true, laidLooks := .later }
def WrittenYearsCardSaid : Prop := Claim7.holds Tryz.pinned (.plain (OpenSpec.ofChange writtenYearsSpec)) writtenYearsCard

/-- THE TIED CARD OF 'earshotlaw09.WrittenTexts'. -/
def writtenTextsCard : Claim7 := { stood := { row := writtenTextsRow, standIns := [], harness := (true, "585ccbc4e2eea06b668daed0d61e00e1e7ad2cbdf2d9155637334f09ec469085"), looks := true }, kinds := [], alts := [], laidByText := true, laidKinds := [.data, .data, .data, .data, .data, .data, .data, .data, .data, .data, .pinned], laidTests := true, laidLooks := .later }
def WrittenTextsCardSaid : Prop := Claim7.holds Tryz.pinned (.plain (OpenSpec.ofChange writtenTextsSpec)) writtenTextsCard

/-- THE TIED CARD OF 'earshotlaw09.WrittenSays'. -/
def writtenSaysCard : Claim7 := { stood := { row := writtenSaysRow, standIns := [], harness := (true, "585ccbc4e2eea06b668daed0d61e00e1e7ad2cbdf2d9155637334f09ec469085"), looks := true }, kinds := [], alts := [], laidByText := true, laidKinds := [.data, .data, .data, .data, .data, .data, .data, .pinned], laidTests := true, laidLooks := .later }
def WrittenSaysCardSaid : Prop := Claim7.holds Tryz.pinned (.plain (OpenSpec.ofChange writtenSaysSpec)) writtenSaysCard

/-- THE TIED CARD OF 'earshotlaw09.WrittenTurns'. -/
def writtenTurnsCard : Claim7 := { stood := { row := writtenTurnsRow, standIns := [], harness := (true, "585ccbc4e2eea06b668daed0d61e00e1e7ad2cbdf2d9155637334f09ec469085"), looks := true }, kinds := [], alts := [], laidByText := true, laidKinds := [.data, .data, .data, .data, .data, .data, .data, .pinned], laidTests := true, laidLooks := .later }
def WrittenTurnsCardSaid : Prop := Claim7.holds Tryz.pinned (.plain (OpenSpec.ofChange writtenTurnsSpec)) writtenTurnsCard

/-- THE TIED CARD OF 'earshotlaw09.WrittenReads'. -/
def writtenReadsCard : Claim7 := { stood := { row := writtenReadsRow, standIns := [], harness := (true, "585ccbc4e2eea06b668daed0d61e00e1e7ad2cbdf2d9155637334f09ec469085"), looks := true }, kinds := [], alts := [], laidByText := true, laidKinds := [.data, .data, .data, .data, .data, .data, .data, .data, .data, .data, .pinned], laidTests := true, laidLooks := .later }
def WrittenReadsCardSaid : Prop := Claim7.holds Tryz.pinned (.plain (OpenSpec.ofChange writtenReadsSpec)) writtenReadsCard

/-- THE TIED CARD OF 'earshotlaw09.WrittenAgrees'. -/
def writtenAgreesCard : Claim7 := { stood := { row := writtenAgreesRow, standIns := [], harness := (true, "585ccbc4e2eea06b668daed0d61e00e1e7ad2cbdf2d9155637334f09ec469085"), looks := true }, kinds := [], alts := [], laidByText := true, laidKinds := [.data, .data, .data, .data, .data, .data, .data, .pinned], laidTests := true, laidLooks := .later }
def WrittenAgreesCardSaid : Prop := Claim7.holds Tryz.pinned (.plain (OpenSpec.ofChange writtenAgreesSpec)) writtenAgreesCard

/-- THE TIED CARD OF 'earshotlaw09.WrittenMany'. -/
def writtenManyCard : Claim7 := { stood := { row := writtenManyRow, standIns := [], harness := (true, "585ccbc4e2eea06b668daed0d61e00e1e7ad2cbdf2d9155637334f09ec469085"), looks := true }, kinds := [], alts := [], laidByText := true, laidKinds := [.data, .data, .data, .data, .data, .data, .data, .data, .data, .data, .pinned], laidTests := true, laidLooks := .later }
def WrittenManyCardSaid : Prop := Claim7.holds Tryz.pinned (.plain (OpenSpec.ofChange writtenManySpec)) writtenManyCard

/-- THE SECOND FORM's CARD OF 'earshotlaw09.WrittenSpeaks'. -/
def writtenSpeaksUptoCard : Claim7 := { stood := { row := writtenSpeaksUptoRow, standIns := [], harness := (true, "585ccbc4e2eea06b668daed0d61e00e1e7ad2cbdf2d9155637334f09ec469085"), looks := true }, kinds := [], alts := [], laidByText := true, laidKinds := [.data, .data, .data, .data, .data, .data, .data, .pinned], laidTests := true, laidLooks := .later }
def WrittenSpeaksUptoCardSaid : Prop := Claim7.holds Tryz.pinned (.plain (OpenSpec.upto writtenSpeaksSpec)) writtenSpeaksUptoCard

/-- THE SECOND FORM's CARD OF 'earshotlaw09.WrittenWrites'. -/
def writtenWritesUptoCard : Claim7 := { stood := { row := writtenWritesUptoRow, standIns := [], harness := (true, "585ccbc4e2eea06b668daed0d61e00e1e7ad2cbdf2d9155637334f09ec469085"), looks := true }, kinds := [], alts := [], laidByText := true, laidKinds := [.data, .data, .data, .data, .data, .data, .data, .data, .data, .data, .pinned], laidTests := true, laidLooks := .later }
def WrittenWritesUptoCardSaid : Prop := Claim7.holds Tryz.pinned (.plain (OpenSpec.upto writtenWritesSpec)) writtenWritesUptoCard

/-- THE SECOND FORM's CARD OF 'earshotlaw09.WrittenReturns'. -/
def writtenReturnsUptoCard : Claim7 := { stood := { row := writtenReturnsUptoRow, standIns := [], harness := (true, "585ccbc4e2eea06b668daed0d61e00e1e7ad2cbdf2d9155637334f09ec469085"), looks := true }, kinds := [], alts := [], laidByText := true, laidKinds := [.data, .data, .data, .data, .data, .data, .data, .pinned], laidTests := true, laidLooks := .later }
def WrittenReturnsUptoCardSaid : Prop := Claim7.holds Tryz.pinned (.plain (OpenSpec.upto writtenReturnsSpec)) writtenReturnsUptoCard

/-- THE SECOND FORM's CARD OF 'earshotlaw09.WrittenUnlike'. -/
def writtenUnlikeUptoCard : Claim7 := { stood := { row := writtenUnlikeUptoRow, standIns := [], harness := (true, "585ccbc4e2eea06b668daed0d61e00e1e7ad2cbdf2d9155637334f09ec469085"), looks := true }, kinds := [], alts := [], laidByText := true, laidKinds := [.data, .data, .data, .data, .data, .data, .data, .pinned], laidTests := true, laidLooks := .later }
def WrittenUnlikeUptoCardSaid : Prop := Claim7.holds Tryz.pinned (.plain (OpenSpec.upto writtenUnlikeSpec)) writtenUnlikeUptoCard

/-- THE SECOND FORM's CARD OF 'earshotlaw09.WrittenNumbers'. -/
def writtenNumbersUptoCard : Claim7 := { stood := { row := writtenNumbersUptoRow, standIns := [], harness := (true, "585ccbc4e2eea06b668daed0d61e00e1e7ad2cbdf2d9155637334f09ec469085"), looks := true }, kinds := [], alts := [], laidByText := true, laidKinds := [.data, .data, .data, .data, .data, .data, .data, .data, .data, .data, .pinned], laidTests := true, laidLooks := .later }
def WrittenNumbersUptoCardSaid : Prop := Claim7.holds Tryz.pinned (.plain (OpenSpec.upto writtenNumbersSpec)) writtenNumbersUptoCard

/-- THE SECOND FORM's CARD OF 'earshotlaw09.WrittenCounts'. -/
def writtenCountsUptoCard : Claim7 := { stood := { row := writtenCountsUptoRow, standIns := [], harness := (true, "585ccbc4e2eea06b668daed0d61e00e1e7ad2cbdf2d9155637334f09ec469085"), looks := true }, kinds := [], alts := [], laidByText := true, laidKinds := [.data, .data, .data, .data, .sentinel, .sentinel, .data, .data, .data, .data, .data, .data, .pinned], laidTests := true, laidLooks := .later }
def WrittenCountsUptoCardSaid : Prop := Claim7.holds Tryz.pinned (.plain (OpenSpec.upto writtenCountsSpec)) writtenCountsUptoCard

/-- THE SECOND FORM's CARD OF 'earshotlaw09.WrittenThousands'. -/
def writtenThousandsUptoCard : Claim7 := { stood := { row := writtenThousandsUptoRow, standIns := [], harness := (true, "585ccbc4e2eea06b668daed0d61e00e1e7ad2cbdf2d9155637334f09ec469085"), looks := true }, kinds := [], alts := [], laidByText := true, laidKinds := [.data, .data, .data, .data, .data, .data, .data, .data, .data, .data, .pinned], laidTests := true, laidLooks := .later }
def WrittenThousandsUptoCardSaid : Prop := Claim7.holds Tryz.pinned (.plain (OpenSpec.upto writtenThousandsSpec)) writtenThousandsUptoCard

/-- THE SECOND FORM's CARD OF 'earshotlaw09.WrittenDays'. -/
def writtenDaysUptoCard : Claim7 := { stood := { row := writtenDaysUptoRow, standIns := [], harness := (true, "585ccbc4e2eea06b668daed0d61e00e1e7ad2cbdf2d9155637334f09ec469085"), looks := true }, kinds := [], alts := [], laidByText := true, laidKinds := [.data, .data, .data, .data, .data, .data, .data, .pinned], laidTests := true, laidLooks := .later }
def WrittenDaysUptoCardSaid : Prop := Claim7.holds Tryz.pinned (.plain (OpenSpec.upto writtenDaysSpec)) writtenDaysUptoCard

/-- THE SECOND FORM's CARD OF 'earshotlaw09.WrittenYears'. -/
def writtenYearsUptoCard : Claim7 := { stood := { row := writtenYearsUptoRow, standIns := [], harness := (true, "585ccbc4e2eea06b668daed0d61e00e1e7ad2cbdf2d9155637334f09ec469085"), looks := true }, kinds := [], alts := [], laidByText := true, laidKinds := [.data, .data, .data, .data, .data, .data, .data, .pinned], laidTests := true, laidLooks := .later }
def WrittenYearsUptoCardSaid : Prop := Claim7.holds Tryz.pinned (.plain (OpenSpec.upto writtenYearsSpec)) writtenYearsUptoCard

/-- THE SECOND FORM's CARD OF 'earshotlaw09.WrittenTexts'. -/
def writtenTextsUptoCard : Claim7 := { stood := { row := writtenTextsUptoRow, standIns := [], harness := (true, "585ccbc4e2eea06b668daed0d61e00e1e7ad2cbdf2d9155637334f09ec469085"), looks := true }, kinds := [], alts := [], laidByText := true, laidKinds := [.data, .data, .data, .data, .data, .data, .data, .data, .data, .data, .pinned], laidTests := true, laidLooks := .later }
def WrittenTextsUptoCardSaid : Prop := Claim7.holds Tryz.pinned (.plain (OpenSpec.upto writtenTextsSpec)) writtenTextsUptoCard

/-- THE SECOND FORM's CARD OF 'earshotlaw09.WrittenSays'. -/
def writtenSaysUptoCard : Claim7 := { stood := { row := writtenSaysUptoRow, standIns := [], harness := (true, "585ccbc4e2eea06b668daed0d61e00e1e7ad2cbdf2d9155637334f09ec469085"), looks := true }, kinds := [], alts := [], laidByText := true, laidKinds := [.data, .data, .data, .data, .data, .data, .data, .pinned], laidTests := true, laidLooks := .later }
def WrittenSaysUptoCardSaid : Prop := Claim7.holds Tryz.pinned (.plain (OpenSpec.upto writtenSaysSpec)) writtenSaysUptoCard

/-- THE SECOND FORM's CARD OF 'earshotlaw09.WrittenTurns'. -/
def writtenTurnsUptoCard : Claim7 := { stood := { row := writtenTurnsUptoRow, standIns := [], harness := (true, "585ccbc4e2eea06b668daed0d61e00e1e7ad2cbdf2d9155637334f09ec469085"), looks := true }, kinds := [], alts := [], laidByText := true, laidKinds := [.data, .data, .data, .data, .data, .data, .data, .pinned], laidTests := true, laidLooks := .later }
def WrittenTurnsUptoCardSaid : Prop := Claim7.holds Tryz.pinned (.plain (OpenSpec.upto writtenTurnsSpec)) writtenTurnsUptoCard

/-- THE SECOND FORM's CARD OF 'earshotlaw09.WrittenReads'. -/
def writtenReadsUptoCard : Claim7 := { stood := { row := writtenReadsUptoRow, standIns := [], harness := (true, "585ccbc4e2eea06b668daed0d61e00e1e7ad2cbdf2d9155637334f09ec469085"), looks := true }, kinds := [], alts := [], laidByText := true, laidKinds := [.data, .data, .data, .data, .data, .data, .data, .data, .data, .data, .pinned], laidTests := true, laidLooks := .later }
def WrittenReadsUptoCardSaid : Prop := Claim7.holds Tryz.pinned (.plain (OpenSpec.upto writtenReadsSpec)) writtenReadsUptoCard

/-- THE SECOND FORM's CARD OF 'earshotlaw09.WrittenAgrees'. -/
def writtenAgreesUptoCard : Claim7 := { stood := { row := writtenAgreesUptoRow, standIns := [], harness := (true, "585ccbc4e2eea06b668daed0d61e00e1e7ad2cbdf2d9155637334f09ec469085"), looks := true }, kinds := [], alts := [], laidByText := true, laidKinds := [.data, .data, .data, .data, .data, .data, .data, .pinned], laidTests := true, laidLooks := .later }
def WrittenAgreesUptoCardSaid : Prop := Claim7.holds Tryz.pinned (.plain (OpenSpec.upto writtenAgreesSpec)) writtenAgreesUptoCard

/-- THE SECOND FORM's CARD OF 'earshotlaw09.WrittenMany'. -/
def writtenManyUptoCard : Claim7 := { stood := { row := writtenManyUptoRow, standIns := [], harness := (true, "585ccbc4e2eea06b668daed0d61e00e1e7ad2cbdf2d9155637334f09ec469085"), looks := true }, kinds := [], alts := [], laidByText := true, laidKinds := [.data, .data, .data, .data, .data, .data, .data, .data, .data, .data, .pinned], laidTests := true, laidLooks := .later }
def WrittenManyUptoCardSaid : Prop := Claim7.holds Tryz.pinned (.plain (OpenSpec.upto writtenManySpec)) writtenManyUptoCard
end Rows
end Go.Proofs.YtpdfjlbfhnapkaaGreatDoor
