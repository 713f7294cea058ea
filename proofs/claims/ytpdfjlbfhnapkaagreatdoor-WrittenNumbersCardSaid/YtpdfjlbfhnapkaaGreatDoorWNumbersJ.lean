/- The closed facts of the row of WrittenNumbers, over the whole program. -/
import Derived.Test.YtpdfjlbfhnapkaaGreatDoorRG
namespace Go.Proofs.YtpdfjlbfhnapkaaGreatDoor.writtenNumbers
open Go.ChangeShapes Go.WideShapes Go.ChangeAt Go.RowKit
set_option maxHeartbeats 8000000
theorem j10 : (Rows.writtenNumbersRow.inPlace == Tryz.pinned.checked.prog.inPlace 7) = true := by kernel_rfl
theorem j11 : (Rows.writtenNumbersRow.unfollowed == Tryz.pinned.checked.prog.unfollowed 7) = true := by kernel_rfl
theorem j12 : (Rows.writtenNumbersRow.recurses == Tryz.pinned.checked.prog.recurses 7) = true := by kernel_rfl
theorem j13 : (Rows.writtenNumbersRow.named == Tryz.pinned.checked.prog.varsNamed 7) = true := by kernel_rfl
theorem joined : joinedFacts Tryz.pinned.checked.prog 7 Tryz.f7 (OpenSpec.ofChange Rows.writtenNumbersSpec).bare Rows.writtenNumbersRow = true := by
  unfold joinedFacts
  refine and_in (and_in (and_in (and_in (and_in (and_in (and_in (and_in (and_in (and_in (and_in (and_in (and_in (and_in (and_in (and_in (and_in (and_in (and_in (and_in (and_in (and_in (and_in (and_in (and_in (and_in (and_in (and_in (and_in (and_in (and_in ?_ w_laid) w_maps) ?_) ?_) ?_) w_stops) ?_) w_knobs) j10) j11) j12) j13) ?_) ?_) ?_) ?_) ?_) ?_) ?_) ?_) ?_) ?P1) ?_) w_heard) w_enter) ?P2) ?P3) ?_) ?_) ?_) ?_
  case P1 => exact (congrArg (fun b => (Rows.writtenNumbersRow.plainKeys == b)) w_plain).trans (by kernel_rfl)
  case P2 => exact (congrArg (fun b => (Rows.writtenNumbersRow.lifted == b)) w_lifts).trans (by kernel_rfl)
  case P3 => exact (congrArg (fun b => (b == some Rows.writtenNumbersRow.make)) w_make).trans (by kernel_rfl)
  all_goals (as_aux_lemma => kernel_rfl)
end Go.Proofs.YtpdfjlbfhnapkaaGreatDoor.writtenNumbers
