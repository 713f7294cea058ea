/- The closed facts of the row of WrittenThousands, over the whole program. -/
import Derived.Test.YtpdfjlbfhnapkaaGreatDoorRG
namespace Go.Proofs.YtpdfjlbfhnapkaaGreatDoor.writtenThousands
open Go.ChangeShapes Go.WideShapes Go.ChangeAt Go.RowKit
set_option maxHeartbeats 8000000
theorem j10 : (Rows.writtenThousandsRow.inPlace == Tryz.pinned.checked.prog.inPlace 9) = true := by kernel_rfl
theorem j11 : (Rows.writtenThousandsRow.unfollowed == Tryz.pinned.checked.prog.unfollowed 9) = true := by kernel_rfl
theorem j12 : (Rows.writtenThousandsRow.recurses == Tryz.pinned.checked.prog.recurses 9) = true := by kernel_rfl
theorem j13 : (Rows.writtenThousandsRow.named == Tryz.pinned.checked.prog.varsNamed 9) = true := by kernel_rfl
theorem joined : joinedFacts Tryz.pinned.checked.prog 9 Tryz.f9 (OpenSpec.ofChange Rows.writtenThousandsSpec).bare Rows.writtenThousandsRow = true := by
  unfold joinedFacts
  refine and_in (and_in (and_in (and_in (and_in (and_in (and_in (and_in (and_in (and_in (and_in (and_in (and_in (and_in (and_in (and_in (and_in (and_in (and_in (and_in (and_in (and_in (and_in (and_in (and_in (and_in (and_in (and_in (and_in (and_in (and_in ?_ w_laid) w_maps) ?_) ?_) ?_) w_stops) ?_) w_knobs) j10) j11) j12) j13) ?_) ?_) ?_) ?_) ?_) ?_) ?_) ?_) ?_) ?P1) ?_) w_heard) w_enter) ?P2) ?P3) ?_) ?_) ?_) ?_
  case P1 => exact (congrArg (fun b => (Rows.writtenThousandsRow.plainKeys == b)) w_plain).trans (by kernel_rfl)
  case P2 => exact (congrArg (fun b => (Rows.writtenThousandsRow.lifted == b)) w_lifts).trans (by kernel_rfl)
  case P3 => exact (congrArg (fun b => (b == some Rows.writtenThousandsRow.make)) w_make).trans (by kernel_rfl)
  all_goals (as_aux_lemma => kernel_rfl)
end Go.Proofs.YtpdfjlbfhnapkaaGreatDoor.writtenThousands
