/- The closed facts of the row of WrittenCounts, over the whole program. -/
import Derived.Test.YtpdfjlbfhnapkaaGreatDoorRG
namespace Go.Proofs.YtpdfjlbfhnapkaaGreatDoor.writtenCounts
open Go.ChangeShapes Go.WideShapes Go.ChangeAt Go.RowKit
set_option maxHeartbeats 8000000
theorem j10 : (Rows.writtenCountsRow.inPlace == Tryz.pinned.checked.prog.inPlace 8) = true := by kernel_rfl
theorem j11 : (Rows.writtenCountsRow.unfollowed == Tryz.pinned.checked.prog.unfollowed 8) = true := by kernel_rfl
theorem j12 : (Rows.writtenCountsRow.recurses == Tryz.pinned.checked.prog.recurses 8) = true := by kernel_rfl
theorem j13 : (Rows.writtenCountsRow.named == Tryz.pinned.checked.prog.varsNamed 8) = true := by kernel_rfl
theorem joined : joinedFacts Tryz.pinned.checked.prog 8 Tryz.f8 (OpenSpec.ofChange Rows.writtenCountsSpec).bare Rows.writtenCountsRow = true := by
  unfold joinedFacts
  refine and_in (and_in (and_in (and_in (and_in (and_in (and_in (and_in (and_in (and_in (and_in (and_in (and_in (and_in (and_in (and_in (and_in (and_in (and_in (and_in (and_in (and_in (and_in (and_in (and_in (and_in (and_in (and_in (and_in (and_in (and_in ?_ w_laid) w_maps) ?_) ?_) ?_) w_stops) ?_) w_knobs) j10) j11) j12) j13) ?_) ?_) ?_) ?_) ?_) ?_) ?_) ?_) ?_) ?P1) ?_) w_heard) w_enter) ?P2) ?P3) ?_) ?_) ?_) ?_
  case P1 => exact (congrArg (fun b => (Rows.writtenCountsRow.plainKeys == b)) w_plain).trans (by kernel_rfl)
  case P2 => exact (congrArg (fun b => (Rows.writtenCountsRow.lifted == b)) w_lifts).trans (by kernel_rfl)
  case P3 => exact (congrArg (fun b => (b == some Rows.writtenCountsRow.make)) w_make).trans (by kernel_rfl)
  all_goals (as_aux_lemma => kernel_rfl)
end Go.Proofs.YtpdfjlbfhnapkaaGreatDoor.writtenCounts
