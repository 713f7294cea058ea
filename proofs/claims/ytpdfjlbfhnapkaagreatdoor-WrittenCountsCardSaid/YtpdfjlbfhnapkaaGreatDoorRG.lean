/- Rows of frac: the closed facts over the whole program, each one a lemma of its own (together they outgrow the kernel's memory). -/
import Derived.Test.YtpdfjlbfhnapkaaGreatDoorRF
namespace Go.Proofs.YtpdfjlbfhnapkaaGreatDoor
open Go.ChangeShapes Go.WideShapes Go.ChangeAt Go.RowKit
theorem and_in {a b : Bool} (ha : a = true) (hb : b = true) : (a && b) = true := by rw [ha, hb]; rfl
theorem w_laid : laidOutB Tryz.pinned.checked.prog = true := by kernel_rfl
theorem w_maps : mapsRowed Tryz.pinned.checked.prog = true := by kernel_rfl
theorem w_plain : Tryz.pinned.checked.prog.plainKeys = true := by kernel_rfl
theorem w_heard : Tryz.pinned.checked.prog.stopsHeard = true := by kernel_rfl
theorem w_enter : Tryz.pinned.checked.prog.mayEnter = true := by kernel_rfl
theorem w_lifts : Tryz.pinned.checked.prog.liftsFinal = false := by kernel_rfl
theorem w_make : Tryz.pinned.checked.prog.make = some .cut := by kernel_rfl
theorem w_stops : (Tryz.pinned.checked.prog.stops == []) = true := by kernel_rfl
theorem w_knobs : (Tryz.pinned.checked.prog.stopKnobs == []) = true := by kernel_rfl
end Go.Proofs.YtpdfjlbfhnapkaaGreatDoor
