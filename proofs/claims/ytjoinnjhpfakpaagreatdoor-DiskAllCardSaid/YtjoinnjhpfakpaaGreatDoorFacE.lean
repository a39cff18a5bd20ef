/-
  Closed facts about the program that every row of the seat asks for, each by itself (in one theorem they take too much memory).
-/
import Derived.Test.YtjoinnjhpfakpaaGreatDoorCards
import Derived.Test.YtjoinnjhpfakpaaGreatDoorTie
import Derived.JoinedCond
namespace Go.Proofs.YtjoinnjhpfakpaaGreatDoor
theorem fLaid : laidOutB Tryz.prog = true := by kernel_rfl
theorem fMaps : mapsRowed Tryz.prog = true := by kernel_rfl
theorem fHeard : Tryz.prog.stopsHeard = true := by kernel_rfl
theorem fEnter : Tryz.prog.mayEnter = true := by kernel_rfl
theorem fLift : Tryz.prog.liftsFinal = Rows.diskFuseRow.lifted := by kernel_rfl
theorem fMake : Tryz.prog.make = some Rows.diskFuseRow.make := by kernel_rfl
theorem fMain : Tryz.prog.mainIs = some (Rows.diskFuseCard.stood.harness.1, Rows.diskFuseCard.stood.harness.2.toList) := by kernel_rfl
theorem and2 {a b : Bool} (h : a = true) (k : b = true) : (a && b) = true := by rw [h, k]; rfl
end Go.Proofs.YtjoinnjhpfakpaaGreatDoor
