/-
  What an argument that is a list of pairs holds: opened once into a row of cells.
-/
import Derived.Test.YteegcblndbljlaaMem
import Derived.ProofKit
import Derived.Deep.SlicePairs
namespace Go.Proofs.Yteegcblndbljlaa
open Go.ChangeShapes Go.WideShapes Go.ChangeAt Go.RowKit Go.Deep

theorem Try.own : ownKnob Try.prog.godebug = none := by kernel_rfl
theorem Try.laidOut : laidOutB Try.prog = true := by kernel_rfl
theorem Try.cells3 : Try.prog.cellsOf 3 = 1 := by kernel_rfl

end Go.Proofs.Yteegcblndbljlaa
