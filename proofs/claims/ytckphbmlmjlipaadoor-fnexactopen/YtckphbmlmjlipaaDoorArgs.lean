/-
  What an argument that is a list of pairs holds: opened once into a row of cells.
-/
import Derived.Test.YtckphbmlmjlipaaDoorPart1
import Derived.ProofKit
import Derived.Deep.SlicePairs
namespace Go.Proofs.YtckphbmlmjlipaaDoor
open Go.ChangeShapes Go.WideShapes Go.ChangeAt Go.RowKit Go.Deep

theorem Tryd.own : ownKnob Tryd.prog.godebug = none := by kernel_rfl
theorem Tryd.laidOut : laidOutB Tryd.prog = true := by kernel_rfl
theorem Tryd.cells3 : Tryd.prog.cellsOf 3 = 1 := by kernel_rfl

end Go.Proofs.YtckphbmlmjlipaaDoor
