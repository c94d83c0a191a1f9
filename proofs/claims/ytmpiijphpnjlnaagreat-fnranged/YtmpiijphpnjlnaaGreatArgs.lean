/-
  What an argument that is a list of pairs holds: opened once into a row of cells.
-/
import Derived.Test.YtmpiijphpnjlnaaGreatPart1
import Derived.ProofKit
import Derived.Deep.SlicePairs
namespace Go.Proofs.YtmpiijphpnjlnaaGreat
open Go.ChangeShapes Go.WideShapes Go.ChangeAt Go.RowKit Go.Deep

theorem Tryz.own : ownKnob Tryz.prog.godebug = none := by kernel_rfl
theorem Tryz.laidOut : laidOutB Tryz.prog = true := by kernel_rfl
theorem Tryz.cells3 : Tryz.prog.cellsOf 3 = 1 := by kernel_rfl

end Go.Proofs.YtmpiijphpnjlnaaGreat
