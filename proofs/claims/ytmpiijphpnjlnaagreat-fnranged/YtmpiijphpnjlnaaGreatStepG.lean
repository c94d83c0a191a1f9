/-
  More functions that are entered.
-/
import Derived.Test.YtmpiijphpnjlnaaGreatStepF
namespace Go.Proofs.YtmpiijphpnjlnaaGreat
open Go.RowKit

theorem run36 (args : Array Value) (w : World) : (callFunc 36 args).run Tryz.prog w = .ok (.enter 36 args) w := by go_simp
theorem run54 (args : Array Value) (w : World) : (callFunc 54 args).run Tryz.prog w = .ok (.enter 54 args) w := by go_simp
theorem run55 (args : Array Value) (w : World) : (callFunc 55 args).run Tryz.prog w = .ok (.enter 55 args) w := by go_simp
theorem run35 (args : Array Value) (w : World) : (callFunc 35 args).run Tryz.prog w = .ok (.enter 35 args) w := by go_simp

end Go.Proofs.YtmpiijphpnjlnaaGreat
