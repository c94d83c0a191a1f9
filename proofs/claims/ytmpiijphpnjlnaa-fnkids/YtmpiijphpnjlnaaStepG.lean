/-
  More functions that are entered.
-/
import Derived.Test.YtmpiijphpnjlnaaStepF
namespace Go.Proofs.Ytmpiijphpnjlnaa
open Go.RowKit

theorem run70 (args : Array Value) (w : World) : (callFunc 70 args).run Try.prog w = .ok (.enter 70 args) w := by go_simp
theorem run71 (args : Array Value) (w : World) : (callFunc 71 args).run Try.prog w = .ok (.enter 71 args) w := by go_simp
theorem run72 (args : Array Value) (w : World) : (callFunc 72 args).run Try.prog w = .ok (.enter 72 args) w := by go_simp
theorem run37 (args : Array Value) (w : World) : (callFunc 37 args).run Try.prog w = .ok (.enter 37 args) w := by go_simp

end Go.Proofs.Ytmpiijphpnjlnaa
