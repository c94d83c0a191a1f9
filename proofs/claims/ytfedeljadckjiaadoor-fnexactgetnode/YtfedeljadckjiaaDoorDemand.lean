/-
  The program's demand: it panics with the one error that stands for a mistake.
-/
import Derived.Test.YtfedeljadckjiaaDoorPutNum
import Derived.Recover
import Derived.Test.YtfedeljadckjiaaDoorRegEnd
import Derived.Deep.RegionHeld3
import Derived.Deep.QuietTactic
import Derived.BigQuiet
import Derived.Deep.RegionWith
namespace Go.Proofs.YtfedeljadckjiaaDoor
open Go.RowKit

/-- the error's value -/
def ErrV (ea : Addr) : Value := .iface 147 (.pointer (some ea))
/-- the variable holds it -/
def ErrIs (ea : Addr) (w : World) : Prop := w.cell? ⟨0, 0, none⟩ = some (ErrV ea)
theorem ErrIs.below {ea : Addr} {w w' : World} (h : ErrIs ea w) (hb : Below w.heap.size w w') : ErrIs ea w' := (hb.cell (p := ⟨0, 0, none⟩) (cell_lt h)).trans h
/-- the panic -/
def boom (ea : Addr) : List PanicEntry := [{ v := ErrV ea, recovered := false }]

theorem demand_true (w : World) : Calls Tryd.prog 47 #[.bool true] w fun e w' => e = .returned (.tuple #[]) ∧ w = w' := by
  have hnot : ∀ (x : Bool) (w : World), (Op.unary .not (.bool x)).run Tryd.prog w = .ok (.bool (!x)) w := fun _ _ => rfl
  go_enter Tryd.func47, Tryd.ntmps47
  go_wp2
  go_end0
  exact ⟨rfl, rfl⟩

theorem demand_false (ea : Addr) (w : World) (h : ErrIs ea w) : Calls Tryd.prog 47 #[.bool false] w fun e w' => e = .panicked (boom ea) ∧ w = w' := by
  have hc : w.cell? ⟨0, 0, none⟩ = some (.iface 147 (.pointer (some ea))) := h
  go_enter Tryd.func47, Tryd.ntmps47
  go_wp2
  exact ⟨rfl, rfl, rfl⟩

theorem run_demand (args : Array Value) (w : World) : (callFunc 47 args).run Tryd.prog w = .ok (.enter 47 args) w := by go_simp

end Go.Proofs.YtfedeljadckjiaaDoor
