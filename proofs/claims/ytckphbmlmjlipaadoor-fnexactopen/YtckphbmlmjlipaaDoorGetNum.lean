/-
  The program's GetNum: a mistake is a panic that it recovers.
-/
import Derived.Test.YtckphbmlmjlipaaDoorPart2
import Derived.Test.YtckphbmlmjlipaaDoorSGetNum
import Derived.Laws.Pointers
namespace Go.Proofs.YtckphbmlmjlipaaDoor
open Go.RowKit

/-- one cell of a variable -/
def VarIs (w : World) (B : Nat) (v : Value) (t : TypeId) : Prop := w.heap[B]? = some (.cells #[v] t (0, 0))
theorem VarIs.cell {w : World} {B : Nat} {v : Value} {t : TypeId} (h : VarIs w B v t) : w.cell? ⟨B, 0, none⟩ = some v := by rw [cell_of_cells h]; rfl
theorem VarIs.live {w : World} {B : Nat} {v : Value} {t : TypeId} (h : VarIs w B v t) : w.frozen? ⟨B, 0, none⟩ = false := frozen_of_cells h
theorem VarIs.chg {F : Nat → Prop} {w w' : World} {B : Nat} {v : Value} {t : TypeId} (h : VarIs w B v t) (hc : Chg F w w') (hF : ¬ F B) : VarIs w' B v t := row_chg h hc hF
theorem VarIs.set {w : World} {B : Nat} {v : Value} {t : TypeId} (h : VarIs w B v t) (u : Value) : VarIs (w.setCell ⟨B, 0, none⟩ u) B u t := heap_setCell_same w B 0 _ _ _ h
theorem VarIs.setOther {w : World} {B C : Nat} {v : Value} {t : TypeId} (h : VarIs w B v t) (u : Value) (hne : C ≠ B) : VarIs (w.setCell ⟨C, 0, none⟩ u) B v t := by
  unfold VarIs at *
  rw [heap_setCell_other _ _ _ _ (fun e => hne (by simpa using e.symm))]; exact h

end Go.Proofs.YtckphbmlmjlipaaDoor
