/-
  Boxes: a variable's block, framed.
-/
import Derived.Test.YteegcblndbljlaaMem
namespace Go.Proofs.Yteegcblndbljlaa
open Go.RowKit

theorem bel_nw (w : World) (o : Obj) : Below w.heap.size w (w.alloc o) := (Below.refl _ _).alloc (Nat.le_refl _) _
/-- the box B of a struct of the type t -/
def MBox (t : TypeId) (w : World) (B : Nat) (A : Array Value) : Prop := w.heap[B]? = some (.cells A t (0, 0))
theorem MBox.start (t : TypeId) (w : World) (A : Array Value) : MBox t (w.alloc (.cells A t)) w.heap.size A := heap_alloc_new w _
theorem MBox.step {t : TypeId} {w w' : World} {B : Nat} {A : Array Value} (h : MBox t w B A) (hb : Below w.heap.size w w') : MBox t w' B A := (hb.block B (Array.getElem?_eq_some_iff.1 h).1).trans h
theorem MBox.cells {t : TypeId} {w : World} {B : Nat} {A : Array Value} (h : MBox t w B A) : ∀ j, w.cell? ⟨B, j, none⟩ = A[j]? := fun j => cell_of_row _ _ j _ t (0, 0) h

end Go.Proofs.Yteegcblndbljlaa
