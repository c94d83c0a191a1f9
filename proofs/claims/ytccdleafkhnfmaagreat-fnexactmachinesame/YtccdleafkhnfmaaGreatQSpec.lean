/-
  The contract of the model's l3Pending.
-/
import Derived.Test.YtccdleafkhnfmaaGreatQueryMath
import Derived.Test.YtccdleafkhnfmaaGreatStep
namespace Go.Proofs.YtccdleafkhnfmaaGreat
open Go.RowKit

theorem box_cells5 {u : World} {B : Nat} {x0 x1 x2 x3 x4 : Value} (h : OneAt u B #[x0, x1, x2, x3, x4]) :
    u.cell? ⟨B, 0, none⟩ = some x0 ∧ u.cell? ⟨B, 1, none⟩ = some x1 ∧ u.cell? ⟨B, 2, none⟩ = some x2 ∧ u.cell? ⟨B, 3, none⟩ = some x3 ∧ u.cell? ⟨B, 4, none⟩ = some x4 := by
  have := h.cells
  exact ⟨by rw [this]; rfl, by rw [this]; rfl, by rw [this]; rfl, by rw [this]; rfl, by rw [this]; rfl⟩
theorem OneAt.stepB {u w' : World} {B N : Nat} {A : Array Value} (h : OneAt u B A) (hb : Below N u w') (hN : B < N) : OneAt w' B A := (hb.block B hN).trans h
theorem cell_lowB {w w' : World} {N b o : Nat} {v : Value} (hb : Below N w w') (hN : b < N) (h : w.cell? ⟨b, o, none⟩ = some v) : w'.cell? ⟨b, o, none⟩ = some v := (hb.cell (p := ⟨b, o, none⟩) hN).trans h

end Go.Proofs.YtccdleafkhnfmaaGreat
