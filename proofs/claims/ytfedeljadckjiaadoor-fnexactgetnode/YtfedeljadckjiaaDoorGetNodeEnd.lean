/-
  The law FnExactGetNode, with the model's GetNode.
-/
import Derived.Test.YtfedeljadckjiaaDoorGetNodeLaw
import Derived.Test.YtfedeljadckjiaaDoorSGetNode
namespace Go.Proofs.YtfedeljadckjiaaDoor
open Go.RowKit

theorem SNodePost.split {g : Option NodeV} {e : Ending} {w' : World} (h : SNodePost g e w') : ∃ (x : TV) (vk : Value), e = .returned (.tuple #[x.val, vk, .bool g.isSome]) ∧ TreeAt 2 w' x (treeG g) ∧ Row w' vk (kidsG g).length (flatI (kidsG g)) := by
  cases g with
  | some n => exact h
  | none =>
    obtain ⟨gb, rfl⟩ := h
    have rn := rowZ w'
    exact ⟨⟨false, .slice none 0 0, .slice none 0 0, .slice none 0 0, .slice none 0 0⟩, _, rfl, TreeAt.mk rfl rn rn rn ⟨[], rfl, rn, fun i hi => absurd hi (Nat.not_lt_zero _)⟩, ⟨_, gb, 0, 0, rfl, Nat.le_refl _, Nat.zero_le _, fun h => absurd h (Nat.lt_irrefl _), fun j u hj => by simp [kidsG, flatI] at hj, fun h => by cases h⟩⟩
theorem spec_gets : SpecGets := fun v l u hu hl hn => (specGetNode_any v l u hu hl hn).mono (fun _ _ h => ⟨h.1.split, h.2⟩)
theorem fnExactGetNode_any (ea : Addr) (v : Value) (l : List Int) (w : World) (h : Row w v l.length (flatB l)) (hl : inByte l) (he : ErrIs ea w) :
    Calls Tryd.prog 7 #[v] w fun e w' => e = .returned (.bool true) ∧ Below w.heap.size w w' := fnExactGetNode_of spec_gets ea v l w h hl he

end Go.Proofs.YtfedeljadckjiaaDoor
