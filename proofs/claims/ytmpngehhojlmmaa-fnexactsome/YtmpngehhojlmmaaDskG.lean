/-
  Worlds in which two new blocks are as they were laid.
-/
import Derived.Test.YtmpngehhojlmmaaDskW
namespace Go.Proofs.Ytmpngehhojlmmaa
open Go.RowKit

/-- a world behind w in which the first two new blocks are as they were laid -/
def Gd (w : World) (A B : Obj) (u : World) : Prop := Below w.heap.size w u ∧ w.heap.size + 1 < u.heap.size ∧ u.heap[w.heap.size]? = some A ∧ u.heap[w.heap.size + 1]? = some B
theorem Gd.start (w : World) (A B : Obj) : Gd w A B ((w.alloc A).alloc B) := by
  obtain ⟨a0, a1, _⟩ := al3 w A B (.cells #[] 0)
  have s1 := al_size w A
  have s2 := al_size (w.alloc A) B
  have k3 := fun (k : Nat) (h : k < ((w.alloc A).alloc B).heap.size) => (bel_al (w := (w.alloc A).alloc B) (Below.refl _ _) (.cells #[] 0)).block k h
  exact ⟨bel_al (bel_al (Below.refl _ _) _) _, by omega, (k3 _ (by omega)).symm.trans a0, (k3 _ (by omega)).symm.trans a1⟩
theorem Gd.below {w : World} {A B : Obj} {u u' : World} (h : Gd w A B u) (hb : Below u.heap.size u u') : Gd w A B u' :=
  ⟨Below.and h.1 hb, Nat.lt_of_lt_of_le h.2.1 hb.size, (hb.block _ (by have := h.2.1; omega)).trans h.2.2.1, (hb.block _ h.2.1).trans h.2.2.2⟩
theorem Gd.al {w : World} {A B : Obj} {u : World} (h : Gd w A B u) (o : Obj) : Gd w A B (u.alloc o) := h.below (bel_al (Below.refl _ _) o)
theorem Gd.drew {w : World} {A B : Obj} {u : World} (h : Gd w A B u) : Gd w A B u.drew := h.below (Below.refl _ _).drew

end Go.Proofs.Ytmpngehhojlmmaa
