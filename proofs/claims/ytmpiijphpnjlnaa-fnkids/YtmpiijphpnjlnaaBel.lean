/-
  Regions that draw their order and whose callees make memory of their own but write into none that was there: one walk in the text's order, over the class of all later worlds.
-/
import Derived.Test.YtmpiijphpnjlnaaPart1
import Derived.BigQuiet
namespace Go.Proofs.Ytmpiijphpnjlnaa
open Go.RowKit

/-- A LATER WORLD: what lay in w lies there. -/
structure Bel (w : World) where
  now : World
  bel : Below w.heap.size w now

theorem Bel.some (w : World) : Nonempty (Bel w) := ⟨⟨w, Below.refl _ _⟩⟩

theorem wp_region_bel {P : Program} {id : Nat} {Q : Exit → Act → World → Prop} {a : Act} {w w0 : World} {l : List Oper} (hm : P.follows .mixedOrders = true) (hB : Region.lexB .any l.toArray = true) (h0 : Below w0.heap.size w0 w)
    (h : wpQuiet P l.toArray (fun w' => ∃ u : Bel w0, w' = u.now) (fun a' => ∀ w', (∃ u : Bel w0, w' = u.now) → Q .normal a' w') l a) : (Code.region id l.toArray true).wp P Q a w :=
  wp_region_quiet (C := fun w' => ∃ u : Bel w0, w' = u.now) hm hB ⟨⟨w.drew, h0.drew⟩, rfl⟩ (by simpa using h)

theorem Calls.bel {P : Program} {f : FuncId} {args : Array Value} {w : World} {u : Bel w} {v : Value}
    (h : Calls P f args u.now fun e w' => e = .returned v ∧ Below u.now.heap.size u.now w') : Calls P f args u.now fun e w'' => e = .returned v ∧ ∃ u' : Bel w, w'' = u'.now :=
  h.mono fun _ w' ⟨he, hb⟩ => ⟨he, ⟨w', Below.and u.bel hb⟩, rfl⟩

end Go.Proofs.Ytmpiijphpnjlnaa
