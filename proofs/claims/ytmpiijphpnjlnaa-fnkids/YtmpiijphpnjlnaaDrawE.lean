/-
  The model's drawing of maps, and of what chapter 1's functions are asked.
-/
import Derived.Test.YtmpiijphpnjlnaaDrawD
namespace Go.Proofs.Ytmpiijphpnjlnaa
open Go.RowKit

theorem owns_chgC {w w' : World} {base e size n C : Nat} {v : Value} {xs : List Value} (h : w.ownsRow base e size v n xs) (hc : Chg (fun g => g = C) w w') (hC : C < base) : w'.ownsRow base e size v n xs :=
  owns_chg h hc (fun g hg e => by have := (h.lt g hg).1; omega)

end Go.Proofs.Ytmpiijphpnjlnaa
