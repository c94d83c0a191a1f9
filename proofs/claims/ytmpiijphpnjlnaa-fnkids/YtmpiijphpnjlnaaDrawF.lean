/-
  The model's drawing of a map and a message to it.
-/
import Derived.Test.YtmpiijphpnjlnaaDrawE
import Derived.RegionTactic
import Derived.Deep.RegionHeld3
namespace Go.Proofs.Ytmpiijphpnjlnaa
open Go.RowKit

/-- what stands ahead of the end: the map v1, the message at M, the result's place R -/
structure MDEnd (w : World) (v1 : Value) (l : PL) (M : Nat) (o k v : Int) (W : World) : Prop where
  bel : Below w.heap.size w W
  own : W.ownsRow (w.heap.size + 2) 87 2 v1 l.length (flatP l)
  lt : ∀ g, v1.ownBlock = some g → g < M
  hR : ∃ a b c, W.heap[w.heap.size]? = some (.cells #[a, b, c] 81 (0, 0))
  hM : W.heap[M]? = some (.cells #[.int .i64 o, .int .i64 k, .int .i64 v] 81 (0, 0))
  rM : w.heap.size + 1 < M
  cur : Cur W (w.heap.size + 1)

theorem MDEnd.fin {w : World} {v1 : Value} {l : PL} {M : Nat} {o k v : Int} {W : World} (h : MDEnd w v1 l M o k v W) :
    (Below w.heap.size w (((W.setCell ⟨w.heap.size, 0, none⟩ (.int .i64 o)).setCell ⟨w.heap.size, 1, none⟩ (.int .i64 k)).setCell ⟨w.heap.size, 2, none⟩ (.int .i64 v)) ∧
      (((W.setCell ⟨w.heap.size, 0, none⟩ (.int .i64 o)).setCell ⟨w.heap.size, 1, none⟩ (.int .i64 k)).setCell ⟨w.heap.size, 2, none⟩ (.int .i64 v)).ownsRow w.heap.size 87 2 v1 l.length (flatP l)) ∧
    ((((W.setCell ⟨w.heap.size, 0, none⟩ (.int .i64 o)).setCell ⟨w.heap.size, 1, none⟩ (.int .i64 k)).setCell ⟨w.heap.size, 2, none⟩ (.int .i64 v)).cell? ⟨w.heap.size, 0, none⟩ = some (.int .i64 o) ∧
      (((W.setCell ⟨w.heap.size, 0, none⟩ (.int .i64 o)).setCell ⟨w.heap.size, 1, none⟩ (.int .i64 k)).setCell ⟨w.heap.size, 2, none⟩ (.int .i64 v)).cell? ⟨w.heap.size, 1, none⟩ = some (.int .i64 k) ∧
      (((W.setCell ⟨w.heap.size, 0, none⟩ (.int .i64 o)).setCell ⟨w.heap.size, 1, none⟩ (.int .i64 k)).setCell ⟨w.heap.size, 2, none⟩ (.int .i64 v)).cell? ⟨w.heap.size, 2, none⟩ = some (.int .i64 v)) := by
  obtain ⟨a, b, c, hR⟩ := h.hR
  have hp := put3 (.int .i64 o) (.int .i64 k) (.int .i64 v) hR
  have hcW : Chg (fun g => g = w.heap.size) W (((W.setCell ⟨w.heap.size, 0, none⟩ (.int .i64 o)).setCell ⟨w.heap.size, 1, none⟩ (.int .i64 k)).setCell ⟨w.heap.size, 2, none⟩ (.int .i64 v)) :=
    Chg.setAt (F := fun g => g = w.heap.size) (Chg.setAt (F := fun g => g = w.heap.size) (Chg.setAt (F := fun g => g = w.heap.size) (Chg.refl _ _) _ _ rfl _) _ _ rfl _) _ _ rfl _
  refine ⟨⟨?_, ?_⟩, (at3 hp).1⟩
  · exact h.bel.trans (hcW.below (fun g _ e => by omega) h.bel.size)
  · exact owns_mono (owns_chg h.own hcW (fun g hg e => by have := (h.own.lt g hg).1; omega)) (by omega)

theorem MDEnd.chgC {w : World} {v1 : Value} {l : PL} {M : Nat} {o k v : Int} {W W' : World} (h : MDEnd w v1 l M o k v W) (hc : Cur W' (w.heap.size + 1)) (hg : Chg (fun g => g = w.heap.size + 1) W W') : MDEnd w v1 l M o k v W' := by
  obtain ⟨a, b, c, hR⟩ := h.hR
  have h1 := h.rM
  exact ⟨h.bel.trans (hg.below (fun g _ e => by omega) h.bel.size), owns_chg h.own hg (fun g hg e => by have := (h.own.lt g hg).1; omega), h.lt, ⟨a, b, c, row_chg hR hg (by omega)⟩, row_chg h.hM hg (by omega), h.rM, hc⟩

theorem MDEnd.setK {w : World} {v1 : Value} {l : PL} {M : Nat} {o k v : Int} {W : World} (h : MDEnd w v1 l M o k v W) (k' : Int) : MDEnd w v1 l M o k' v (W.setCell ⟨M, 1, none⟩ (.int .i64 k')) := by
  obtain ⟨a, b, c, hR⟩ := h.hR
  have h1 := h.rM
  have cM : Chg (fun g => g = M) W (W.setCell ⟨M, 1, none⟩ (.int .i64 k')) := Chg.setAt (F := fun g => g = M) (Chg.refl _ _) _ _ rfl _
  exact ⟨h.bel.trans (cM.below (fun g _ e => by omega) h.bel.size), owns_chg h.own cM (fun g hg e => by have := h.lt g hg; omega), h.lt, ⟨a, b, c, row_chg hR cM (by omega)⟩, set32 _ h.hM, h.rM, h.cur.chg cM (fun g e => by omega)⟩

end Go.Proofs.Ytmpiijphpnjlnaa
