/-
  What an argument that is a list of pairs holds: opened once into a row of cells.
  What an argument that is a row of bytes holds: opened once into a row of cells.
-/
import Derived.Test.YtekcnibohikmdaaOfWrites1
import Derived.ProofKit
import Derived.Deep.SlicePairs
import Derived.Test.YtekcnibohikmdaaOfWrites24
import Derived.ChangeSlices
namespace Go.Proofs.Ytekcnibohikmdaa
set_option maxRecDepth 100000
set_option maxHeartbeats 8000000
section
open Go.ChangeShapes Go.WideShapes Go.ChangeAt Go.RowKit Go.Deep

theorem Try.own : ownKnob Try.prog.godebug = none := by kernel_rfl
theorem Try.laidOut : laidOutB Try.prog = true := by kernel_rfl
end
section
open Go.ChangeShapes Go.WideShapes Go.ChangeAt Go.RowKit Go.Deep

theorem Try.cells5 : Try.prog.cellsOf 5 = 1 := by kernel_rfl

theorem arg_bytes {H : Type} {enc : TypeId × Value → H} {W : World} {r : Reach} {b0 : Nat} {v : Value} {d : DataW H} {p : List MemPlace}
  (hv : Value.okWide Try.prog W r b0 22 v) (h : DataW.Trod enc Try.prog W 0 (fun _ => true) true 22 v d p) : ∃ bs : List Int, Code8 W v bs := by
 obtain ⟨a0, len, cap, rfl⟩ := okWide_slice Try.underlying22 hv
 obtain ⟨fuel, hf⟩ := h
 rcases open_ints Try.underlying22 Try.underlying5 Try.cells5 hf with ⟨hcs, _⟩ | ⟨a, len', cap', zs, hcs, _, hl, hm, hmm, _, hx, hwf⟩
 ·simp [Value.cells] at hcs
  obtain ⟨rfl, rfl, rfl⟩ := hcs
  exact ⟨[], ⟨none, 0, 0, 0, rfl, Nat.le_refl _, Nat.zero_le _, fun h => absurd h (Nat.lt_irrefl _), fun j u hj => by simp at hj, fun _ => rfl⟩, fun j => by simp⟩
 ·simp [Value.cells] at hcs
  obtain ⟨rfl, rfl, rfl⟩ := hcs
  simp only [if_true] at hmm
  obtain ⟨b, off, spot⟩ := a
  have hl0 : (zs.take len).length = len := by simp; omega
  refine ⟨zs.take len, ⟨some ⟨b, off, spot⟩, b, off, cap, by rw [hl0], by rw [hl0]; exact hl, hm, fun h => ?_, ?_, fun h => by cases h⟩, ?_⟩
  ·rw [hl0] at h
   have hspot : spot = none := by simpa [Addr.add] using World.cell?_spot (hx 0 (by omega))
   rw [hspot]
  ·intro j u hj
   have hjl := (List.getElem?_eq_some_iff.1 hj).1
   rw [List.length_map, hl0] at hjl
   have hspot : spot = none := by simpa [Addr.add] using World.cell?_spot (hx 0 (by omega))
   subst hspot
   have hc := hx j (by omega)
   rw [add_plain] at hc
   rw [hc, ← hj, List.getElem?_map, List.getElem?_take_of_lt hjl, List.getElem?_eq_getElem (by omega)]
   simp [List.getD, show j < zs.length by omega]
  ·intro j
   by_cases hj : j < (zs.take len).length
   ·have hm2 : (zs.take len)[j] ∈ zs := List.mem_of_mem_take (List.getElem_mem hj)
    have := hwf _ hm2
    rw [List.getD, List.getElem?_eq_getElem hj, Option.getD_some]
    simp only [Lit.wf, Bool.and_eq_true, decide_eq_true_eq] at this
    have e1 : IntKind.u8.min = 0 := by decide
    have e2 : IntKind.u8.max = 255 := by decide
    rw [e1, e2] at this
    exact this
   ·rw [List.getD, List.getElem?_eq_none (by omega)]; simp
end
end Go.Proofs.Ytekcnibohikmdaa
