/-
  What an argument that is a list of pairs holds: opened once into a row of cells.
-/
import Derived.Test.YtmoaccohnmkleaaMem
import Derived.ProofKit
import Derived.Deep.SlicePairs
namespace Go.Proofs.Ytmoaccohnmkleaa
open Go.ChangeShapes Go.WideShapes Go.ChangeAt Go.RowKit Go.Deep

theorem Try.own : ownKnob Try.prog.godebug = none := by kernel_rfl
theorem Try.laidOut : laidOutB Try.prog = true := by kernel_rfl
theorem Try.cells76 : Try.prog.cellsOf 76 = 2 := by kernel_rfl
theorem Try.cells3 : Try.prog.cellsOf 3 = 1 := by kernel_rfl

set_option maxRecDepth 100000 in
theorem arg_pairs {H : Type} {enc : TypeId × Value → H} {W : World} {r : Reach} {b0 : Nat} {v : Value} {d : DataW H} {p : List MemPlace}
    (hv : Value.okWide Try.prog W r b0 22 v) (h : DataW.Trod enc Try.prog W 0 (fun _ => true) true 22 v d p) : ∃ l : List (Int × Int), Row W v l.length (flatP l) := by
  obtain ⟨a0, len, cap, rfl⟩ := okWide_slice Try.underlying22 hv
  obtain ⟨fuel, hf⟩ := h
  rcases open_slice_pairs Try.underlying22 Try.underlying76 Try.cells76 rfl rfl Try.cells3 Try.cells3 hf with ⟨hcs, _⟩ | ⟨a, len', cap', m, n, V0, V1, D0, D1, P0, P1, hcs, _, hl, hm, hmm, _, hx⟩
  · simp [Value.cells] at hcs
    obtain ⟨rfl, rfl, rfl⟩ := hcs
    exact ⟨[], none, 0, 0, 0, rfl, Nat.le_refl _, Nat.zero_le _, fun h => absurd h (Nat.lt_irrefl _), fun j u hj => by simp [flatP] at hj, fun _ => rfl⟩
  · simp [Value.cells] at hcs
    obtain ⟨rfl, rfl, rfl⟩ := hcs
    simp only [if_true] at hmm
    have hk : ∀ i, i < len → ∃ x : Int × Int, W.cell? (a.add (i * 2)) = some (.int .i64 x.1) ∧ W.cell? (a.add (i * 2 + 1)) = some (.int .i64 x.2) := by
      intro i hi
      obtain ⟨c0, c1, t0, t1⟩ := hx i (by omega)
      obtain ⟨x, e0, _, _⟩ := DataW.trod_int Try.underlying3 t0
      obtain ⟨y, e1, _, _⟩ := DataW.trod_int Try.underlying3 t1
      simp at e0 e1
      exact ⟨(x, y), by rw [c0, e0], by rw [c1, e1]⟩
    obtain ⟨f, hf'⟩ := choose_lt hk
    obtain ⟨b, off, spot⟩ := a
    have hl0 : ((List.range len).map f).length = len := by simp
    refine ⟨(List.range len).map f, some ⟨b, off, spot⟩, b, off, cap, by rw [hl0], by rw [hl0]; exact hl, hm, fun h => ?_, ?_, fun h => by cases h⟩
    · rw [hl0] at h
      have hspot : spot = none := by simpa [Addr.add] using World.cell?_spot (hf' 0 h).1
      rw [hspot]
    · intro j u hj
      have hjl := (List.getElem?_eq_some_iff.1 hj).1
      rw [flatP_length, hl0] at hjl
      have hi : j / 2 < len := by omega
      have hspot : spot = none := by simpa [Addr.add] using World.cell?_spot (hf' 0 (by omega)).1
      subst hspot
      have hat := flatP_at ((List.range len).map f) (j / 2) (by rw [hl0]; exact hi)
      have hk0 : kOf ((List.range len).map f) (j / 2) = (f (j / 2)).1 := by simp [kOf, List.getD, hi]
      have hv0 : vOf ((List.range len).map f) (j / 2) = (f (j / 2)).2 := by simp [vOf, List.getD, hi]
      rw [hk0, hv0] at hat
      have hc := hf' (j / 2) hi
      rw [add_plain, add_plain] at hc
      rcases Nat.mod_two_eq_zero_or_one j with h0 | h1
      · have e : j = j / 2 * 2 := by omega
        rw [← e] at hat hc
        rw [hj] at hat
        rw [hc.1]; exact hat.1.symm
      · have e : j = j / 2 * 2 + 1 := by omega
        rw [← e] at hat hc
        rw [hj] at hat
        rw [hc.2]; exact hat.2.symm

end Go.Proofs.Ytmoaccohnmkleaa
