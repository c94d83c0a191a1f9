/-
  What an argument that is a disk, a list of writes, holds.
-/
import Derived.Test.YtckphbmlmjlipaaDoorArgs
import Derived.Test.YtckphbmlmjlipaaDoorPart10
import Derived.ProofKit
import Derived.SliceStrings
import Derived.Deep.SlicePairs
import Derived.Lib.SmallJoins
namespace Go.Proofs.YtckphbmlmjlipaaDoor
open Go.ChangeShapes Go.WideShapes Go.ChangeAt Go.RowKit Go.Deep Go.Joins

theorem Tryd.cellsS : Tryd.prog.cellsOf 9 = 1 := by kernel_rfl
theorem Tryd.cellsI : Tryd.prog.cellsOf 3 = 1 := by kernel_rfl
theorem Tryd.cellsU : Tryd.prog.cellsOf 74 = 2 := by kernel_rfl
theorem Tryd.cellsD : Tryd.prog.cellsOf 25 = 2 := by kernel_rfl
set_option maxRecDepth 100000 in
theorem row_strings {H : Type} {enc : TypeId × Value → H} {W : World} {fuel : Nat} {v : Value} {y : DataW H × List MemPlace}
    (h : DataW.trod enc Tryd.prog W 0 (fun _ => true) true fuel 22 [v] = some y) : ∃ P : PgL, Row W v P.length (flatS P) ∧ ∀ s ∈ P, s.size ≤ maxLen := by
  rcases open_strings Tryd.underlying22 Tryd.underlying9 Tryd.cellsS h with ⟨hcs, _⟩ | ⟨a, len, cap, ss, hcs, _, hl, hm, hz, _, hcell, hsz⟩
  · simp at hcs
    subst hcs
    exact ⟨[], ⟨none, 0, 0, 0, rfl, Nat.le_refl _, Nat.zero_le _, fun h => absurd h (Nat.lt_irrefl _), fun j u hj => by simp [flatS] at hj, fun _ => rfl⟩, fun s hs => by cases hs⟩
  · simp at hcs
    subst hcs
    simp only [if_true] at hz
    obtain ⟨b, off, spot⟩ := a
    have hl0 : (ss.take len).length = len := by simp; omega
    refine ⟨ss.take len, ⟨some ⟨b, off, spot⟩, b, off, cap, by rw [hl0], by rw [hl0]; exact hl, hm, fun h => ?_, ?_, fun h => by cases h⟩, fun s hs => hsz s (List.mem_of_mem_take hs)⟩
    · rw [hl0] at h
      have hspot : spot = none := by simpa [Addr.add] using World.cell?_spot (hcell 0 (by omega))
      rw [hspot]
    · intro j u hj
      have hjl := (List.getElem?_eq_some_iff.1 hj).1
      rw [flatS_length, hl0] at hjl
      have hspot : spot = none := by simpa [Addr.add] using World.cell?_spot (hcell 0 (by omega))
      subst hspot
      have hc := hcell j (by omega)
      rw [add_plain] at hc
      rw [hc, ← hj, flatS, List.getElem?_map, List.getElem?_take_of_lt hjl, List.getElem?_eq_getElem (by omega)]
      simp [List.getD, show j < ss.length by omega]

theorem flatP_all (l : SL) (g : Nat → Option Value) (h : ∀ i, i < l.length → g (i * 2) = some (.int .i64 (kOf l i)) ∧ g (i * 2 + 1) = some (.int .i64 (vOf l i))) : ∀ j u, (flatP l)[j]? = some u → g j = some u := by
  intro j u hj
  have hjl := (List.getElem?_eq_some_iff.1 hj).1
  rw [flatP_length] at hjl
  have hi : j / 2 < l.length := by omega
  have hat := flatP_at l (j / 2) hi
  have hc := h (j / 2) hi
  rcases (show j % 2 = 0 ∨ j % 2 = 1 by omega) with h0 | h0
  · have e : j / 2 * 2 = j := by omega
    rw [e] at hat hc
    rw [hc.1, ← hat.1, hj]
  · have e : j / 2 * 2 + 1 = j := by omega
    rw [e] at hat hc
    rw [hc.2, ← hat.2, hj]

set_option maxRecDepth 100000 in
theorem row_supers {H : Type} {enc : TypeId × Value → H} {W : World} {fuel : Nat} {v : Value} {y : DataW H × List MemPlace}
    (h : DataW.trod enc Tryd.prog W 0 (fun _ => true) true fuel 23 [v] = some y) : ∃ l : SL, Row W v l.length (flatP l) := by
  rcases open_slice_pairs Tryd.underlying23 Tryd.underlying74 Tryd.cellsU rfl rfl Tryd.cellsI Tryd.cellsI h with ⟨hcs, _⟩ | ⟨a, len, cap, m, n, V0, V1, D0, D1, P0, P1, hcs, _, hl, hm, hmm, _, hx⟩
  · simp at hcs
    subst hcs
    exact ⟨[], none, 0, 0, 0, rfl, Nat.le_refl _, Nat.zero_le _, fun h => absurd h (Nat.lt_irrefl _), fun j u hj => by simp [flatP] at hj, fun _ => rfl⟩
  · simp at hcs
    subst hcs
    simp only [if_true] at hmm
    have hk : ∀ i, i < len → ∃ x : Int × Int, W.cell? (a.add (i * 2)) = some (.int .i64 x.1) ∧ W.cell? (a.add (i * 2 + 1)) = some (.int .i64 x.2) := by
      intro i hi
      obtain ⟨c0, c1, t0, t1⟩ := hx i (by omega)
      obtain ⟨x, e0, _, _⟩ := DataW.trod_int Tryd.underlying3 t0
      obtain ⟨y, e1, _, _⟩ := DataW.trod_int Tryd.underlying3 t1
      simp at e0 e1
      exact ⟨(x, y), by rw [c0, e0], by rw [c1, e1]⟩
    obtain ⟨f, hf'⟩ := choose_lt hk
    obtain ⟨b, off, spot⟩ := a
    have hl0 : ((List.range len).map f).length = len := by simp
    have hsp : 0 < len → spot = none := fun h => by simpa [Addr.add] using World.cell?_spot (hf' 0 h).1
    refine ⟨(List.range len).map f, some ⟨b, off, spot⟩, b, off, cap, by rw [hl0], by rw [hl0]; exact hl, hm, fun h => ?_, ?_, fun h => by cases h⟩
    · rw [hl0] at h
      rw [hsp h]
    · refine flatP_all _ (fun j => W.cell? ⟨b, off + j, none⟩) (fun i hi => ?_)
      rw [hl0] at hi
      have hspot := hsp (by omega)
      subst hspot
      have hc := hf' i hi
      rw [add_plain, add_plain] at hc
      have a1 : kOf ((List.range len).map f) i = (f i).1 := by simp [kOf, List.getD, hi]
      have a2 : vOf ((List.range len).map f) i = (f i).2 := by simp [vOf, List.getD, hi]
      rw [a1, a2]
      exact hc

set_option maxRecDepth 100000 in
theorem arg_disk {H : Type} {enc : TypeId × Value → H} {W : World} {r : Reach} {b0 : Nat} {v : Value} {d : DataW H} {p : List MemPlace}
    (hv : Value.okWide Tryd.prog W r b0 25 v) (h : DataW.Trod enc Tryd.prog W 0 (fun _ => true) true 25 v d p) : ∃ (P : PgL) (S : SL), DiskRow W v P S ∧ ∀ s ∈ P, s.size ≤ maxLen := by
  obtain ⟨v0, v1, y0, y1, n, rfl, _, _, t0, t1⟩ := open_agg2 Tryd.underlying25 (by kernel_rfl) Tryd.cellsD hv h
  obtain ⟨P, hP, hz⟩ := row_strings t0
  obtain ⟨S, hS⟩ := row_supers t1
  exact ⟨P, S, ⟨_, _, rfl, hP, hS⟩, hz⟩

theorem flatW_all (l : List Wr) (g : Nat → Option Value) (h : ∀ i, i < l.length → g (i * 4) = some (.int .i64 (wA l i)) ∧ g (i * 4 + 1) = some (.string (wT l i)) ∧ g (i * 4 + 2) = some (.int .i64 (wV l i)) ∧ g (i * 4 + 3) = some (.int .i64 (wR l i))) :
    ∀ j u, (flatW l)[j]? = some u → g j = some u := by
  intro j u hj
  have hjl := (List.getElem?_eq_some_iff.1 hj).1
  rw [flatW_length] at hjl
  have hi : j / 4 < l.length := by omega
  have hat := flatW_at l (j / 4) hi
  have hc := h (j / 4) hi
  rcases (show j % 4 = 0 ∨ j % 4 = 1 ∨ j % 4 = 2 ∨ j % 4 = 3 by omega) with h0 | h0 | h0 | h0
  · have e : j / 4 * 4 = j := by omega
    rw [e] at hat hc
    rw [hc.1, ← hat.1, hj]
  · have e : j / 4 * 4 + 1 = j := by omega
    rw [e] at hat hc
    rw [hc.2.1, ← hat.2.1, hj]
  · have e : j / 4 * 4 + 2 = j := by omega
    rw [e] at hat hc
    rw [hc.2.2.1, ← hat.2.2.1, hj]
  · have e : j / 4 * 4 + 3 = j := by omega
    rw [e] at hat hc
    rw [hc.2.2.2, ← hat.2.2.2, hj]

end Go.Proofs.YtckphbmlmjlipaaDoor
