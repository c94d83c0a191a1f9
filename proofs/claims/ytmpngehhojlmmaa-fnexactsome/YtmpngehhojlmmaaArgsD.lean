/-
  What an argument that is a disk, a list of writes, holds.
-/
import Derived.Test.YtmpngehhojlmmaaDsk
import Derived.ProofKit
import Derived.SliceStrings
import Derived.Deep.SlicePairs
import Derived.Lib.SmallJoins
namespace Go.Proofs.Ytmpngehhojlmmaa
open Go.ChangeShapes Go.WideShapes Go.ChangeAt Go.RowKit Go.Deep Go.Joins

theorem Try.own : ownKnob Try.prog.godebug = none := by kernel_rfl
theorem Try.laidOut : laidOutB Try.prog = true := by kernel_rfl
theorem Try.cellsS : Try.prog.cellsOf 9 = 1 := by kernel_rfl
theorem Try.cellsI : Try.prog.cellsOf 3 = 1 := by kernel_rfl
theorem Try.cellsU : Try.prog.cellsOf 69 = 2 := by kernel_rfl
theorem Try.cellsD : Try.prog.cellsOf 42 = 2 := by kernel_rfl
theorem Try.cellsW : Try.prog.cellsOf 71 = 4 := by kernel_rfl

set_option maxRecDepth 100000 in
theorem row_strings {H : Type} {enc : TypeId × Value → H} {W : World} {fuel : Nat} {v : Value} {y : DataW H × List MemPlace}
    (h : DataW.trod enc Try.prog W 0 (fun _ => true) true fuel 24 [v] = some y) : ∃ P : PL, Row W v P.length (flatS P) ∧ ∀ s ∈ P, s.size ≤ maxLen := by
  rcases open_strings Try.underlying24 Try.underlying9 Try.cellsS h with ⟨hcs, _⟩ | ⟨a, len, cap, ss, hcs, _, hl, hm, hz, _, hcell, hsz⟩
  · simp at hcs
    subst hcs
    exact ⟨[], ⟨none, 0, 0, 0, rfl, Nat.le_refl _, Nat.zero_le _, fun h => absurd h (Nat.lt_irrefl _), fun j u hj => by simp [flatS] at hj, fun _ => rfl⟩, fun s hs => by cases hs⟩
  · simp at hcs
    subst hcs
    simp only [if_true] at hz
    obtain ⟨b, off, spot⟩ := a
    have hl0 : (ss.take len).length = len := by simp; omega
    refine ⟨ss.take len, ⟨some ⟨b, off, spot⟩, b, off, cap, by rw [hl0], by rw [hl0]; exact hl, hm, fun h => ?_, ?_, fun h => by cases h⟩, fun s hs => hsz s (List.mem_of_mem_take hs)⟩
    · rw [hl0] at h
      have hspot : spot = none := by simpa [Addr.add] using World.cell?_spot (hcell 0 (by omega))
      rw [hspot]
    · intro j u hj
      have hjl := (List.getElem?_eq_some_iff.1 hj).1
      rw [flatS_length, hl0] at hjl
      have hspot : spot = none := by simpa [Addr.add] using World.cell?_spot (hcell 0 (by omega))
      subst hspot
      have hc := hcell j (by omega)
      rw [add_plain] at hc
      rw [hc, ← hj, flatS, List.getElem?_map, List.getElem?_take_of_lt hjl, List.getElem?_eq_getElem (by omega)]
      simp [List.getD, show j < ss.length by omega]

theorem flatP_all (l : SL) (g : Nat → Option Value) (h : ∀ i, i < l.length → g (i * 2) = some (.int .i64 (kOf l i)) ∧ g (i * 2 + 1) = some (.int .i64 (vOf l i))) : ∀ j u, (flatP l)[j]? = some u → g j = some u := by
  intro j u hj
  have hjl := (List.getElem?_eq_some_iff.1 hj).1
  rw [flatP_length] at hjl
  have hi : j / 2 < l.length := by omega
  have hat := flatP_at l (j / 2) hi
  have hc := h (j / 2) hi
  rcases (show j % 2 = 0 ∨ j % 2 = 1 by omega) with h0 | h0
  · have e : j / 2 * 2 = j := by omega
    rw [e] at hat hc
    rw [hc.1, ← hat.1, hj]
  · have e : j / 2 * 2 + 1 = j := by omega
    rw [e] at hat hc
    rw [hc.2, ← hat.2, hj]

set_option maxRecDepth 100000 in
theorem row_supers {H : Type} {enc : TypeId × Value → H} {W : World} {fuel : Nat} {v : Value} {y : DataW H × List MemPlace}
    (h : DataW.trod enc Try.prog W 0 (fun _ => true) true fuel 40 [v] = some y) : ∃ l : SL, Row W v l.length (flatP l) := by
  rcases open_slice_pairs Try.underlying40 Try.underlying69 Try.cellsU rfl rfl Try.cellsI Try.cellsI h with ⟨hcs, _⟩ | ⟨a, len, cap, m, n, V0, V1, D0, D1, P0, P1, hcs, _, hl, hm, hmm, _, hx⟩
  · simp at hcs
    subst hcs
    exact ⟨[], none, 0, 0, 0, rfl, Nat.le_refl _, Nat.zero_le _, fun h => absurd h (Nat.lt_irrefl _), fun j u hj => by simp [flatP] at hj, fun _ => rfl⟩
  · simp at hcs
    subst hcs
    simp only [if_true] at hmm
    have hk : ∀ i, i < len → ∃ x : Int × Int, W.cell? (a.add (i * 2)) = some (.int .i64 x.1) ∧ W.cell? (a.add (i * 2 + 1)) = some (.int .i64 x.2) := by
      intro i hi
      obtain ⟨c0, c1, t0, t1⟩ := hx i (by omega)
      obtain ⟨x, e0, _, _⟩ := DataW.trod_int Try.underlying3 t0
      obtain ⟨y, e1, _, _⟩ := DataW.trod_int Try.underlying3 t1
      simp at e0 e1
      exact ⟨(x, y), by rw [c0, e0], by rw [c1, e1]⟩
    obtain ⟨f, hf'⟩ := choose_lt hk
    obtain ⟨b, off, spot⟩ := a
    have hl0 : ((List.range len).map f).length = len := by simp
    have hsp : 0 < len → spot = none := fun h => by simpa [Addr.add] using World.cell?_spot (hf' 0 h).1
    refine ⟨(List.range len).map f, some ⟨b, off, spot⟩, b, off, cap, by rw [hl0], by rw [hl0]; exact hl, hm, fun h => ?_, ?_, fun h => by cases h⟩
    · rw [hl0] at h
      rw [hsp h]
    · refine flatP_all _ (fun j => W.cell? ⟨b, off + j, none⟩) (fun i hi => ?_)
      rw [hl0] at hi
      have hspot := hsp (by omega)
      subst hspot
      have hc := hf' i hi
      rw [add_plain, add_plain] at hc
      have a1 : kOf ((List.range len).map f) i = (f i).1 := by simp [kOf, List.getD, hi]
      have a2 : vOf ((List.range len).map f) i = (f i).2 := by simp [vOf, List.getD, hi]
      rw [a1, a2]
      exact hc

set_option maxRecDepth 100000 in
theorem arg_disk {H : Type} {enc : TypeId × Value → H} {W : World} {r : Reach} {b0 : Nat} {v : Value} {d : DataW H} {p : List MemPlace}
    (hv : Value.okWide Try.prog W r b0 42 v) (h : DataW.Trod enc Try.prog W 0 (fun _ => true) true 42 v d p) : ∃ (P : PL) (S : SL), DiskRow W v P S ∧ ∀ s ∈ P, s.size ≤ maxLen := by
  obtain ⟨v0, v1, y0, y1, n, rfl, _, _, t0, t1⟩ := open_agg2 Try.underlying42 (by kernel_rfl) Try.cellsD hv h
  obtain ⟨P, hP, hz⟩ := row_strings t0
  obtain ⟨S, hS⟩ := row_supers t1
  exact ⟨P, S, ⟨_, _, rfl, hP, hS⟩, hz⟩

theorem flatW_all (l : List Wr) (g : Nat → Option Value) (h : ∀ i, i < l.length → g (i * 4) = some (.int .i64 (wA l i)) ∧ g (i * 4 + 1) = some (.string (wT l i)) ∧ g (i * 4 + 2) = some (.int .i64 (wV l i)) ∧ g (i * 4 + 3) = some (.int .i64 (wR l i))) :
    ∀ j u, (flatW l)[j]? = some u → g j = some u := by
  intro j u hj
  have hjl := (List.getElem?_eq_some_iff.1 hj).1
  rw [flatW_length] at hjl
  have hi : j / 4 < l.length := by omega
  have hat := flatW_at l (j / 4) hi
  have hc := h (j / 4) hi
  rcases (show j % 4 = 0 ∨ j % 4 = 1 ∨ j % 4 = 2 ∨ j % 4 = 3 by omega) with h0 | h0 | h0 | h0
  · have e : j / 4 * 4 = j := by omega
    rw [e] at hat hc
    rw [hc.1, ← hat.1, hj]
  · have e : j / 4 * 4 + 1 = j := by omega
    rw [e] at hat hc
    rw [hc.2.1, ← hat.2.1, hj]
  · have e : j / 4 * 4 + 2 = j := by omega
    rw [e] at hat hc
    rw [hc.2.2.1, ← hat.2.2.1, hj]
  · have e : j / 4 * 4 + 3 = j := by omega
    rw [e] at hat hc
    rw [hc.2.2.2, ← hat.2.2.2, hj]

set_option maxRecDepth 100000 in
theorem arg_writes {H : Type} {enc : TypeId × Value → H} {W : World} {r : Reach} {b0 : Nat} {v : Value} {d : DataW H} {p : List MemPlace}
    (hv : Value.okWide Try.prog W r b0 43 v) (h : DataW.Trod enc Try.prog W 0 (fun _ => true) true 43 v d p) :
    ∃ l : List Wr, Row W v l.length (flatW l) ∧ (∀ x ∈ l, x.2.1.size ≤ maxLen) ∧ ∀ x ∈ l, -9223372036854775808 ≤ x.1 ∧ x.1 ≤ 9223372036854775807 := by
  obtain ⟨a0, len, cap, rfl⟩ := okWide_slice Try.underlying43 hv
  obtain ⟨fuel, hf⟩ := h
  rcases open_slice Try.underlying43 hf with ⟨hcs, _⟩ | ⟨a, len', cap', m, n, D, Pl, hcs, _, hl, hm, hmm, _, hx⟩
  · simp [Value.cells] at hcs
    obtain ⟨rfl, rfl, rfl⟩ := hcs
    exact ⟨[], ⟨none, 0, 0, 0, rfl, Nat.le_refl _, Nat.zero_le _, fun h => absurd h (Nat.lt_irrefl _), fun j u hj => by simp [flatW] at hj, fun _ => rfl⟩, (fun x hx => by cases hx), (fun x hx => by cases hx)⟩
  · simp [Value.cells] at hcs
    obtain ⟨rfl, rfl, rfl⟩ := hcs
    simp only [if_true] at hmm
    have hk : ∀ i, i < len → ∃ x : Wr, (W.cell? (a.add (i * 4)) = some (.int .i64 x.1) ∧ W.cell? (a.add (i * 4 + 1)) = some (.string x.2.1) ∧ W.cell? (a.add (i * 4 + 2)) = some (.int .i64 x.2.2.1) ∧ W.cell? (a.add (i * 4 + 3)) = some (.int .i64 x.2.2.2)) ∧ x.2.1.size ≤ maxLen ∧ -9223372036854775808 ≤ x.1 ∧ x.1 ≤ 9223372036854775807 := by
      intro i hi
      obtain ⟨cs', h1, h2⟩ := hx i (by omega)
      rw [Try.cellsW] at h1
      obtain ⟨_, hlen, hcell⟩ := World.cells?_some h1
      obtain ⟨y0, y1, y2, n', hx', _, t0, t1, t2⟩ := trod_struct3 Try.underlying71 h2
      have e0 := hcell 0 (by omega)
      have e1 := hcell 1 (by omega)
      have e2 := hcell 2 (by omega)
      have e3 := hcell 3 (by omega)
      rw [add_add] at e0 e1 e2 e3
      match cs', hlen with
      | [c0, c1, c2, c3], _ =>
        simp [Try.cellsI, Try.cellsS, Try.cellsU] at t0 t1 t2
        obtain ⟨x0, q0, _, w0⟩ := DataW.trod_int Try.underlying3 t0
        obtain ⟨x1, q1, _, w1⟩ := DataW.trod_string Try.underlying9 t1
        obtain ⟨z0, z1, n2, _, _, u0, u1⟩ := trod_struct2 Try.underlying69 t2
        simp [Try.cellsI] at u0 u1
        obtain ⟨x2, q2, _, _⟩ := DataW.trod_int Try.underlying3 u0
        obtain ⟨x3, q3, _, _⟩ := DataW.trod_int Try.underlying3 u1
        simp at q0 q1 q2 q3
        have hr : -9223372036854775808 ≤ x0 ∧ x0 ≤ 9223372036854775807 := by
          have e1 : IntKind.i64.min = -9223372036854775808 := by kernel_rfl
          have e2 : IntKind.i64.max = 9223372036854775807 := by kernel_rfl
          simp [Lit.wf] at w0
          omega
        exact ⟨(x0, x1, x2, x3), ⟨by rw [← q0]; simpa using e0, by rw [← q1]; simpa using e1, by rw [← q2]; simpa using e2, by rw [← q3]; simpa using e3⟩, w1, hr⟩
    obtain ⟨f, hf'⟩ := choose_lt hk
    obtain ⟨b, off, spot⟩ := a
    have hl0 : ((List.range len).map f).length = len := by simp
    have hsp : 0 < len → spot = none := fun h => by simpa [Addr.add] using World.cell?_spot (hf' 0 h).1.1
    refine ⟨(List.range len).map f, ⟨some ⟨b, off, spot⟩, b, off, cap, by rw [hl0], by rw [hl0]; exact hl, hm, fun h => ?_, ?_, fun h => by cases h⟩, ?_, ?_⟩
    · rw [hl0] at h
      rw [hsp h]
    · refine flatW_all _ (fun j => W.cell? ⟨b, off + j, none⟩) (fun i hi => ?_)
      rw [hl0] at hi
      have hspot := hsp (by omega)
      subst hspot
      have hc := (hf' i hi).1
      rw [add_plain, add_plain, add_plain, add_plain] at hc
      have a1 : wA ((List.range len).map f) i = (f i).1 := by simp [wA, List.getD, hi]
      have a2 : wT ((List.range len).map f) i = (f i).2.1 := by simp [wT, List.getD, hi]
      have a3 : wV ((List.range len).map f) i = (f i).2.2.1 := by simp [wV, List.getD, hi]
      have a4 : wR ((List.range len).map f) i = (f i).2.2.2 := by simp [wR, List.getD, hi]
      rw [a1, a2, a3, a4]
      exact hc
    · intro x hx
      obtain ⟨i, hi, rfl⟩ := List.mem_map.1 hx
      exact (hf' i (by simpa using hi)).2.1
    · intro x hx
      obtain ⟨i, hi, rfl⟩ := List.mem_map.1 hx
      exact (hf' i (by simpa using hi)).2.2

end Go.Proofs.Ytmpngehhojlmmaa
