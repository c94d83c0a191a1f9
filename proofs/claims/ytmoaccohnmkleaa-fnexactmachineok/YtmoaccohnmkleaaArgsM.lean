/-
  What an argument that is a message, or a list of messages, holds.
-/
import Derived.Test.YtmoaccohnmkleaaArgs
import Derived.Test.YtmoaccohnmkleaaMsgs
import Derived.Lib.SmallJoins
namespace Go.Proofs.Ytmoaccohnmkleaa
open Go.ChangeShapes Go.WideShapes Go.ChangeAt Go.RowKit Go.Deep Go.Joins

theorem Try.cells80 : Try.prog.cellsOf 80 = 3 := by kernel_rfl

set_option maxRecDepth 100000 in
theorem arg_msg {H : Type} {enc : TypeId × Value → H} {W : World} {r : Reach} {b0 : Nat} {v : Value} {d : DataW H} {p : List MemPlace}
    (hv : Value.okWide Try.prog W r b0 80 v) (h : DataW.Trod enc Try.prog W 0 (fun _ => true) true 80 v d p) : ∃ o k y : Int, v = .agg #[.int .i64 o, .int .i64 k, .int .i64 y] := by
  obtain ⟨c0, c1, c2, y0, y1, y2, m, rfl, rfl, rfl, hy0, hy1, hy2⟩ := open_agg3 Try.underlying80 (by kernel_rfl) Try.cells80 hv h
  obtain ⟨a, e0, _, _⟩ := DataW.trod_int Try.underlying3 hy0
  obtain ⟨b, e1, _, _⟩ := DataW.trod_int Try.underlying3 hy1
  obtain ⟨c, e2, _, _⟩ := DataW.trod_int Try.underlying3 hy2
  simp at e0 e1 e2
  exact ⟨a, b, c, by rw [e0, e1, e2]⟩

theorem flatM_all (l : ML) (g : Nat → Option Value) (h : ∀ i, i < l.length → g (i * 3) = some (.int .i64 (mO l i)) ∧ g (i * 3 + 1) = some (.int .i64 (mK l i)) ∧ g (i * 3 + 2) = some (.int .i64 (mV l i))) :
    ∀ j u, (flatM l)[j]? = some u → g j = some u := by
  intro j u hj
  have hjl := (List.getElem?_eq_some_iff.1 hj).1
  rw [flatM_length] at hjl
  have hi : j / 3 < l.length := by omega
  have hat := flatM_at l (j / 3) hi
  have hc := h (j / 3) hi
  rcases (show j % 3 = 0 ∨ j % 3 = 1 ∨ j % 3 = 2 by omega) with h0 | h0 | h0
  · have e : j / 3 * 3 = j := by omega
    rw [e] at hat hc
    rw [hc.1, ← hat.1, hj]
  · have e : j / 3 * 3 + 1 = j := by omega
    rw [e] at hat hc
    rw [hc.2.1, ← hat.2.1, hj]
  · have e : j / 3 * 3 + 2 = j := by omega
    rw [e] at hat hc
    rw [hc.2.2, ← hat.2.2, hj]

set_option maxRecDepth 100000 in
theorem arg_msgs {H : Type} {enc : TypeId × Value → H} {W : World} {r : Reach} {b0 : Nat} {v : Value} {d : DataW H} {p : List MemPlace}
    (hv : Value.okWide Try.prog W r b0 25 v) (h : DataW.Trod enc Try.prog W 0 (fun _ => true) true 25 v d p) : ∃ l : ML, Row W v l.length (flatM l) := by
  obtain ⟨a0, len, cap, rfl⟩ := okWide_slice Try.underlying25 hv
  obtain ⟨fuel, hf⟩ := h
  rcases open_slice Try.underlying25 hf with ⟨hcs, _⟩ | ⟨a, len', cap', m, n, D, Pl, hcs, _, hl, hm, hmm, _, hx⟩
  · simp [Value.cells] at hcs
    obtain ⟨rfl, rfl, rfl⟩ := hcs
    exact ⟨[], none, 0, 0, 0, rfl, Nat.le_refl _, Nat.zero_le _, fun h => absurd h (Nat.lt_irrefl _), fun j u hj => by simp [flatM] at hj, fun _ => rfl⟩
  · simp [Value.cells] at hcs
    obtain ⟨rfl, rfl, rfl⟩ := hcs
    simp only [if_true] at hmm
    have hk : ∀ i, i < len → ∃ x : Int × Int × Int, W.cell? (a.add (i * 3)) = some (.int .i64 x.1) ∧ W.cell? (a.add (i * 3 + 1)) = some (.int .i64 x.2.1) ∧ W.cell? (a.add (i * 3 + 2)) = some (.int .i64 x.2.2) := by
      intro i hi
      obtain ⟨cs', h1, h2⟩ := hx i (by omega)
      rw [Try.cells80] at h1
      obtain ⟨_, hlen, hcell⟩ := World.cells?_some h1
      obtain ⟨y0, y1, y2, n', hx', _, t0, t1, t2⟩ := trod_struct3 Try.underlying80 h2
      have e0 := hcell 0 (by omega)
      have e1 := hcell 1 (by omega)
      have e2 := hcell 2 (by omega)
      rw [add_add] at e0 e1 e2
      match cs', hlen with
      | [c0, c1, c2], _ =>
        simp [Try.cells3] at t0 t1 t2
        obtain ⟨x0, q0, _, _⟩ := DataW.trod_int Try.underlying3 t0
        obtain ⟨x1, q1, _, _⟩ := DataW.trod_int Try.underlying3 t1
        obtain ⟨x2, q2, _, _⟩ := DataW.trod_int Try.underlying3 t2
        simp at q0 q1 q2
        exact ⟨(x0, x1, x2), by rw [← q0]; simpa using e0, by rw [← q1]; simpa using e1, by rw [← q2]; simpa using e2⟩
    obtain ⟨f, hf'⟩ := choose_lt hk
    obtain ⟨b, off, spot⟩ := a
    have hl0 : ((List.range len).map f).length = len := by simp
    have hsp : 0 < len → spot = none := fun h => by simpa [Addr.add] using World.cell?_spot (hf' 0 h).1
    refine ⟨(List.range len).map f, some ⟨b, off, spot⟩, b, off, cap, by rw [hl0], by rw [hl0]; exact hl, hm, fun h => ?_, ?_, fun h => by cases h⟩
    · rw [hl0] at h
      rw [hsp h]
    · refine flatM_all _ (fun j => W.cell? ⟨b, off + j, none⟩) (fun i hi => ?_)
      rw [hl0] at hi
      have hspot := hsp (by omega)
      subst hspot
      have hc := hf' i hi
      rw [add_plain, add_plain, add_plain] at hc
      have a1 : mO ((List.range len).map f) i = (f i).1 := by simp [mO, List.getD, hi]
      have a2 : mK ((List.range len).map f) i = (f i).2.1 := by simp [mK, List.getD, hi]
      have a3 : mV ((List.range len).map f) i = (f i).2.2 := by simp [mV, List.getD, hi]
      rw [a1, a2, a3]
      exact hc

end Go.Proofs.Ytmoaccohnmkleaa
