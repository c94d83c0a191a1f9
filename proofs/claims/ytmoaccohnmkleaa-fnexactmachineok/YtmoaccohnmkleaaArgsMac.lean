/-
  Machines as arguments of a law.
-/
import Derived.Test.YtmoaccohnmkleaaTreeArgs
import Derived.Test.YtmoaccohnmkleaaMach
namespace Go.Proofs.Ytmoaccohnmkleaa
open Go.ChangeShapes Go.WideShapes Go.ChangeAt Go.RowKit Go.Deep Go.Joins

theorem Try.cells66 : Try.prog.cellsOf 66 = 4 := by kernel_rfl
theorem Try.cells30 : Try.prog.cellsOf 30 = 6 := by kernel_rfl
theorem Try.cells28 : Try.prog.cellsOf 28 = 1 := by kernel_rfl

theorem flatD_all (l : DL) (g : Nat → Option Value) (h : ∀ i, i < l.length → g (i * 4) = some (.int .i64 (dC l i)) ∧ g (i * 4 + 1) = some (.int .i64 (dS l i)) ∧ g (i * 4 + 2) = some (.int .i64 (dV l i)) ∧ g (i * 4 + 3) = some (.bool (dH l i))) :
    ∀ j u, (flatD l)[j]? = some u → g j = some u := by
  intro j u hj
  have hjl := (List.getElem?_eq_some_iff.1 hj).1
  rw [flatD_length] at hjl
  have hi : j / 4 < l.length := by omega
  have hat := flatD_at l (j / 4) hi
  have hc := h (j / 4) hi
  rcases (show j % 4 = 0 ∨ j % 4 = 1 ∨ j % 4 = 2 ∨ j % 4 = 3 by omega) with h0 | h0 | h0 | h0
  · have e : j / 4 * 4 = j := by omega
    rw [e] at hat hc
    rw [hc.1, ← hat.1, hj]
  · have e : j / 4 * 4 + 1 = j := by omega
    rw [e] at hat hc
    rw [hc.2.1, ← hat.2.1, hj]
  · have e : j / 4 * 4 + 2 = j := by omega
    rw [e] at hat hc
    rw [hc.2.2.1, ← hat.2.2.1, hj]
  · have e : j / 4 * 4 + 3 = j := by omega
    rw [e] at hat hc
    rw [hc.2.2.2, ← hat.2.2.2, hj]

set_option maxRecDepth 100000 in
theorem arg_donesS {H : Type} {enc : TypeId × Value → H} {W : World} {v : Value} {d : DataW H} {p : List MemPlace}
    (hv : ∃ (a0 : Option Addr) (len cap : Nat), v = .slice a0 len cap) (h : DataW.Trod enc Try.prog W 0 (fun _ => true) true 28 v d p) : ∃ l : DL, Row W v l.length (flatD l) := by
  obtain ⟨a0, len, cap, rfl⟩ := hv
  obtain ⟨fuel, hf⟩ := h
  rcases open_slice Try.underlying28 hf with ⟨hcs, _⟩ | ⟨a, len', cap', m, n, D, Pl, hcs, _, hl, hm, hmm, _, hx⟩
  · simp [Value.cells] at hcs
    obtain ⟨rfl, rfl, rfl⟩ := hcs
    exact ⟨[], none, 0, 0, 0, rfl, Nat.le_refl _, Nat.zero_le _, fun h => absurd h (Nat.lt_irrefl _), fun j u hj => by simp [flatD] at hj, fun _ => rfl⟩
  · simp [Value.cells] at hcs
    obtain ⟨rfl, rfl, rfl⟩ := hcs
    simp only [if_true] at hmm
    have hk : ∀ i, i < len → ∃ x : Dn, W.cell? (a.add (i * 4)) = some (.int .i64 x.1) ∧ W.cell? (a.add (i * 4 + 1)) = some (.int .i64 x.2.1) ∧ W.cell? (a.add (i * 4 + 2)) = some (.int .i64 x.2.2.1) ∧ W.cell? (a.add (i * 4 + 3)) = some (.bool x.2.2.2) := by
      intro i hi
      obtain ⟨cs', h1, h2⟩ := hx i (by omega)
      rw [Try.cells66] at h1
      obtain ⟨_, hlen, hcell⟩ := World.cells?_some h1
      obtain ⟨y0, y1, y2, y3, n', hx', _, t0, t1, t2, t3⟩ := trod_struct4 Try.underlying66 h2
      have e0 := hcell 0 (by omega)
      have e1 := hcell 1 (by omega)
      have e2 := hcell 2 (by omega)
      have e3 := hcell 3 (by omega)
      rw [add_add] at e0 e1 e2 e3
      match cs', hlen with
      | [c0, c1, c2, c3], _ =>
        simp [Try.cells3, Try.cells4] at t0 t1 t2 t3
        obtain ⟨x0, q0, _, _⟩ := DataW.trod_int Try.underlying3 t0
        obtain ⟨x1, q1, _, _⟩ := DataW.trod_int Try.underlying3 t1
        obtain ⟨x2, q2, _, _⟩ := DataW.trod_int Try.underlying3 t2
        obtain ⟨x3, q3, _⟩ := DataW.trod_bool Try.underlying4 t3
        simp at q0 q1 q2 q3
        exact ⟨(x0, x1, x2, x3), by rw [← q0]; simpa using e0, by rw [← q1]; simpa using e1, by rw [← q2]; simpa using e2, by rw [← q3]; simpa using e3⟩
    obtain ⟨f, hf'⟩ := choose_lt hk
    obtain ⟨b, off, spot⟩ := a
    have hl0 : ((List.range len).map f).length = len := by simp
    have hsp : 0 < len → spot = none := fun h => by simpa [Addr.add] using World.cell?_spot (hf' 0 h).1
    refine ⟨(List.range len).map f, some ⟨b, off, spot⟩, b, off, cap, by rw [hl0], by rw [hl0]; exact hl, hm, fun h => ?_, ?_, fun h => by cases h⟩
    · rw [hl0] at h
      rw [hsp h]
    · refine flatD_all _ (fun j => W.cell? ⟨b, off + j, none⟩) (fun i hi => ?_)
      rw [hl0] at hi
      have hspot := hsp (by omega)
      subst hspot
      have hc := hf' i hi
      rw [add_plain, add_plain, add_plain, add_plain] at hc
      have a1 : dC ((List.range len).map f) i = (f i).1 := by simp [dC, List.getD, hi]
      have a2 : dS ((List.range len).map f) i = (f i).2.1 := by simp [dS, List.getD, hi]
      have a3 : dV ((List.range len).map f) i = (f i).2.2.1 := by simp [dV, List.getD, hi]
      have a4 : dH ((List.range len).map f) i = (f i).2.2.2 := by simp [dH, List.getD, hi]
      rw [a1, a2, a3, a4]
      exact hc


set_option maxRecDepth 100000 in
theorem arg_machine {H : Type} {enc : TypeId × Value → H} {W : World} {r : Reach} {b0 : Nat} {v : Value} {d : DataW H} {p : List MemPlace}
    (hv : Value.okWide Try.prog W r b0 30 v) (h : DataW.Trod enc Try.prog W 0 (fun _ => true) true 30 v d p) : ∃ (n : Nat) (m : MacV) (T : Tr) (l : DL), v = m.val ∧ MacAt n W m T l := by
  obtain ⟨cs, rfl, hsz⟩ := okWide_struct Try.underlying30 hv
  rw [Try.cells30] at hsz
  obtain ⟨fuel, hf⟩ := h
  obtain ⟨y0, y1, n, _, _, t0, t1⟩ := trod_struct2 Try.underlying30 hf
  obtain ⟨cl⟩ := cs
  match cl, hsz with
  | [c0, c1, c2, c3, c4, c5], _ =>
  simp [Value.cells, Try.cells27, Try.cells28] at t0 t1
  obtain ⟨x, T, e, ht⟩ := tree_of_trod n _ _ t0
  obtain ⟨l, hl⟩ := arg_donesS (d := y1.1) (p := y1.2) (slice_of Try.underlying28 t1) ⟨n, by
    obtain ⟨_, _, _, e⟩ := slice_of Try.underlying28 t1
    subst e
    exact t1⟩
  obtain ⟨lf, p1, p2, p3, p4⟩ := x
  simp [TV.cells] at e
  obtain ⟨rfl, rfl, rfl, rfl, rfl⟩ := e
  exact ⟨n, ⟨⟨lf, _, _, _, _⟩, c5⟩, T, l, rfl, ht, hl⟩

end Go.Proofs.Ytmoaccohnmkleaa
