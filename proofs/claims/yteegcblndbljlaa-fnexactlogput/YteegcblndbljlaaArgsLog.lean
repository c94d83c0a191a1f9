/-
  What an argument that is a log, or a list of entries, holds.
-/
import Derived.Test.YteegcblndbljlaaArgs
import Derived.Test.YteegcblndbljlaaLogAt
import Derived.Lib.SmallJoins
import Derived.Deep.Strs
namespace Go.Proofs.Yteegcblndbljlaa
open Go.ChangeShapes Go.WideShapes Go.ChangeAt Go.RowKit Go.Deep Go.Joins

theorem Try.cells85 : Try.prog.cellsOf 85 = 6 := by kernel_rfl
theorem Try.cells83 : Try.prog.cellsOf 83 = 5 := by kernel_rfl
theorem Try.cellsE3 : Try.prog.cellsOf 81 = 3 := by kernel_rfl
theorem Try.cells51 : Try.prog.cellsOf 51 = 3 := by kernel_rfl
theorem Try.cells49 : Try.prog.cellsOf 49 = 1 := by kernel_rfl
theorem I64.of_wf {n : Int} (h : (Lit.int .i64 n).wf = true) : I64 n := by
  simp [Lit.wf, IntKind.min, IntKind.max, IntKind.bits, IntKind.signed] at h
  exact ⟨by omega, by omega⟩

theorem flatE_all (l : EL) (g : Nat → Option Value) (h : ∀ i, i < l.length → g (i * 6) = some (.int .i64 (eT l i)) ∧ g (i * 6 + 1) = some (.int .i64 (eC l i)) ∧ g (i * 6 + 2) = some (.int .i64 (eS l i)) ∧ g (i * 6 + 3) = some (.int .i64 (eO l i)) ∧ g (i * 6 + 4) = some (.int .i64 (eK l i)) ∧ g (i * 6 + 5) = some (.int .i64 (eV l i))) :
    ∀ j u, (flatE l)[j]? = some u → g j = some u := by
  intro j u hj
  have hjl := (List.getElem?_eq_some_iff.1 hj).1
  rw [flatE_length] at hjl
  have hi : j / 6 < l.length := by omega
  have hat := flatE_at l (j / 6) hi
  have hc := h (j / 6) hi
  rcases (show j % 6 = 0 ∨ j % 6 = 1 ∨ j % 6 = 2 ∨ j % 6 = 3 ∨ j % 6 = 4 ∨ j % 6 = 5 by omega) with h0 | h0 | h0 | h0 | h0 | h0
  · have e : j / 6 * 6 = j := by omega
    rw [e] at hat hc
    rw [hc.1, ← hat.1, hj]
  · have e : j / 6 * 6 + 1 = j := by omega
    rw [e] at hat hc
    rw [hc.2.1, ← hat.2.1, hj]
  · have e : j / 6 * 6 + 2 = j := by omega
    rw [e] at hat hc
    rw [hc.2.2.1, ← hat.2.2.1, hj]
  · have e : j / 6 * 6 + 3 = j := by omega
    rw [e] at hat hc
    rw [hc.2.2.2.1, ← hat.2.2.2.1, hj]
  · have e : j / 6 * 6 + 4 = j := by omega
    rw [e] at hat hc
    rw [hc.2.2.2.2.1, ← hat.2.2.2.2.1, hj]
  · have e : j / 6 * 6 + 5 = j := by omega
    rw [e] at hat hc
    rw [hc.2.2.2.2.2, ← hat.2.2.2.2.2, hj]

theorem slice_ofE {H : Type} {enc : TypeId × Value → H} {W : World} {fuel : Nat} {t e : TypeId} {c : Value} {y : DataW H × List MemPlace} (ht : Try.prog.underlying t = some (.slice e))
    (h : DataW.trod enc Try.prog W 0 (fun _ => true) true fuel t [c] = some y) : ∃ (a0 : Option Addr) (len cap : Nat), c = .slice a0 len cap := by
  rcases open_slice ht h with ⟨hcs, _⟩ | ⟨a, len', cap', m, n, D, Pl, hcs, _⟩
  · simp at hcs; exact ⟨_, _, _, hcs⟩
  · simp at hcs; exact ⟨_, _, _, hcs⟩

set_option maxRecDepth 100000 in
theorem arg_entsS {H : Type} {enc : TypeId × Value → H} {W : World} {v : Value} {d : DataW H} {p : List MemPlace}
    (hv : ∃ (a0 : Option Addr) (len cap : Nat), v = .slice a0 len cap) (h : DataW.Trod enc Try.prog W 0 (fun _ => true) true 49 v d p) : ∃ l : EL, Row W v l.length (flatE l) := by
  obtain ⟨a0, len, cap, rfl⟩ := hv
  obtain ⟨fuel, hf⟩ := h
  rcases open_slice Try.underlying49 hf with ⟨hcs, _⟩ | ⟨a, len', cap', m, n, D, Pl, hcs, _, hl, hm, hmm, _, hx⟩
  · simp [Value.cells] at hcs
    obtain ⟨rfl, rfl, rfl⟩ := hcs
    exact ⟨[], none, 0, 0, 0, rfl, Nat.le_refl _, Nat.zero_le _, fun h => absurd h (Nat.lt_irrefl _), fun j u hj => by simp [flatE] at hj, fun _ => rfl⟩
  · simp [Value.cells] at hcs
    obtain ⟨rfl, rfl, rfl⟩ := hcs
    simp only [if_true] at hmm
    have hk : ∀ i, i < len → ∃ x : En, W.cell? (a.add (i * 6)) = some (.int .i64 x.1) ∧ W.cell? (a.add (i * 6 + 1)) = some (.int .i64 x.2.1) ∧ W.cell? (a.add (i * 6 + 2)) = some (.int .i64 x.2.2.1) ∧ W.cell? (a.add (i * 6 + 3)) = some (.int .i64 x.2.2.2.1) ∧ W.cell? (a.add (i * 6 + 4)) = some (.int .i64 x.2.2.2.2.1) ∧ W.cell? (a.add (i * 6 + 5)) = some (.int .i64 x.2.2.2.2.2) := by
      intro i hi
      obtain ⟨cs', h1, h2⟩ := hx i (by omega)
      rw [Try.cells85] at h1
      obtain ⟨_, hlen, hcell⟩ := World.cells?_some h1
      obtain ⟨y0, y1, n', hx', _, t0, t1⟩ := trod_struct2 Try.underlying85 h2
      have e0 := hcell 0 (by omega)
      have e1 := hcell 1 (by omega)
      have e2 := hcell 2 (by omega)
      have e3 := hcell 3 (by omega)
      have e4 := hcell 4 (by omega)
      have e5 := hcell 5 (by omega)
      rw [add_add] at e0 e1 e2 e3 e4 e5
      match cs', hlen with
      | [c0, c1, c2, c3, c4, c5], _ =>
        simp [Try.cells3, Try.cells83] at t0 t1
        obtain ⟨x0, q0, _, _⟩ := DataW.trod_int Try.underlying3 t0
        obtain ⟨z0, z1, z2, n2, _, _, u0, u1, u2⟩ := trod_struct3 Try.underlying83 t1
        simp [Try.cells3, Try.cellsE3] at u0 u1 u2
        obtain ⟨x1, q1, _, _⟩ := DataW.trod_int Try.underlying3 u0
        obtain ⟨x2, q2, _, _⟩ := DataW.trod_int Try.underlying3 u1
        obtain ⟨r0, r1, r2, n3, _, _, s0, s1, s2⟩ := trod_struct3 Try.underlying81 u2
        simp [Try.cells3] at s0 s1 s2
        obtain ⟨x3, q3, _, _⟩ := DataW.trod_int Try.underlying3 s0
        obtain ⟨x4, q4, _, _⟩ := DataW.trod_int Try.underlying3 s1
        obtain ⟨x5, q5, _, _⟩ := DataW.trod_int Try.underlying3 s2
        simp at q0 q1 q2 q3 q4 q5
        exact ⟨(x0, x1, x2, x3, x4, x5), by rw [← q0]; simpa using e0, by rw [← q1]; simpa using e1, by rw [← q2]; simpa using e2, by rw [← q3]; simpa using e3, by rw [← q4]; simpa using e4, by rw [← q5]; simpa using e5⟩
    obtain ⟨f, hf'⟩ := choose_lt hk
    obtain ⟨b, off, spot⟩ := a
    have hl0 : ((List.range len).map f).length = len := by simp
    have hsp : 0 < len → spot = none := fun h => by simpa [Addr.add] using World.cell?_spot (hf' 0 h).1
    refine ⟨(List.range len).map f, some ⟨b, off, spot⟩, b, off, cap, by rw [hl0], by rw [hl0]; exact hl, hm, fun h => ?_, ?_, fun h => by cases h⟩
    · rw [hl0] at h
      rw [hsp h]
    · refine flatE_all _ (fun j => W.cell? ⟨b, off + j, none⟩) (fun i hi => ?_)
      rw [hl0] at hi
      have hspot := hsp (by omega)
      subst hspot
      have hc := hf' i hi
      rw [add_plain, add_plain, add_plain, add_plain, add_plain, add_plain] at hc
      have a0 : eT ((List.range len).map f) i = (f i).1 := by simp [eT, List.getD, hi]
      have a1 : eC ((List.range len).map f) i = (f i).2.1 := by simp [eC, List.getD, hi]
      have a2 : eS ((List.range len).map f) i = (f i).2.2.1 := by simp [eS, List.getD, hi]
      have a3 : eO ((List.range len).map f) i = (f i).2.2.2.1 := by simp [eO, List.getD, hi]
      have a4 : eK ((List.range len).map f) i = (f i).2.2.2.2.1 := by simp [eK, List.getD, hi]
      have a5 : eV ((List.range len).map f) i = (f i).2.2.2.2.2 := by simp [eV, List.getD, hi]
      rw [a0, a1, a2, a3, a4, a5]
      exact hc

set_option maxRecDepth 100000 in
theorem arg_ents {H : Type} {enc : TypeId × Value → H} {W : World} {r : Reach} {b0 : Nat} {v : Value} {d : DataW H} {p : List MemPlace}
    (hv : Value.okWide Try.prog W r b0 49 v) (h : DataW.Trod enc Try.prog W 0 (fun _ => true) true 49 v d p) : ∃ l : EL, Row W v l.length (flatE l) :=
  arg_entsS (okWide_slice Try.underlying49 hv) h

set_option maxRecDepth 100000 in
theorem arg_log {H : Type} {enc : TypeId × Value → H} {W : World} {r : Reach} {b0 : Nat} {v : Value} {d : DataW H} {p : List MemPlace}
    (hv : Value.okWide Try.prog W r b0 51 v) (h : DataW.Trod enc Try.prog W 0 (fun _ => true) true 51 v d p) : ∃ (b bt : Int) (u : Value) (l : EL), v = lgV b bt u ∧ Row W u l.length (flatE l) ∧ I64 b ∧ I64 bt := by
  obtain ⟨cs, rfl, hsz⟩ := okWide_struct Try.underlying51 hv
  rw [Try.cells51] at hsz
  obtain ⟨fuel, hf⟩ := h
  obtain ⟨y0, y1, y2, n, _, _, t0, t1, t2⟩ := trod_struct3 Try.underlying51 hf
  obtain ⟨cl⟩ := cs
  match cl, hsz with
  | [c0, c1, c2], _ =>
  simp [Value.cells, Try.cells3, Try.cells49] at t0 t1 t2
  obtain ⟨x0, q0, _, w0⟩ := DataW.trod_int Try.underlying3 t0
  obtain ⟨x1, q1, _, w1⟩ := DataW.trod_int Try.underlying3 t1
  obtain ⟨l, hl⟩ := arg_entsS (d := y2.1) (p := y2.2) (slice_ofE Try.underlying49 t2) ⟨n, by
    obtain ⟨_, _, _, e⟩ := slice_ofE Try.underlying49 t2
    subst e
    exact t2⟩
  simp at q0 q1
  subst q0 q1
  exact ⟨x0, x1, c2, l, rfl, hl, I64.of_wf w0, I64.of_wf w1⟩

end Go.Proofs.Yteegcblndbljlaa
