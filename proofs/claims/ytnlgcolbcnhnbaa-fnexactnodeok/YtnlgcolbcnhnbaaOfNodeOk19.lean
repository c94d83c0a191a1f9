/-
  Machines as arguments of a law.
  TermAt of both sides, and where an entry stands (placeOf).
  What an argument that is a log, or a list of entries, holds.
  Nodes as arguments of a law.
-/
import Derived.Test.YtnlgcolbcnhnbaaOfNodeOk18
import Derived.Test.YtnlgcolbcnhnbaaOfNodeOk4
import Derived.Test.YtnlgcolbcnhnbaaOfNodeOk10
import Derived.Lib.SmallJoins
import Derived.Deep.Strs
import Derived.Test.YtnlgcolbcnhnbaaOfNodeOk7
namespace Go.Proofs.Ytnlgcolbcnhnbaa
open Go.ChangeShapes Go.WideShapes Go.ChangeAt Go.RowKit Go.Deep Go.Joins

theorem Try.cells127 : Try.prog.cellsOf 127 = 4 := by kernel_rfl
theorem Try.cells33 : Try.prog.cellsOf 33 = 6 := by kernel_rfl
theorem Try.cells31 : Try.prog.cellsOf 31 = 1 := by kernel_rfl

theorem flatD_all (l : DL) (g : Nat → Option Value) (h : ∀ i, i < l.length → g (i * 4) = some (.int .i64 (dC l i)) ∧ g (i * 4 + 1) = some (.int .i64 (dS l i)) ∧ g (i * 4 + 2) = some (.int .i64 (dV l i)) ∧ g (i * 4 + 3) = some (.bool (dH l i))) :
    ∀ j u, (flatD l)[j]? = some u → g j = some u := by
  intro j u hj
  have hjl := (List.getElem?_eq_some_iff.1 hj).1
  rw [flatD_length] at hjl
  have hi : j / 4 < l.length := by omega
  have hat := flatD_at l (j / 4) hi
  have hc := h (j / 4) hi
  rcases (show j % 4 = 0 ∨ j % 4 = 1 ∨ j % 4 = 2 ∨ j % 4 = 3 by omega) with h0 | h0 | h0 | h0
  · have e : j / 4 * 4 = j := by omega
    rw [e] at hat hc
    rw [hc.1, ← hat.1, hj]
  · have e : j / 4 * 4 + 1 = j := by omega
    rw [e] at hat hc
    rw [hc.2.1, ← hat.2.1, hj]
  · have e : j / 4 * 4 + 2 = j := by omega
    rw [e] at hat hc
    rw [hc.2.2.1, ← hat.2.2.1, hj]
  · have e : j / 4 * 4 + 3 = j := by omega
    rw [e] at hat hc
    rw [hc.2.2.2, ← hat.2.2.2, hj]

set_option maxRecDepth 100000 in
theorem arg_donesS {H : Type} {enc : TypeId × Value → H} {W : World} {v : Value} {d : DataW H} {p : List MemPlace}
    (hv : ∃ (a0 : Option Addr) (len cap : Nat), v = .slice a0 len cap) (h : DataW.Trod enc Try.prog W 0 (fun _ => true) true 31 v d p) : ∃ l : DL, Row W v l.length (flatD l) := by
  obtain ⟨a0, len, cap, rfl⟩ := hv
  obtain ⟨fuel, hf⟩ := h
  rcases open_slice Try.underlying31 hf with ⟨hcs, _⟩ | ⟨a, len', cap', m, n, D, Pl, hcs, _, hl, hm, hmm, _, hx⟩
  · simp [Value.cells] at hcs
    obtain ⟨rfl, rfl, rfl⟩ := hcs
    exact ⟨[], none, 0, 0, 0, rfl, Nat.le_refl _, Nat.zero_le _, fun h => absurd h (Nat.lt_irrefl _), fun j u hj => by simp [flatD] at hj, fun _ => rfl⟩
  · simp [Value.cells] at hcs
    obtain ⟨rfl, rfl, rfl⟩ := hcs
    simp only [if_true] at hmm
    have hk : ∀ i, i < len → ∃ x : Dn, W.cell? (a.add (i * 4)) = some (.int .i64 x.1) ∧ W.cell? (a.add (i * 4 + 1)) = some (.int .i64 x.2.1) ∧ W.cell? (a.add (i * 4 + 2)) = some (.int .i64 x.2.2.1) ∧ W.cell? (a.add (i * 4 + 3)) = some (.bool x.2.2.2) := by
      intro i hi
      obtain ⟨cs', h1, h2⟩ := hx i (by omega)
      rw [Try.cells127] at h1
      obtain ⟨_, hlen, hcell⟩ := World.cells?_some h1
      obtain ⟨y0, y1, y2, y3, n', hx', _, t0, t1, t2, t3⟩ := trod_struct4 Try.underlying127 h2
      have e0 := hcell 0 (by omega)
      have e1 := hcell 1 (by omega)
      have e2 := hcell 2 (by omega)
      have e3 := hcell 3 (by omega)
      rw [add_add] at e0 e1 e2 e3
      match cs', hlen with
      | [c0, c1, c2, c3], _ =>
        simp [Try.cells3, Try.cells4] at t0 t1 t2 t3
        obtain ⟨x0, q0, _, _⟩ := DataW.trod_int Try.underlying3 t0
        obtain ⟨x1, q1, _, _⟩ := DataW.trod_int Try.underlying3 t1
        obtain ⟨x2, q2, _, _⟩ := DataW.trod_int Try.underlying3 t2
        obtain ⟨x3, q3, _⟩ := DataW.trod_bool Try.underlying4 t3
        simp at q0 q1 q2 q3
        exact ⟨(x0, x1, x2, x3), by rw [← q0]; simpa using e0, by rw [← q1]; simpa using e1, by rw [← q2]; simpa using e2, by rw [← q3]; simpa using e3⟩
    obtain ⟨f, hf'⟩ := choose_lt hk
    obtain ⟨b, off, spot⟩ := a
    have hl0 : ((List.range len).map f).length = len := by simp
    have hsp : 0 < len → spot = none := fun h => by simpa [Addr.add] using World.cell?_spot (hf' 0 h).1
    refine ⟨(List.range len).map f, some ⟨b, off, spot⟩, b, off, cap, by rw [hl0], by rw [hl0]; exact hl, hm, fun h => ?_, ?_, fun h => by cases h⟩
    · rw [hl0] at h
      rw [hsp h]
    · refine flatD_all _ (fun j => W.cell? ⟨b, off + j, none⟩) (fun i hi => ?_)
      rw [hl0] at hi
      have hspot := hsp (by omega)
      subst hspot
      have hc := hf' i hi
      rw [add_plain, add_plain, add_plain, add_plain] at hc
      have a1 : dC ((List.range len).map f) i = (f i).1 := by simp [dC, List.getD, hi]
      have a2 : dS ((List.range len).map f) i = (f i).2.1 := by simp [dS, List.getD, hi]
      have a3 : dV ((List.range len).map f) i = (f i).2.2.1 := by simp [dV, List.getD, hi]
      have a4 : dH ((List.range len).map f) i = (f i).2.2.2 := by simp [dH, List.getD, hi]
      rw [a1, a2, a3, a4]
      exact hc

end Go.Proofs.Ytnlgcolbcnhnbaa

namespace Go.Proofs.Ytnlgcolbcnhnbaa
open Go.RowKit

/-- a number of 64 bits -/
def I64 (x : Int) : Prop := -9223372036854775808 ≤ x ∧ x ≤ 9223372036854775807
/-- where the entry number i stands -/
def placeB (b : Int) (l : EL) (i : Int) : Option Nat := if b < i ∧ i - b - 1 < l.length then some (i - b - 1).toNat else none
/-- the Term of the entry number i -/
def termB (b bt : Int) (l : EL) (i : Int) : Int := if i = b then bt else match placeB b l i with | some n => eT l n | none => -1

abbrev placeLV (o : Option Nat) : Value := match o with | some n => .tuple #[.int .i64 (n : Int), .bool true] | none => .tuple #[.int .i64 0, .bool false]

end Go.Proofs.Ytnlgcolbcnhnbaa

namespace Go.Proofs.Ytnlgcolbcnhnbaa
open Go.ChangeShapes Go.WideShapes Go.ChangeAt Go.RowKit Go.Deep Go.Joins

theorem Try.cells122 : Try.prog.cellsOf 122 = 6 := by kernel_rfl
theorem Try.cells120 : Try.prog.cellsOf 120 = 5 := by kernel_rfl
theorem Try.cellsE3 : Try.prog.cellsOf 118 = 3 := by kernel_rfl
theorem Try.cells24 : Try.prog.cellsOf 24 = 3 := by kernel_rfl
theorem Try.cells22 : Try.prog.cellsOf 22 = 1 := by kernel_rfl
theorem I64.of_wf {n : Int} (h : (Lit.int .i64 n).wf = true) : I64 n := by
  simp [Lit.wf, IntKind.min, IntKind.max, IntKind.bits, IntKind.signed] at h
  exact ⟨by omega, by omega⟩

theorem flatE_all (l : EL) (g : Nat → Option Value) (h : ∀ i, i < l.length → g (i * 6) = some (.int .i64 (eT l i)) ∧ g (i * 6 + 1) = some (.int .i64 (eC l i)) ∧ g (i * 6 + 2) = some (.int .i64 (eS l i)) ∧ g (i * 6 + 3) = some (.int .i64 (eO l i)) ∧ g (i * 6 + 4) = some (.int .i64 (eK l i)) ∧ g (i * 6 + 5) = some (.int .i64 (eV l i))) :
    ∀ j u, (flatE l)[j]? = some u → g j = some u := by
  intro j u hj
  have hjl := (List.getElem?_eq_some_iff.1 hj).1
  rw [flatE_length] at hjl
  have hi : j / 6 < l.length := by omega
  have hat := flatE_at l (j / 6) hi
  have hc := h (j / 6) hi
  rcases (show j % 6 = 0 ∨ j % 6 = 1 ∨ j % 6 = 2 ∨ j % 6 = 3 ∨ j % 6 = 4 ∨ j % 6 = 5 by omega) with h0 | h0 | h0 | h0 | h0 | h0
  · have e : j / 6 * 6 = j := by omega
    rw [e] at hat hc
    rw [hc.1, ← hat.1, hj]
  · have e : j / 6 * 6 + 1 = j := by omega
    rw [e] at hat hc
    rw [hc.2.1, ← hat.2.1, hj]
  · have e : j / 6 * 6 + 2 = j := by omega
    rw [e] at hat hc
    rw [hc.2.2.1, ← hat.2.2.1, hj]
  · have e : j / 6 * 6 + 3 = j := by omega
    rw [e] at hat hc
    rw [hc.2.2.2.1, ← hat.2.2.2.1, hj]
  · have e : j / 6 * 6 + 4 = j := by omega
    rw [e] at hat hc
    rw [hc.2.2.2.2.1, ← hat.2.2.2.2.1, hj]
  · have e : j / 6 * 6 + 5 = j := by omega
    rw [e] at hat hc
    rw [hc.2.2.2.2.2, ← hat.2.2.2.2.2, hj]

theorem slice_ofE {H : Type} {enc : TypeId × Value → H} {W : World} {fuel : Nat} {t e : TypeId} {c : Value} {y : DataW H × List MemPlace} (ht : Try.prog.underlying t = some (.slice e))
    (h : DataW.trod enc Try.prog W 0 (fun _ => true) true fuel t [c] = some y) : ∃ (a0 : Option Addr) (len cap : Nat), c = .slice a0 len cap := by
  rcases open_slice ht h with ⟨hcs, _⟩ | ⟨a, len', cap', m, n, D, Pl, hcs, _⟩
  · simp at hcs; exact ⟨_, _, _, hcs⟩
  · simp at hcs; exact ⟨_, _, _, hcs⟩

set_option maxRecDepth 100000 in
theorem arg_entsS {H : Type} {enc : TypeId × Value → H} {W : World} {v : Value} {d : DataW H} {p : List MemPlace}
    (hv : ∃ (a0 : Option Addr) (len cap : Nat), v = .slice a0 len cap) (h : DataW.Trod enc Try.prog W 0 (fun _ => true) true 22 v d p) : ∃ l : EL, Row W v l.length (flatE l) := by
  obtain ⟨a0, len, cap, rfl⟩ := hv
  obtain ⟨fuel, hf⟩ := h
  rcases open_slice Try.underlying22 hf with ⟨hcs, _⟩ | ⟨a, len', cap', m, n, D, Pl, hcs, _, hl, hm, hmm, _, hx⟩
  · simp [Value.cells] at hcs
    obtain ⟨rfl, rfl, rfl⟩ := hcs
    exact ⟨[], none, 0, 0, 0, rfl, Nat.le_refl _, Nat.zero_le _, fun h => absurd h (Nat.lt_irrefl _), fun j u hj => by simp [flatE] at hj, fun _ => rfl⟩
  · simp [Value.cells] at hcs
    obtain ⟨rfl, rfl, rfl⟩ := hcs
    simp only [if_true] at hmm
    have hk : ∀ i, i < len → ∃ x : En, W.cell? (a.add (i * 6)) = some (.int .i64 x.1) ∧ W.cell? (a.add (i * 6 + 1)) = some (.int .i64 x.2.1) ∧ W.cell? (a.add (i * 6 + 2)) = some (.int .i64 x.2.2.1) ∧ W.cell? (a.add (i * 6 + 3)) = some (.int .i64 x.2.2.2.1) ∧ W.cell? (a.add (i * 6 + 4)) = some (.int .i64 x.2.2.2.2.1) ∧ W.cell? (a.add (i * 6 + 5)) = some (.int .i64 x.2.2.2.2.2) := by
      intro i hi
      obtain ⟨cs', h1, h2⟩ := hx i (by omega)
      rw [Try.cells122] at h1
      obtain ⟨_, hlen, hcell⟩ := World.cells?_some h1
      obtain ⟨y0, y1, n', hx', _, t0, t1⟩ := trod_struct2 Try.underlying122 h2
      have e0 := hcell 0 (by omega)
      have e1 := hcell 1 (by omega)
      have e2 := hcell 2 (by omega)
      have e3 := hcell 3 (by omega)
      have e4 := hcell 4 (by omega)
      have e5 := hcell 5 (by omega)
      rw [add_add] at e0 e1 e2 e3 e4 e5
      match cs', hlen with
      | [c0, c1, c2, c3, c4, c5], _ =>
        simp [Try.cells3, Try.cells120] at t0 t1
        obtain ⟨x0, q0, _, _⟩ := DataW.trod_int Try.underlying3 t0
        obtain ⟨z0, z1, z2, n2, _, _, u0, u1, u2⟩ := trod_struct3 Try.underlying120 t1
        simp [Try.cells3, Try.cellsE3] at u0 u1 u2
        obtain ⟨x1, q1, _, _⟩ := DataW.trod_int Try.underlying3 u0
        obtain ⟨x2, q2, _, _⟩ := DataW.trod_int Try.underlying3 u1
        obtain ⟨r0, r1, r2, n3, _, _, s0, s1, s2⟩ := trod_struct3 Try.underlying118 u2
        simp [Try.cells3] at s0 s1 s2
        obtain ⟨x3, q3, _, _⟩ := DataW.trod_int Try.underlying3 s0
        obtain ⟨x4, q4, _, _⟩ := DataW.trod_int Try.underlying3 s1
        obtain ⟨x5, q5, _, _⟩ := DataW.trod_int Try.underlying3 s2
        simp at q0 q1 q2 q3 q4 q5
        exact ⟨(x0, x1, x2, x3, x4, x5), by rw [← q0]; simpa using e0, by rw [← q1]; simpa using e1, by rw [← q2]; simpa using e2, by rw [← q3]; simpa using e3, by rw [← q4]; simpa using e4, by rw [← q5]; simpa using e5⟩
    obtain ⟨f, hf'⟩ := choose_lt hk
    obtain ⟨b, off, spot⟩ := a
    have hl0 : ((List.range len).map f).length = len := by simp
    have hsp : 0 < len → spot = none := fun h => by simpa [Addr.add] using World.cell?_spot (hf' 0 h).1
    refine ⟨(List.range len).map f, some ⟨b, off, spot⟩, b, off, cap, by rw [hl0], by rw [hl0]; exact hl, hm, fun h => ?_, ?_, fun h => by cases h⟩
    · rw [hl0] at h
      rw [hsp h]
    · refine flatE_all _ (fun j => W.cell? ⟨b, off + j, none⟩) (fun i hi => ?_)
      rw [hl0] at hi
      have hspot := hsp (by omega)
      subst hspot
      have hc := hf' i hi
      rw [add_plain, add_plain, add_plain, add_plain, add_plain, add_plain] at hc
      have a0 : eT ((List.range len).map f) i = (f i).1 := by simp [eT, List.getD, hi]
      have a1 : eC ((List.range len).map f) i = (f i).2.1 := by simp [eC, List.getD, hi]
      have a2 : eS ((List.range len).map f) i = (f i).2.2.1 := by simp [eS, List.getD, hi]
      have a3 : eO ((List.range len).map f) i = (f i).2.2.2.1 := by simp [eO, List.getD, hi]
      have a4 : eK ((List.range len).map f) i = (f i).2.2.2.2.1 := by simp [eK, List.getD, hi]
      have a5 : eV ((List.range len).map f) i = (f i).2.2.2.2.2 := by simp [eV, List.getD, hi]
      rw [a0, a1, a2, a3, a4, a5]
      exact hc

end Go.Proofs.Ytnlgcolbcnhnbaa

namespace Go.Proofs.Ytnlgcolbcnhnbaa
open Go.ChangeShapes Go.WideShapes Go.ChangeAt Go.RowKit Go.Deep Go.Joins

theorem Try.cells36 : Try.prog.cellsOf 36 = 23 := by kernel_rfl
theorem Try.cells34 : Try.prog.cellsOf 34 = 1 := by kernel_rfl

theorem arg_boolsS {H : Type} {enc : TypeId × Value → H} {W : World} {fuel : Nat} {c : Value} {y : DataW H × List MemPlace}
    (h : DataW.trod enc Try.prog W 0 (fun _ => true) true fuel 34 [c] = some y) : ∃ l : List Bool, Row W c l.length (flatL l) := by
  rcases open_slice1 Try.underlying34 Try.cells4 h with ⟨hcs, _⟩ | ⟨a, len, cap, m, n, V, D, Pl, hcs, _, hl, hm, hmm, _, hx⟩
  · simp at hcs
    subst hcs
    exact ⟨[], none, 0, 0, 0, rfl, Nat.le_refl _, Nat.zero_le _, fun h => absurd h (Nat.lt_irrefl _), fun j u hj => by simp [flatL] at hj, fun _ => rfl⟩
  · simp at hcs
    subst hcs
    simp only [if_true] at hmm
    have hk : ∀ i, i < len → ∃ x : Bool, W.cell? (a.add i) = some (.bool x) := by
      intro i hi
      obtain ⟨c0, t0⟩ := hx i (by omega)
      obtain ⟨x, e0, _⟩ := DataW.trod_bool Try.underlying4 t0
      simp at e0
      exact ⟨x, by rw [← e0]; exact c0⟩
    obtain ⟨f, hf⟩ := choose_lt hk
    obtain ⟨b, off, spot⟩ := a
    have hl0 : ((List.range len).map f).length = len := by simp
    have hsp : 0 < len → spot = none := fun h => World.cell?_spot (hf 0 h)
    refine ⟨(List.range len).map f, some ⟨b, off, spot⟩, b, off, cap, by rw [hl0], by rw [hl0]; exact hl, hm, fun h => ?_, ?_, fun h => by cases h⟩
    · rw [hl0] at h
      rw [hsp h]
    · intro j u hj
      have hjl : j < len := by have := (List.getElem?_eq_some_iff.1 hj).1; simpa [flatL] using this
      have := hsp (by omega)
      subst this
      simp [flatL, hjl] at hj
      subst hj
      have := hf j hjl
      rw [add_plain] at this
      exact this

theorem log_of_trod {H : Type} {enc : TypeId × Value → H} {W : World} {fuel : Nat} {c0 c1 c2 : Value} {y : DataW H × List MemPlace}
    (h : DataW.trod enc Try.prog W 0 (fun _ => true) true fuel 24 [c0, c1, c2] = some y) : ∃ (b bt : Int) (l : EL), c0 = .int .i64 b ∧ c1 = .int .i64 bt ∧ Row W c2 l.length (flatE l) ∧ I64 b ∧ I64 bt := by
  obtain ⟨y0, y1, y2, n, _, _, t0, t1, t2⟩ := trod_struct3 Try.underlying24 h
  simp [Try.cells3, Try.cells22] at t0 t1 t2
  obtain ⟨x0, q0, _, w0⟩ := DataW.trod_int Try.underlying3 t0
  obtain ⟨x1, q1, _, w1⟩ := DataW.trod_int Try.underlying3 t1
  obtain ⟨l, hl⟩ := arg_entsS (d := y2.1) (p := y2.2) (slice_ofE Try.underlying22 t2) ⟨n, by
    obtain ⟨_, _, _, e⟩ := slice_ofE Try.underlying22 t2
    subst e
    exact t2⟩
  simp at q0 q1
  exact ⟨x0, x1, l, q0, q1, hl, I64.of_wf w0, I64.of_wf w1⟩
theorem mach_of_trod {H : Type} {enc : TypeId × Value → H} {W : World} {n : Nat} {c0 c1 c2 c3 c4 c5 : Value} {y : DataW H × List MemPlace}
    (h : DataW.trod enc Try.prog W 0 (fun _ => true) true (n + 1) 33 [c0, c1, c2, c3, c4, c5] = some y) : ∃ (m : MacV) (T : Tr) (l : DL), c0 = .bool m.x.lf ∧ c1 = m.x.p ∧ c2 = m.x.c ∧ c3 = m.x.k ∧ c4 = m.x.b ∧ c5 = m.v ∧ MacAt n W m T l := by
  obtain ⟨xs, n', hn, -, -, hlen, hf⟩ := DataW.trod_struct Try.underlying33 h
  obtain rfl : n = n' := by omega
  match xs, hlen with
  | [y0, y1], _ =>
  have t0 := hf 0 _ rfl
  have t1 := hf 1 _ rfl
  simp [Try.cells30, Try.cells31] at t0 t1
  obtain ⟨x, T, e, ht⟩ := tree_of_trod n _ _ t0
  obtain ⟨l, hl⟩ := arg_donesS (d := y1.1) (p := y1.2) (slice_of Try.underlying31 t1) ⟨n, by
    obtain ⟨_, _, _, e⟩ := slice_of Try.underlying31 t1
    subst e
    exact t1⟩
  obtain ⟨lf, p1, p2, p3, p4⟩ := x
  simp [TV.cells] at e
  obtain ⟨rfl, rfl, rfl, rfl, rfl⟩ := e
  exact ⟨⟨⟨lf, _, _, _, _⟩, c5⟩, T, l, rfl, rfl, rfl, rfl, rfl, rfl, ht, hl⟩

set_option maxRecDepth 100000 in
set_option maxHeartbeats 2000000 in
theorem arg_node {H : Type} {enc : TypeId × Value → H} {W : World} {r : Reach} {b0 : Nat} {v : Value} {d : DataW H} {p : List MemPlace}
    (hv : Value.okWide Try.prog W r b0 36 v) (h : DataW.Trod enc Try.prog W 0 (fun _ => true) true 36 v d p) : ∃ (n : Nat) (N : NodV) (D : Nd), v = N.val ∧ NodAt n W N D ∧ (I64 N.id ∧ I64 N.te ∧ I64 N.vo ∧ I64 N.lb ∧ I64 N.lt ∧ I64 N.ro ∧ I64 N.cm) := by
  obtain ⟨cs, rfl, hsz⟩ := okWide_struct Try.underlying36 hv
  rw [Try.cells36] at hsz
  obtain ⟨fuel, hf⟩ := h
  obtain ⟨xs, n, _, -, -, hlen, hg⟩ := DataW.trod_struct Try.underlying36 hf
  obtain ⟨cl⟩ := cs
  match cl, hsz with
  | [c0, c1, c2, c3, c4, c5, c6, c7, c8, c9, c10, c11, c12, c13, c14, c15, c16, c17, c18, c19, c20, c21, c22], _ =>
  match xs, hlen with
  | [y0, y1, y2, y3, y4, y5, y6, y7, y8, y9, y10], _ =>
  have t0 := hg 0 _ rfl
  have t1 := hg 1 _ rfl
  have t2 := hg 2 _ rfl
  have t3 := hg 3 _ rfl
  have t4 := hg 4 _ rfl
  have t5 := hg 5 _ rfl
  have t6 := hg 6 _ rfl
  have t7 := hg 7 _ rfl
  have t8 := hg 8 _ rfl
  have t9 := hg 9 _ rfl
  have t10 := hg 10 _ rfl
  simp [Value.cells, Try.cells3, Try.cells24, Try.cells33, Try.cells34, Try.cells26] at t0 t1 t2 t3 t4 t5 t6 t7 t8 t9 t10
  obtain ⟨id, q0, _, w0⟩ := DataW.trod_int Try.underlying3 t0
  obtain ⟨te, q1, _, w1⟩ := DataW.trod_int Try.underlying3 t1
  obtain ⟨vo, q2, _, w2⟩ := DataW.trod_int Try.underlying3 t2
  obtain ⟨ro, q5, _, w5⟩ := DataW.trod_int Try.underlying3 t5
  obtain ⟨cm, q9, _, w9⟩ := DataW.trod_int Try.underlying3 t9
  simp at q0 q1 q2 q5 q9
  obtain ⟨lb, lt, l, e3, e4, hl, wb, wt⟩ := log_of_trod t3
  obtain ⟨vs, hvs⟩ := arg_boolsS t6
  obtain ⟨nx, hnx⟩ := arg_intsS t7
  obtain ⟨mt, hmt⟩ := arg_intsS t8
  cases n with
  | zero => simp [DataW.trod] at t4
  | succ n =>
  obtain ⟨m1, T1, d1, f1, f2, f3, f4, f5, f6, hm1⟩ := mach_of_trod t4
  obtain ⟨m2, T2, d2, g1, g2, g3, g4, g5, g6, hm2⟩ := mach_of_trod t10
  subst q0 q1 q2 q5 q9 e3 e4 f1 f2 f3 f4 f5 f6 g1 g2 g3 g4 g5 g6
  exact ⟨n, ⟨id, te, vo, lb, lt, c5, m1, ro, c13, c14, c15, cm, m2⟩, ⟨l, T1, d1, vs, nx, mt, T2, d2⟩, rfl, ⟨hl, hm1, hvs, hnx, hmt, hm2⟩, I64.of_wf w0, I64.of_wf w1, I64.of_wf w2, wb, wt, I64.of_wf w5, I64.of_wf w9⟩

end Go.Proofs.Ytnlgcolbcnhnbaa
