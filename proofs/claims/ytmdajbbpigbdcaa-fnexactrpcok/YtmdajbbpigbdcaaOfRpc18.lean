/-
  Machines as arguments of a law.
  TermAt of both sides, and where an entry stands (placeOf).
  What an argument that is a log, or a list of entries, holds.
  What is told, as an argument of a law.
-/
import Derived.Test.YtmdajbbpigbdcaaOfRpc17
import Derived.Test.YtmdajbbpigbdcaaOfRpc4
import Derived.Test.YtmdajbbpigbdcaaOfRpc11
import Derived.Lib.SmallJoins
import Derived.Deep.Strs
import Derived.Test.YtmdajbbpigbdcaaOfRpc6
namespace Go.Proofs.Ytmdajbbpigbdcaa
open Go.ChangeShapes Go.WideShapes Go.ChangeAt Go.RowKit Go.Deep Go.Joins

theorem Try.cells139 : Try.prog.cellsOf 139 = 4 := by kernel_rfl
theorem Try.cells50 : Try.prog.cellsOf 50 = 6 := by kernel_rfl
theorem Try.cells48 : Try.prog.cellsOf 48 = 1 := by kernel_rfl

theorem flatD_all (l : DL) (g : Nat → Option Value) (h : ∀ i, i < l.length → g (i * 4) = some (.int .i64 (dC l i)) ∧ g (i * 4 + 1) = some (.int .i64 (dS l i)) ∧ g (i * 4 + 2) = some (.int .i64 (dV l i)) ∧ g (i * 4 + 3) = some (.bool (dH l i))) :
    ∀ j u, (flatD l)[j]? = some u → g j = some u := by
  intro j u hj
  have hjl := (List.getElem?_eq_some_iff.1 hj).1
  rw [flatD_length] at hjl
  have hi : j / 4 < l.length := by omega
  have hat := flatD_at l (j / 4) hi
  have hc := h (j / 4) hi
  rcases (show j % 4 = 0 ∨ j % 4 = 1 ∨ j % 4 = 2 ∨ j % 4 = 3 by omega) with h0 | h0 | h0 | h0
  · have e : j / 4 * 4 = j := by omega
    rw [e] at hat hc
    rw [hc.1, ← hat.1, hj]
  · have e : j / 4 * 4 + 1 = j := by omega
    rw [e] at hat hc
    rw [hc.2.1, ← hat.2.1, hj]
  · have e : j / 4 * 4 + 2 = j := by omega
    rw [e] at hat hc
    rw [hc.2.2.1, ← hat.2.2.1, hj]
  · have e : j / 4 * 4 + 3 = j := by omega
    rw [e] at hat hc
    rw [hc.2.2.2, ← hat.2.2.2, hj]

set_option maxRecDepth 100000 in
theorem arg_donesS {H : Type} {enc : TypeId × Value → H} {W : World} {v : Value} {d : DataW H} {p : List MemPlace}
    (hv : ∃ (a0 : Option Addr) (len cap : Nat), v = .slice a0 len cap) (h : DataW.Trod enc Try.prog W 0 (fun _ => true) true 48 v d p) : ∃ l : DL, Row W v l.length (flatD l) := by
  obtain ⟨a0, len, cap, rfl⟩ := hv
  obtain ⟨fuel, hf⟩ := h
  rcases open_slice Try.underlying48 hf with ⟨hcs, _⟩ | ⟨a, len', cap', m, n, D, Pl, hcs, _, hl, hm, hmm, _, hx⟩
  · simp [Value.cells] at hcs
    obtain ⟨rfl, rfl, rfl⟩ := hcs
    exact ⟨[], none, 0, 0, 0, rfl, Nat.le_refl _, Nat.zero_le _, fun h => absurd h (Nat.lt_irrefl _), fun j u hj => by simp [flatD] at hj, fun _ => rfl⟩
  · simp [Value.cells] at hcs
    obtain ⟨rfl, rfl, rfl⟩ := hcs
    simp only [if_true] at hmm
    have hk : ∀ i, i < len → ∃ x : Dn, W.cell? (a.add (i * 4)) = some (.int .i64 x.1) ∧ W.cell? (a.add (i * 4 + 1)) = some (.int .i64 x.2.1) ∧ W.cell? (a.add (i * 4 + 2)) = some (.int .i64 x.2.2.1) ∧ W.cell? (a.add (i * 4 + 3)) = some (.bool x.2.2.2) := by
      intro i hi
      obtain ⟨cs', h1, h2⟩ := hx i (by omega)
      rw [Try.cells139] at h1
      obtain ⟨_, hlen, hcell⟩ := World.cells?_some h1
      obtain ⟨y0, y1, y2, y3, n', hx', _, t0, t1, t2, t3⟩ := trod_struct4 Try.underlying139 h2
      have e0 := hcell 0 (by omega)
      have e1 := hcell 1 (by omega)
      have e2 := hcell 2 (by omega)
      have e3 := hcell 3 (by omega)
      rw [add_add] at e0 e1 e2 e3
      match cs', hlen with
      | [c0, c1, c2, c3], _ =>
        simp [Try.cells3, Try.cells4] at t0 t1 t2 t3
        obtain ⟨x0, q0, _, _⟩ := DataW.trod_int Try.underlying3 t0
        obtain ⟨x1, q1, _, _⟩ := DataW.trod_int Try.underlying3 t1
        obtain ⟨x2, q2, _, _⟩ := DataW.trod_int Try.underlying3 t2
        obtain ⟨x3, q3, _⟩ := DataW.trod_bool Try.underlying4 t3
        simp at q0 q1 q2 q3
        exact ⟨(x0, x1, x2, x3), by rw [← q0]; simpa using e0, by rw [← q1]; simpa using e1, by rw [← q2]; simpa using e2, by rw [← q3]; simpa using e3⟩
    obtain ⟨f, hf'⟩ := choose_lt hk
    obtain ⟨b, off, spot⟩ := a
    have hl0 : ((List.range len).map f).length = len := by simp
    have hsp : 0 < len → spot = none := fun h => by simpa [Addr.add] using World.cell?_spot (hf' 0 h).1
    refine ⟨(List.range len).map f, some ⟨b, off, spot⟩, b, off, cap, by rw [hl0], by rw [hl0]; exact hl, hm, fun h => ?_, ?_, fun h => by cases h⟩
    · rw [hl0] at h
      rw [hsp h]
    · refine flatD_all _ (fun j => W.cell? ⟨b, off + j, none⟩) (fun i hi => ?_)
      rw [hl0] at hi
      have hspot := hsp (by omega)
      subst hspot
      have hc := hf' i hi
      rw [add_plain, add_plain, add_plain, add_plain] at hc
      have a1 : dC ((List.range len).map f) i = (f i).1 := by simp [dC, List.getD, hi]
      have a2 : dS ((List.range len).map f) i = (f i).2.1 := by simp [dS, List.getD, hi]
      have a3 : dV ((List.range len).map f) i = (f i).2.2.1 := by simp [dV, List.getD, hi]
      have a4 : dH ((List.range len).map f) i = (f i).2.2.2 := by simp [dH, List.getD, hi]
      rw [a1, a2, a3, a4]
      exact hc

end Go.Proofs.Ytmdajbbpigbdcaa

namespace Go.Proofs.Ytmdajbbpigbdcaa
open Go.RowKit

/-- a number of 64 bits -/
def I64 (x : Int) : Prop := -9223372036854775808 ≤ x ∧ x ≤ 9223372036854775807
/-- where the entry number i stands -/
def placeB (b : Int) (l : EL) (i : Int) : Option Nat := if b < i ∧ i - b - 1 < l.length then some (i - b - 1).toNat else none
/-- the Term of the entry number i -/
def termB (b bt : Int) (l : EL) (i : Int) : Int := if i = b then bt else match placeB b l i with | some n => eT l n | none => -1

abbrev placeLV (o : Option Nat) : Value := match o with | some n => .tuple #[.int .i64 (n : Int), .bool true] | none => .tuple #[.int .i64 0, .bool false]

end Go.Proofs.Ytmdajbbpigbdcaa

namespace Go.Proofs.Ytmdajbbpigbdcaa
open Go.ChangeShapes Go.WideShapes Go.ChangeAt Go.RowKit Go.Deep Go.Joins

theorem Try.cells116 : Try.prog.cellsOf 116 = 6 := by kernel_rfl
theorem Try.cells114 : Try.prog.cellsOf 114 = 5 := by kernel_rfl
theorem Try.cellsE3 : Try.prog.cellsOf 112 = 3 := by kernel_rfl
theorem Try.cells42 : Try.prog.cellsOf 42 = 1 := by kernel_rfl
theorem flatE_all (l : EL) (g : Nat → Option Value) (h : ∀ i, i < l.length → g (i * 6) = some (.int .i64 (eT l i)) ∧ g (i * 6 + 1) = some (.int .i64 (eC l i)) ∧ g (i * 6 + 2) = some (.int .i64 (eS l i)) ∧ g (i * 6 + 3) = some (.int .i64 (eO l i)) ∧ g (i * 6 + 4) = some (.int .i64 (eK l i)) ∧ g (i * 6 + 5) = some (.int .i64 (eV l i))) :
    ∀ j u, (flatE l)[j]? = some u → g j = some u := by
  intro j u hj
  have hjl := (List.getElem?_eq_some_iff.1 hj).1
  rw [flatE_length] at hjl
  have hi : j / 6 < l.length := by omega
  have hat := flatE_at l (j / 6) hi
  have hc := h (j / 6) hi
  rcases (show j % 6 = 0 ∨ j % 6 = 1 ∨ j % 6 = 2 ∨ j % 6 = 3 ∨ j % 6 = 4 ∨ j % 6 = 5 by omega) with h0 | h0 | h0 | h0 | h0 | h0
  · have e : j / 6 * 6 = j := by omega
    rw [e] at hat hc
    rw [hc.1, ← hat.1, hj]
  · have e : j / 6 * 6 + 1 = j := by omega
    rw [e] at hat hc
    rw [hc.2.1, ← hat.2.1, hj]
  · have e : j / 6 * 6 + 2 = j := by omega
    rw [e] at hat hc
    rw [hc.2.2.1, ← hat.2.2.1, hj]
  · have e : j / 6 * 6 + 3 = j := by omega
    rw [e] at hat hc
    rw [hc.2.2.2.1, ← hat.2.2.2.1, hj]
  · have e : j / 6 * 6 + 4 = j := by omega
    rw [e] at hat hc
    rw [hc.2.2.2.2.1, ← hat.2.2.2.2.1, hj]
  · have e : j / 6 * 6 + 5 = j := by omega
    rw [e] at hat hc
    rw [hc.2.2.2.2.2, ← hat.2.2.2.2.2, hj]

theorem slice_ofE {H : Type} {enc : TypeId × Value → H} {W : World} {fuel : Nat} {t e : TypeId} {c : Value} {y : DataW H × List MemPlace} (ht : Try.prog.underlying t = some (.slice e))
    (h : DataW.trod enc Try.prog W 0 (fun _ => true) true fuel t [c] = some y) : ∃ (a0 : Option Addr) (len cap : Nat), c = .slice a0 len cap := by
  rcases open_slice ht h with ⟨hcs, _⟩ | ⟨a, len', cap', m, n, D, Pl, hcs, _⟩
  · simp at hcs; exact ⟨_, _, _, hcs⟩
  · simp at hcs; exact ⟨_, _, _, hcs⟩

set_option maxRecDepth 100000 in
theorem arg_entsS {H : Type} {enc : TypeId × Value → H} {W : World} {v : Value} {d : DataW H} {p : List MemPlace}
    (hv : ∃ (a0 : Option Addr) (len cap : Nat), v = .slice a0 len cap) (h : DataW.Trod enc Try.prog W 0 (fun _ => true) true 42 v d p) : ∃ l : EL, Row W v l.length (flatE l) := by
  obtain ⟨a0, len, cap, rfl⟩ := hv
  obtain ⟨fuel, hf⟩ := h
  rcases open_slice Try.underlying42 hf with ⟨hcs, _⟩ | ⟨a, len', cap', m, n, D, Pl, hcs, _, hl, hm, hmm, _, hx⟩
  · simp [Value.cells] at hcs
    obtain ⟨rfl, rfl, rfl⟩ := hcs
    exact ⟨[], none, 0, 0, 0, rfl, Nat.le_refl _, Nat.zero_le _, fun h => absurd h (Nat.lt_irrefl _), fun j u hj => by simp [flatE] at hj, fun _ => rfl⟩
  · simp [Value.cells] at hcs
    obtain ⟨rfl, rfl, rfl⟩ := hcs
    simp only [if_true] at hmm
    have hk : ∀ i, i < len → ∃ x : En, W.cell? (a.add (i * 6)) = some (.int .i64 x.1) ∧ W.cell? (a.add (i * 6 + 1)) = some (.int .i64 x.2.1) ∧ W.cell? (a.add (i * 6 + 2)) = some (.int .i64 x.2.2.1) ∧ W.cell? (a.add (i * 6 + 3)) = some (.int .i64 x.2.2.2.1) ∧ W.cell? (a.add (i * 6 + 4)) = some (.int .i64 x.2.2.2.2.1) ∧ W.cell? (a.add (i * 6 + 5)) = some (.int .i64 x.2.2.2.2.2) := by
      intro i hi
      obtain ⟨cs', h1, h2⟩ := hx i (by omega)
      rw [Try.cells116] at h1
      obtain ⟨_, hlen, hcell⟩ := World.cells?_some h1
      obtain ⟨y0, y1, n', hx', _, t0, t1⟩ := trod_struct2 Try.underlying116 h2
      have e0 := hcell 0 (by omega)
      have e1 := hcell 1 (by omega)
      have e2 := hcell 2 (by omega)
      have e3 := hcell 3 (by omega)
      have e4 := hcell 4 (by omega)
      have e5 := hcell 5 (by omega)
      rw [add_add] at e0 e1 e2 e3 e4 e5
      match cs', hlen with
      | [c0, c1, c2, c3, c4, c5], _ =>
        simp [Try.cells3, Try.cells114] at t0 t1
        obtain ⟨x0, q0, _, _⟩ := DataW.trod_int Try.underlying3 t0
        obtain ⟨z0, z1, z2, n2, _, _, u0, u1, u2⟩ := trod_struct3 Try.underlying114 t1
        simp [Try.cells3, Try.cellsE3] at u0 u1 u2
        obtain ⟨x1, q1, _, _⟩ := DataW.trod_int Try.underlying3 u0
        obtain ⟨x2, q2, _, _⟩ := DataW.trod_int Try.underlying3 u1
        obtain ⟨r0, r1, r2, n3, _, _, s0, s1, s2⟩ := trod_struct3 Try.underlying112 u2
        simp [Try.cells3] at s0 s1 s2
        obtain ⟨x3, q3, _, _⟩ := DataW.trod_int Try.underlying3 s0
        obtain ⟨x4, q4, _, _⟩ := DataW.trod_int Try.underlying3 s1
        obtain ⟨x5, q5, _, _⟩ := DataW.trod_int Try.underlying3 s2
        simp at q0 q1 q2 q3 q4 q5
        exact ⟨(x0, x1, x2, x3, x4, x5), by rw [← q0]; simpa using e0, by rw [← q1]; simpa using e1, by rw [← q2]; simpa using e2, by rw [← q3]; simpa using e3, by rw [← q4]; simpa using e4, by rw [← q5]; simpa using e5⟩
    obtain ⟨f, hf'⟩ := choose_lt hk
    obtain ⟨b, off, spot⟩ := a
    have hl0 : ((List.range len).map f).length = len := by simp
    have hsp : 0 < len → spot = none := fun h => by simpa [Addr.add] using World.cell?_spot (hf' 0 h).1
    refine ⟨(List.range len).map f, some ⟨b, off, spot⟩, b, off, cap, by rw [hl0], by rw [hl0]; exact hl, hm, fun h => ?_, ?_, fun h => by cases h⟩
    · rw [hl0] at h
      rw [hsp h]
    · refine flatE_all _ (fun j => W.cell? ⟨b, off + j, none⟩) (fun i hi => ?_)
      rw [hl0] at hi
      have hspot := hsp (by omega)
      subst hspot
      have hc := hf' i hi
      rw [add_plain, add_plain, add_plain, add_plain, add_plain, add_plain] at hc
      have a0 : eT ((List.range len).map f) i = (f i).1 := by simp [eT, List.getD, hi]
      have a1 : eC ((List.range len).map f) i = (f i).2.1 := by simp [eC, List.getD, hi]
      have a2 : eS ((List.range len).map f) i = (f i).2.2.1 := by simp [eS, List.getD, hi]
      have a3 : eO ((List.range len).map f) i = (f i).2.2.2.1 := by simp [eO, List.getD, hi]
      have a4 : eK ((List.range len).map f) i = (f i).2.2.2.2.1 := by simp [eK, List.getD, hi]
      have a5 : eV ((List.range len).map f) i = (f i).2.2.2.2.2 := by simp [eV, List.getD, hi]
      rw [a0, a1, a2, a3, a4, a5]
      exact hc

end Go.Proofs.Ytmdajbbpigbdcaa

namespace Go.Proofs.Ytmdajbbpigbdcaa
open Go.ChangeShapes Go.WideShapes Go.ChangeAt Go.RowKit Go.Deep Go.Joins

theorem Try.cells52 : Try.prog.cellsOf 52 = 15 := by kernel_rfl

theorem mach_of_trodR {H : Type} {enc : TypeId × Value → H} {W : World} {n : Nat} {c0 c1 c2 c3 c4 c5 : Value} {y : DataW H × List MemPlace}
    (h : DataW.trod enc Try.prog W 0 (fun _ => true) true (n + 1) 50 [c0, c1, c2, c3, c4, c5] = some y) : ∃ (m : MacV) (T : Tr) (l : DL), c0 = .bool m.x.lf ∧ c1 = m.x.p ∧ c2 = m.x.c ∧ c3 = m.x.k ∧ c4 = m.x.b ∧ c5 = m.v ∧ MacAt n W m T l := by
  obtain ⟨xs, n', hn, -, -, hlen, hf⟩ := DataW.trod_struct Try.underlying50 h
  obtain rfl : n = n' := by omega
  match xs, hlen with
  | [y0, y1], _ =>
  have t0 := hf 0 _ rfl
  have t1 := hf 1 _ rfl
  simp [Try.cells47, Try.cells48] at t0 t1
  obtain ⟨x, T, e, ht⟩ := tree_of_trod n _ _ t0
  obtain ⟨l, hl⟩ := arg_donesS (d := y1.1) (p := y1.2) (slice_of Try.underlying48 t1) ⟨n, by
    obtain ⟨_, _, _, e⟩ := slice_of Try.underlying48 t1
    subst e
    exact t1⟩
  obtain ⟨lf, p1, p2, p3, p4⟩ := x
  simp [TV.cells] at e
  obtain ⟨rfl, rfl, rfl, rfl, rfl⟩ := e
  exact ⟨⟨⟨lf, _, _, _, _⟩, c5⟩, T, l, rfl, rfl, rfl, rfl, rfl, rfl, ht, hl⟩

set_option maxRecDepth 100000 in
set_option maxHeartbeats 2000000 in
theorem arg_rpc {H : Type} {enc : TypeId × Value → H} {W : World} {r : Reach} {b0 : Nat} {v : Value} {d : DataW H} {p : List MemPlace}
    (hv : Value.okWide Try.prog W r b0 52 v) (h : DataW.Trod enc Try.prog W 0 (fun _ => true) true 52 v d p) : ∃ (n : Nat) (R : RpcV) (D : Rd), v = R.val ∧ RpcAt n W R D := by
  obtain ⟨cs, rfl, hsz⟩ := okWide_struct Try.underlying52 hv
  rw [Try.cells52] at hsz
  obtain ⟨fuel, hf⟩ := h
  obtain ⟨xs, n, _, -, -, hlen, hg⟩ := DataW.trod_struct Try.underlying52 hf
  obtain ⟨cl⟩ := cs
  match cl, hsz with
  | [c0, c1, c2, c3, c4, c5, c6, c7, c8, c9, c10, c11, c12, c13, c14], _ =>
  match xs, hlen with
  | [y0, y1, y2, y3, y4, y5, y6, y7, y8, y9], _ =>
  have t0 := hg 0 _ rfl
  have t1 := hg 1 _ rfl
  have t2 := hg 2 _ rfl
  have t3 := hg 3 _ rfl
  have t4 := hg 4 _ rfl
  have t5 := hg 5 _ rfl
  have t6 := hg 6 _ rfl
  have t7 := hg 7 _ rfl
  have t8 := hg 8 _ rfl
  have t9 := hg 9 _ rfl
  simp [Value.cells, Try.cells3, Try.cells4, Try.cells50, Try.cells42] at t0 t1 t2 t3 t4 t5 t6 t7 t8 t9
  obtain ⟨kd, q0, _, _⟩ := DataW.trod_int Try.underlying3 t0
  obtain ⟨fr, q1, _, _⟩ := DataW.trod_int Try.underlying3 t1
  obtain ⟨tt, q2, _, _⟩ := DataW.trod_int Try.underlying3 t2
  obtain ⟨te, q3, _, _⟩ := DataW.trod_int Try.underlying3 t3
  obtain ⟨ix, q4, _, _⟩ := DataW.trod_int Try.underlying3 t4
  obtain ⟨it, q5, _, _⟩ := DataW.trod_int Try.underlying3 t5
  obtain ⟨cm, q6, _, _⟩ := DataW.trod_int Try.underlying3 t6
  obtain ⟨ok, q7, _⟩ := DataW.trod_bool Try.underlying4 t7
  simp at q0 q1 q2 q3 q4 q5 q6 q7
  obtain ⟨l, hl⟩ := arg_entsS (d := y8.1) (p := y8.2) (slice_ofE Try.underlying42 t8) ⟨n, by
    obtain ⟨_, _, _, e⟩ := slice_ofE Try.underlying42 t8
    subst e
    exact t8⟩
  cases n with
  | zero => simp [DataW.trod] at t9
  | succ n =>
  obtain ⟨m1, T1, d1, f1, f2, f3, f4, f5, f6, hm1⟩ := mach_of_trodR t9
  subst q0 q1 q2 q3 q4 q5 q6 q7 f1 f2 f3 f4 f5 f6
  exact ⟨n, ⟨kd, fr, tt, te, ix, it, cm, ok, c8, m1⟩, ⟨l, T1, d1⟩, rfl, hl, hm1⟩

end Go.Proofs.Ytmdajbbpigbdcaa
