/-
  What an argument that is a tree holds: opened once into plain data.
  Machines as arguments of a law.
  LogOk of both sides.
  LastOf and Newer of both sides.
  TermAt of both sides, and where an entry stands (placeOf).
  What an argument that is a log, or a list of entries, holds.
  Nodes as arguments of a law.
  What is told, as an argument of a law.
-/
import Derived.Test.YthfmifdpldmbaaaOfFirst16
import Derived.Test.YthfmifdpldmbaaaOfFirst3
import Derived.Test.YthfmifdpldmbaaaOfFirst4
import Derived.Test.YthfmifdpldmbaaaOfFirst6
import Derived.BigQuiet
import Derived.Deep.DeepCutAuto
import Derived.Deep.CutBlock
import Derived.Deep.QuietTactic
import Derived.Lib.SmallJoins
import Derived.Deep.Strs
import Derived.Test.YthfmifdpldmbaaaOfFirst7
namespace Go.Proofs.Ythfmifdpldmbaaa
set_option maxRecDepth 100000
set_option maxHeartbeats 8000000
section
open Go.ChangeShapes Go.WideShapes Go.ChangeAt Go.RowKit Go.Deep Go.Joins

theorem Try.cells74 : Try.prog.cellsOf 74 = 5 := by kernel_rfl
theorem Try.cells69 : Try.prog.cellsOf 69 = 1 := by kernel_rfl
theorem Try.cells70 : Try.prog.cellsOf 70 = 1 := by kernel_rfl
theorem Try.cells71 : Try.prog.cellsOf 71 = 1 := by kernel_rfl
theorem Try.cells72 : Try.prog.cellsOf 72 = 1 := by kernel_rfl
theorem Try.cells4 : Try.prog.cellsOf 4 = 1 := by kernel_rfl

theorem arg_pairsS {H : Type} {enc : TypeId × Value → H} {W : World} {v : Value} {d : DataW H} {p : List MemPlace}
  (hv : ∃ (a0 : Option Addr) (len cap : Nat), v = .slice a0 len cap) (h : DataW.Trod enc Try.prog W 0 (fun _ => true) true 69 v d p) : ∃ l : List (Int × Int), Row W v l.length (flatP l) := by
 obtain ⟨a0, len, cap, rfl⟩ := hv
 obtain ⟨fuel, hf⟩ := h
 rcases open_slice_pairs Try.underlying69 Try.underlying154 Try.cells154 rfl rfl Try.cells3 Try.cells3 hf with ⟨hcs, _⟩ | ⟨a, len', cap', m, n, V0, V1, D0, D1, P0, P1, hcs, _, hl, hm, hmm, _, hx⟩
 ·simp [Value.cells] at hcs
  obtain ⟨rfl, rfl, rfl⟩ := hcs
  exact ⟨[], none, 0, 0, 0, rfl, Nat.le_refl _, Nat.zero_le _, fun h => absurd h (Nat.lt_irrefl _), fun j u hj => by simp [flatP] at hj, fun _ => rfl⟩
 ·simp [Value.cells] at hcs
  obtain ⟨rfl, rfl, rfl⟩ := hcs
  simp only [if_true] at hmm
  have hk : ∀ i, i < len → ∃ x : Int × Int, W.cell? (a.add (i * 2)) = some (.int .i64 x.1) ∧ W.cell? (a.add (i * 2 + 1)) = some (.int .i64 x.2) := by
   intro i hi
   obtain ⟨c0, c1, t0, t1⟩ := hx i (by omega)
   obtain ⟨x, e0, _, _⟩ := DataW.trod_int Try.underlying3 t0
   obtain ⟨y, e1, _, _⟩ := DataW.trod_int Try.underlying3 t1
   simp at e0 e1
   exact ⟨(x, y), by rw [c0, e0], by rw [c1, e1]⟩
  obtain ⟨f, hf'⟩ := choose_lt hk
  obtain ⟨b, off, spot⟩ := a
  have hl0 : ((List.range len).map f).length = len := by simp
  refine ⟨(List.range len).map f, some ⟨b, off, spot⟩, b, off, cap, by rw [hl0], by rw [hl0]; exact hl, hm, fun h => ?_, ?_, fun h => by cases h⟩
  ·rw [hl0] at h
   have hspot : spot = none := by simpa [Addr.add] using World.cell?_spot (hf' 0 h).1
   rw [hspot]
  ·intro j u hj
   have hjl := (List.getElem?_eq_some_iff.1 hj).1
   rw [flatP_length, hl0] at hjl
   have hi : j / 2 < len := by omega
   have hspot : spot = none := by simpa [Addr.add] using World.cell?_spot (hf' 0 (by omega)).1
   subst hspot
   have hat := flatP_at ((List.range len).map f) (j / 2) (by rw [hl0]; exact hi)
   have hk0 : kOf ((List.range len).map f) (j / 2) = (f (j / 2)).1 := by simp [kOf, List.getD, hi]
   have hv0 : vOf ((List.range len).map f) (j / 2) = (f (j / 2)).2 := by simp [vOf, List.getD, hi]
   rw [hk0, hv0] at hat
   have hc := hf' (j / 2) hi
   rw [add_plain, add_plain] at hc
   rcases Nat.mod_two_eq_zero_or_one j with h0 | h1
   ·have e : j = j / 2 * 2 := by omega
    rw [← e] at hat hc
    rw [hj] at hat
    rw [hc.1]; exact hat.1.symm
   ·have e : j = j / 2 * 2 + 1 := by omega
    rw [← e] at hat hc
    rw [hj] at hat
    rw [hc.2]; exact hat.2.symm

theorem arg_msgsS {H : Type} {enc : TypeId × Value → H} {W : World} {v : Value} {d : DataW H} {p : List MemPlace}
  (hv : ∃ (a0 : Option Addr) (len cap : Nat), v = .slice a0 len cap) (h : DataW.Trod enc Try.prog W 0 (fun _ => true) true 72 v d p) : ∃ l : ML, Row W v l.length (flatM l) := by
 obtain ⟨a0, len, cap, rfl⟩ := hv
 obtain ⟨fuel, hf⟩ := h
 rcases open_slice Try.underlying72 hf with ⟨hcs, _⟩ | ⟨a, len', cap', m, n, D, Pl, hcs, _, hl, hm, hmm, _, hx⟩
 ·simp [Value.cells] at hcs
  obtain ⟨rfl, rfl, rfl⟩ := hcs
  exact ⟨[], none, 0, 0, 0, rfl, Nat.le_refl _, Nat.zero_le _, fun h => absurd h (Nat.lt_irrefl _), fun j u hj => by simp [flatM] at hj, fun _ => rfl⟩
 ·simp [Value.cells] at hcs
  obtain ⟨rfl, rfl, rfl⟩ := hcs
  simp only [if_true] at hmm
  have hk : ∀ i, i < len → ∃ x : Int × Int × Int, W.cell? (a.add (i * 3)) = some (.int .i64 x.1) ∧ W.cell? (a.add (i * 3 + 1)) = some (.int .i64 x.2.1) ∧ W.cell? (a.add (i * 3 + 2)) = some (.int .i64 x.2.2) := by
   intro i hi
   obtain ⟨cs', h1, h2⟩ := hx i (by omega)
   rw [Try.cells100] at h1
   obtain ⟨_, hlen, hcell⟩ := World.cells?_some h1
   obtain ⟨y0, y1, y2, n', hx', _, t0, t1, t2⟩ := trod_struct3 Try.underlying100 h2
   have e0 := hcell 0 (by omega)
   have e1 := hcell 1 (by omega)
   have e2 := hcell 2 (by omega)
   rw [add_add] at e0 e1 e2
   match cs', hlen with
   | [c0, c1, c2], _ =>
    simp [Try.cells3] at t0 t1 t2
    obtain ⟨x0, q0, _, _⟩ := DataW.trod_int Try.underlying3 t0
    obtain ⟨x1, q1, _, _⟩ := DataW.trod_int Try.underlying3 t1
    obtain ⟨x2, q2, _, _⟩ := DataW.trod_int Try.underlying3 t2
    simp at q0 q1 q2
    exact ⟨(x0, x1, x2), by rw [← q0]; simpa using e0, by rw [← q1]; simpa using e1, by rw [← q2]; simpa using e2⟩
  obtain ⟨f, hf'⟩ := choose_lt hk
  obtain ⟨b, off, spot⟩ := a
  have hl0 : ((List.range len).map f).length = len := by simp
  have hsp : 0 < len → spot = none := fun h => by simpa [Addr.add] using World.cell?_spot (hf' 0 h).1
  refine ⟨(List.range len).map f, some ⟨b, off, spot⟩, b, off, cap, by rw [hl0], by rw [hl0]; exact hl, hm, fun h => ?_, ?_, fun h => by cases h⟩
  ·rw [hl0] at h
   rw [hsp h]
  ·refine flatM_all _ (fun j => W.cell? ⟨b, off + j, none⟩) (fun i hi => ?_)
   rw [hl0] at hi
   have hspot := hsp (by omega)
   subst hspot
   have hc := hf' i hi
   rw [add_plain, add_plain, add_plain] at hc
   have a1 : mO ((List.range len).map f) i = (f i).1 := by simp [mO, List.getD, hi]
   have a2 : mK ((List.range len).map f) i = (f i).2.1 := by simp [mK, List.getD, hi]
   have a3 : mV ((List.range len).map f) i = (f i).2.2 := by simp [mV, List.getD, hi]
   rw [a1, a2, a3]
   exact hc

theorem arg_intsS {H : Type} {enc : TypeId × Value → H} {W : World} {fuel : Nat} {c : Value} {y : DataW H × List MemPlace}
  (h : DataW.trod enc Try.prog W 0 (fun _ => true) true fuel 70 [c] = some y) : ∃ l : List Int, Row W c l.length (flatI l) := by
 rcases open_slice1 Try.underlying70 Try.cells3 h with ⟨hcs, _⟩ | ⟨a, len, cap, m, n, V, D, Pl, hcs, _, hl, hm, hmm, _, hx⟩
 ·simp at hcs
  subst hcs
  exact ⟨[], none, 0, 0, 0, rfl, Nat.le_refl _, Nat.zero_le _, fun h => absurd h (Nat.lt_irrefl _), fun j u hj => by simp [flatI] at hj, fun _ => rfl⟩
 ·simp at hcs
  subst hcs
  simp only [if_true] at hmm
  have hk : ∀ i, i < len → ∃ x : Int, W.cell? (a.add i) = some (.int .i64 x) := by
   intro i hi
   obtain ⟨c0, t0⟩ := hx i (by omega)
   obtain ⟨x, e0, _, _⟩ := DataW.trod_int Try.underlying3 t0
   simp at e0
   exact ⟨x, by rw [c0, e0]⟩
  obtain ⟨f, hf'⟩ := choose_lt hk
  obtain ⟨b, off, spot⟩ := a
  have hl0 : ((List.range len).map f).length = len := by simp
  have hsp : 0 < len → spot = none := fun h => by simpa [Addr.add] using World.cell?_spot (hf' 0 h)
  refine ⟨(List.range len).map f, some ⟨b, off, spot⟩, b, off, cap, by rw [hl0], by rw [hl0]; exact hl, hm, fun h => ?_, ?_, fun h => by cases h⟩
  ·rw [hl0] at h
   rw [hsp h]
  ·intro j u hj
   have hjl := (List.getElem?_eq_some_iff.1 hj).1
   rw [flatI_length, hl0] at hjl
   have hspot := hsp (by omega)
   subst hspot
   have hc := hf' j hjl
   rw [add_plain] at hc
   rw [flatI_at _ _ (by rw [hl0]; exact hjl)] at hj
   have e : iAt ((List.range len).map f) j = f j := by simp [iAt, List.getD, hjl]
   rw [e] at hj
   rw [hc, hj]

theorem slice_of {H : Type} {enc : TypeId × Value → H} {W : World} {fuel : Nat} {t e : TypeId} {c : Value} {y : DataW H × List MemPlace} (ht : Try.prog.underlying t = some (.slice e))
  (h : DataW.trod enc Try.prog W 0 (fun _ => true) true fuel t [c] = some y) : ∃ (a0 : Option Addr) (len cap : Nat), c = .slice a0 len cap := by
 rcases open_slice ht h with ⟨hcs, _⟩ | ⟨a, len, cap, m, n, D, Pl, hcs, _⟩
 ·simp at hcs; exact ⟨_, _, _, hcs⟩
 ·simp at hcs; exact ⟨_, _, _, hcs⟩

theorem trees_all (l : List TV) (g : Nat → Option Value) (h : ∀ i, i < l.length → g (i * 5) = some (.bool (tvAt l i).lf) ∧ g (i * 5 + 1) = some (tvAt l i).p ∧ g (i * 5 + 2) = some (tvAt l i).c ∧ g (i * 5 + 3) = some (tvAt l i).k ∧ g (i * 5 + 4) = some (tvAt l i).b) :
  ∀ j u, (flatT l)[j]? = some u → g j = some u := by
 intro j u hj
 have hjl := (List.getElem?_eq_some_iff.1 hj).1
 rw [flatT_length] at hjl
 have hi : j / 5 < l.length := by omega
 have hat := flatT_at l (j / 5) hi
 have hc := h (j / 5) hi
 rcases (show j % 5 = 0 ∨ j % 5 = 1 ∨ j % 5 = 2 ∨ j % 5 = 3 ∨ j % 5 = 4 by omega) with h0 | h0 | h0 | h0 | h0
 ·have e : j / 5 * 5 = j := by omega
  rw [e] at hat hc
  rw [hc.1, ← hat.1, hj]
 ·have e : j / 5 * 5 + 1 = j := by omega
  rw [e] at hat hc
  rw [hc.2.1, ← hat.2.1, hj]
 ·have e : j / 5 * 5 + 2 = j := by omega
  rw [e] at hat hc
  rw [hc.2.2.1, ← hat.2.2.1, hj]
 ·have e : j / 5 * 5 + 3 = j := by omega
  rw [e] at hat hc
  rw [hc.2.2.2.1, ← hat.2.2.2.1, hj]
 ·have e : j / 5 * 5 + 4 = j := by omega
  rw [e] at hat hc
  rw [hc.2.2.2.2, ← hat.2.2.2.2, hj]

theorem tree_of_trod {H : Type} {enc : TypeId × Value → H} {W : World} : ∀ (fuel : Nat) (cs : List Value) (y : DataW H × List MemPlace),
  DataW.trod enc Try.prog W 0 (fun _ => true) true fuel 74 cs = some y → ∃ (x : TV) (T : Tr), cs = x.cells ∧ TreeAt fuel W x T := by
 intro fuel
 induction fuel using Nat.strongRecOn with
 | ind fuel ih =>
 intro cs y h
 obtain ⟨xs, n, rfl, -, hl, hlen, hf⟩ := DataW.trod_struct Try.underlying74 h
 rw [Try.cells74] at hl
 match cs, hl with
 | [c0, c1, c2, c3, c4], _ =>
 match xs, hlen with
 | [y0, y1, y2, y3, y4], _ =>
 have t0 := hf 0 _ rfl
 have t1 := hf 1 _ rfl
 have t2 := hf 2 _ rfl
 have t3 := hf 3 _ rfl
 have t4 := hf 4 _ rfl
 simp [Try.cells4, Try.cells69, Try.cells70, Try.cells71, Try.cells72] at t0 t1 t2 t3 t4
 obtain ⟨bl, e0, _⟩ := DataW.trod_bool Try.underlying4 t0
 simp at e0
 subst e0
 obtain ⟨l1, r1⟩ := arg_pairsS (d := y1.1) (p := y1.2) (slice_of Try.underlying69 t1) ⟨n, by
  obtain ⟨_, _, _, e⟩ := slice_of Try.underlying69 t1
  subst e
  exact t1⟩
 obtain ⟨l2, r2⟩ := arg_intsS t2
 obtain ⟨l4, r4⟩ := arg_msgsS (d := y4.1) (p := y4.2) (slice_of Try.underlying72 t4) ⟨n, by
  obtain ⟨_, _, _, e⟩ := slice_of Try.underlying72 t4
  subst e
  exact t4⟩
 have hk : ∃ ts : List Tr, TreesAt n W c3 ts := by
  rcases DataW.trod_slice Try.underlying71 t3 with ⟨hcs, _⟩ | ⟨a, len, cap, elems, rest, n', rfl, hcs, _, _, hl', hm, hlen', hel, _, _⟩
  ·simp at hcs
   subst hcs
   exact ⟨[], [], rfl, ⟨none, 0, 0, 0, rfl, Nat.le_refl _, Nat.zero_le _, fun h => absurd h (Nat.lt_irrefl _), fun j u hj => by simp [flatT] at hj, fun _ => rfl⟩, fun i hi => absurd hi (Nat.not_lt_zero _)⟩
  ·simp at hcs
   subst hcs
   have hx : ∀ i, i < len → ∃ q : TV × Tr, W.cells? 0 (a.add (i * 5)) 5 = some q.1.cells ∧ TreeAt n' W q.1 q.2 := by
    intro i hi
    have key := hel i hi
    rw [Try.cells74, List.getElem?_eq_getElem (by omega)] at key
    obtain ⟨cs', k1, k2⟩ := Option.bind_eq_some_iff.1 key
    obtain ⟨x, T, rfl, ht⟩ := ih n' (by omega) cs' _ k2
    exact ⟨(x, T), k1, ht⟩
   have hx2 : ∃ f : Nat → TV × Tr, ∀ i, i < len → W.cells? 0 (a.add (i * 5)) 5 = some (f i).1.cells ∧ TreeAt n' W (f i).1 (f i).2 := by
    classical
    refine ⟨fun i => if hi : i < len then Classical.choose (hx i hi) else (noTV, noTr), fun i hi => ?_⟩
    simp only [dif_pos hi]
    exact Classical.choose_spec (hx i hi)
   obtain ⟨f, hf'⟩ := hx2
   have hcell : ∀ i, i < len → ∀ j (hj : j < 5), W.cell? ((a.add (i * 5)).add j) = (f i).1.cells[j]? := by
    intro i hi j hj
    obtain ⟨_, hlen, hc⟩ := World.cells?_some (hf' i hi).1
    exact hc j (by omega)
   obtain ⟨b, off, spot⟩ := a
   have hsp : 0 < len → spot = none := fun h => by
    have := hcell 0 h 0 (by omega)
    simp only [TV.cells, List.getElem?_cons_zero] at this
    simpa [Addr.add] using World.cell?_spot this
   refine ⟨(List.range len).map fun i => (f i).2, (List.range len).map fun i => (f i).1, by simp, ⟨some ⟨b, off, spot⟩, b, off, cap, by simp, by simpa using hl', hm, fun h => ?_, ?_, fun h => by cases h⟩, fun i hi => ?_⟩
   ·rw [hsp (by simpa using h)]
   ·refine trees_all _ (fun j => W.cell? ⟨b, off + j, none⟩) (fun i hi => ?_)
    have hi' : i < len := by simpa using hi
    have hspot := hsp (by omega)
    subst hspot
    have e : tvAt ((List.range len).map fun i => (f i).1) i = (f i).1 := by simp [tvAt, List.getD, hi']
    rw [e]
    have g0 := hcell i hi' 0 (by omega)
    have g1 := hcell i hi' 1 (by omega)
    have g2 := hcell i hi' 2 (by omega)
    have g3 := hcell i hi' 3 (by omega)
    have g4 := hcell i hi' 4 (by omega)
    simp only [add_plain, TV.cells] at g0 g1 g2 g3 g4
    exact ⟨by simpa using g0, by simpa [Nat.add_assoc] using g1, by simpa [Nat.add_assoc] using g2, by simpa [Nat.add_assoc] using g3, by simpa [Nat.add_assoc] using g4⟩
   ·have hi' : i < len := by simpa using hi
    have e : tvAt ((List.range len).map fun i => (f i).1) i = (f i).1 := by simp [tvAt, List.getD, hi']
    have e2 : ((List.range len).map fun i => (f i).2).getD i noTr = (f i).2 := by simp [List.getD, hi']
    rw [e, e2]
    exact (hf' i hi').2.up
 obtain ⟨ts, hts⟩ := hk
 exact ⟨⟨bl, c1, c2, c3, c4⟩, ⟨bl, l1, l2, ts, l4⟩, rfl, TreeAt.mk rfl r1 r2 r4 hts⟩
end
section
open Go.ChangeShapes Go.WideShapes Go.ChangeAt Go.RowKit Go.Deep Go.Joins

theorem Try.cells106 : Try.prog.cellsOf 106 = 4 := by kernel_rfl
theorem Try.cells76 : Try.prog.cellsOf 76 = 6 := by kernel_rfl
theorem Try.cells25 : Try.prog.cellsOf 25 = 1 := by kernel_rfl

theorem flatD_all (l : DL) (g : Nat → Option Value) (h : ∀ i, i < l.length → g (i * 4) = some (.int .i64 (dC l i)) ∧ g (i * 4 + 1) = some (.int .i64 (dS l i)) ∧ g (i * 4 + 2) = some (.int .i64 (dV l i)) ∧ g (i * 4 + 3) = some (.bool (dH l i))) :
  ∀ j u, (flatD l)[j]? = some u → g j = some u := by
 intro j u hj
 have hjl := (List.getElem?_eq_some_iff.1 hj).1
 rw [flatD_length] at hjl
 have hi : j / 4 < l.length := by omega
 have hat := flatD_at l (j / 4) hi
 have hc := h (j / 4) hi
 rcases (show j % 4 = 0 ∨ j % 4 = 1 ∨ j % 4 = 2 ∨ j % 4 = 3 by omega) with h0 | h0 | h0 | h0
 ·have e : j / 4 * 4 = j := by omega
  rw [e] at hat hc
  rw [hc.1, ← hat.1, hj]
 ·have e : j / 4 * 4 + 1 = j := by omega
  rw [e] at hat hc
  rw [hc.2.1, ← hat.2.1, hj]
 ·have e : j / 4 * 4 + 2 = j := by omega
  rw [e] at hat hc
  rw [hc.2.2.1, ← hat.2.2.1, hj]
 ·have e : j / 4 * 4 + 3 = j := by omega
  rw [e] at hat hc
  rw [hc.2.2.2, ← hat.2.2.2, hj]

theorem arg_donesS {H : Type} {enc : TypeId × Value → H} {W : World} {v : Value} {d : DataW H} {p : List MemPlace}
  (hv : ∃ (a0 : Option Addr) (len cap : Nat), v = .slice a0 len cap) (h : DataW.Trod enc Try.prog W 0 (fun _ => true) true 25 v d p) : ∃ l : DL, Row W v l.length (flatD l) := by
 obtain ⟨a0, len, cap, rfl⟩ := hv
 obtain ⟨fuel, hf⟩ := h
 rcases open_slice Try.underlying25 hf with ⟨hcs, _⟩ | ⟨a, len', cap', m, n, D, Pl, hcs, _, hl, hm, hmm, _, hx⟩
 ·simp [Value.cells] at hcs
  obtain ⟨rfl, rfl, rfl⟩ := hcs
  exact ⟨[], none, 0, 0, 0, rfl, Nat.le_refl _, Nat.zero_le _, fun h => absurd h (Nat.lt_irrefl _), fun j u hj => by simp [flatD] at hj, fun _ => rfl⟩
 ·simp [Value.cells] at hcs
  obtain ⟨rfl, rfl, rfl⟩ := hcs
  simp only [if_true] at hmm
  have hk : ∀ i, i < len → ∃ x : Dn, W.cell? (a.add (i * 4)) = some (.int .i64 x.1) ∧ W.cell? (a.add (i * 4 + 1)) = some (.int .i64 x.2.1) ∧ W.cell? (a.add (i * 4 + 2)) = some (.int .i64 x.2.2.1) ∧ W.cell? (a.add (i * 4 + 3)) = some (.bool x.2.2.2) := by
   intro i hi
   obtain ⟨cs', h1, h2⟩ := hx i (by omega)
   rw [Try.cells106] at h1
   obtain ⟨_, hlen, hcell⟩ := World.cells?_some h1
   obtain ⟨y0, y1, y2, y3, n', hx', _, t0, t1, t2, t3⟩ := trod_struct4 Try.underlying106 h2
   have e0 := hcell 0 (by omega)
   have e1 := hcell 1 (by omega)
   have e2 := hcell 2 (by omega)
   have e3 := hcell 3 (by omega)
   rw [add_add] at e0 e1 e2 e3
   match cs', hlen with
   | [c0, c1, c2, c3], _ =>
    simp [Try.cells3, Try.cells4] at t0 t1 t2 t3
    obtain ⟨x0, q0, _, _⟩ := DataW.trod_int Try.underlying3 t0
    obtain ⟨x1, q1, _, _⟩ := DataW.trod_int Try.underlying3 t1
    obtain ⟨x2, q2, _, _⟩ := DataW.trod_int Try.underlying3 t2
    obtain ⟨x3, q3, _⟩ := DataW.trod_bool Try.underlying4 t3
    simp at q0 q1 q2 q3
    exact ⟨(x0, x1, x2, x3), by rw [← q0]; simpa using e0, by rw [← q1]; simpa using e1, by rw [← q2]; simpa using e2, by rw [← q3]; simpa using e3⟩
  obtain ⟨f, hf'⟩ := choose_lt hk
  obtain ⟨b, off, spot⟩ := a
  have hl0 : ((List.range len).map f).length = len := by simp
  have hsp : 0 < len → spot = none := fun h => by simpa [Addr.add] using World.cell?_spot (hf' 0 h).1
  refine ⟨(List.range len).map f, some ⟨b, off, spot⟩, b, off, cap, by rw [hl0], by rw [hl0]; exact hl, hm, fun h => ?_, ?_, fun h => by cases h⟩
  ·rw [hl0] at h
   rw [hsp h]
  ·refine flatD_all _ (fun j => W.cell? ⟨b, off + j, none⟩) (fun i hi => ?_)
   rw [hl0] at hi
   have hspot := hsp (by omega)
   subst hspot
   have hc := hf' i hi
   rw [add_plain, add_plain, add_plain, add_plain] at hc
   have a1 : dC ((List.range len).map f) i = (f i).1 := by simp [dC, List.getD, hi]
   have a2 : dS ((List.range len).map f) i = (f i).2.1 := by simp [dS, List.getD, hi]
   have a3 : dV ((List.range len).map f) i = (f i).2.2.1 := by simp [dV, List.getD, hi]
   have a4 : dH ((List.range len).map f) i = (f i).2.2.2 := by simp [dH, List.getD, hi]
   rw [a1, a2, a3, a4]
   exact hc
end
section
open Go.RowKit

def prevT (bt : Int) (l : EL) (k : Nat) : Int := if k = 0 then bt else eT l (k - 1)
def entAt (bt : Int) (l : EL) (k : Nat) : Bool := inB (eT l k) (prevT bt l k) 100000 && cmdOkB (eC l k) (eS l k) (eO l k) (eK l k) (eV l k)
def entsOk (bt : Int) (l : EL) : Bool := (List.range l.length).all (entAt bt l)
def logOkB (b bt : Int) (l : EL) : Bool := inB b 0 100000 && (inB bt 0 100000 && (decide (b + l.length ≤ 100000) && entsOk bt l))
end
section
open Go.RowKit

def lastN (b : Int) (l : EL) : Int := if l.length = 0 then b else wrap64 (b + l.length)
abbrev lastV (b bt : Int) (l : EL) : Value := .tuple #[.int .i64 (lastN b l), .int .i64 (prevT bt l l.length)]
def newerB (b bt : Int) (l : EL) (la lt : Int) : Bool := decide (lt > prevT bt l l.length ∨ (lt = prevT bt l l.length ∧ la ≥ lastN b l))
end
section
open Go.RowKit

def I64 (x : Int) : Prop := -9223372036854775808 ≤ x ∧ x ≤ 9223372036854775807
def placeB (b : Int) (l : EL) (i : Int) : Option Nat := if b < i ∧ i - b - 1 < l.length then some (i - b - 1).toNat else none
def termB (b bt : Int) (l : EL) (i : Int) : Int := if i = b then bt else match placeB b l i with | some n => eT l n | none => -1

abbrev placeLV (o : Option Nat) : Value := match o with | some n => .tuple #[.int .i64 (n : Int), .bool true] | none => .tuple #[.int .i64 0, .bool false]
end
section
open Go.ChangeShapes Go.WideShapes Go.ChangeAt Go.RowKit Go.Deep Go.Joins

theorem Try.cells139 : Try.prog.cellsOf 139 = 6 := by kernel_rfl
theorem Try.cells102 : Try.prog.cellsOf 102 = 5 := by kernel_rfl
theorem Try.cellsE3 : Try.prog.cellsOf 100 = 3 := by kernel_rfl
theorem Try.cells68 : Try.prog.cellsOf 68 = 3 := by kernel_rfl
theorem Try.cells66 : Try.prog.cellsOf 66 = 1 := by kernel_rfl
theorem I64.of_wf {n : Int} (h : (Lit.int .i64 n).wf = true) : I64 n := by
 simp [Lit.wf, IntKind.min, IntKind.max, IntKind.bits, IntKind.signed] at h
 exact ⟨by omega, by omega⟩

theorem flatE_all (l : EL) (g : Nat → Option Value) (h : ∀ i, i < l.length → g (i * 6) = some (.int .i64 (eT l i)) ∧ g (i * 6 + 1) = some (.int .i64 (eC l i)) ∧ g (i * 6 + 2) = some (.int .i64 (eS l i)) ∧ g (i * 6 + 3) = some (.int .i64 (eO l i)) ∧ g (i * 6 + 4) = some (.int .i64 (eK l i)) ∧ g (i * 6 + 5) = some (.int .i64 (eV l i))) :
  ∀ j u, (flatE l)[j]? = some u → g j = some u := by
 intro j u hj
 have hjl := (List.getElem?_eq_some_iff.1 hj).1
 rw [flatE_length] at hjl
 have hi : j / 6 < l.length := by omega
 have hat := flatE_at l (j / 6) hi
 have hc := h (j / 6) hi
 rcases (show j % 6 = 0 ∨ j % 6 = 1 ∨ j % 6 = 2 ∨ j % 6 = 3 ∨ j % 6 = 4 ∨ j % 6 = 5 by omega) with h0 | h0 | h0 | h0 | h0 | h0
 ·have e : j / 6 * 6 = j := by omega
  rw [e] at hat hc
  rw [hc.1, ← hat.1, hj]
 ·have e : j / 6 * 6 + 1 = j := by omega
  rw [e] at hat hc
  rw [hc.2.1, ← hat.2.1, hj]
 ·have e : j / 6 * 6 + 2 = j := by omega
  rw [e] at hat hc
  rw [hc.2.2.1, ← hat.2.2.1, hj]
 ·have e : j / 6 * 6 + 3 = j := by omega
  rw [e] at hat hc
  rw [hc.2.2.2.1, ← hat.2.2.2.1, hj]
 ·have e : j / 6 * 6 + 4 = j := by omega
  rw [e] at hat hc
  rw [hc.2.2.2.2.1, ← hat.2.2.2.2.1, hj]
 ·have e : j / 6 * 6 + 5 = j := by omega
  rw [e] at hat hc
  rw [hc.2.2.2.2.2, ← hat.2.2.2.2.2, hj]

theorem slice_ofE {H : Type} {enc : TypeId × Value → H} {W : World} {fuel : Nat} {t e : TypeId} {c : Value} {y : DataW H × List MemPlace} (ht : Try.prog.underlying t = some (.slice e))
  (h : DataW.trod enc Try.prog W 0 (fun _ => true) true fuel t [c] = some y) : ∃ (a0 : Option Addr) (len cap : Nat), c = .slice a0 len cap := by
 rcases open_slice ht h with ⟨hcs, _⟩ | ⟨a, len', cap', m, n, D, Pl, hcs, _⟩
 ·simp at hcs; exact ⟨_, _, _, hcs⟩
 ·simp at hcs; exact ⟨_, _, _, hcs⟩

theorem arg_entsS {H : Type} {enc : TypeId × Value → H} {W : World} {v : Value} {d : DataW H} {p : List MemPlace}
  (hv : ∃ (a0 : Option Addr) (len cap : Nat), v = .slice a0 len cap) (h : DataW.Trod enc Try.prog W 0 (fun _ => true) true 66 v d p) : ∃ l : EL, Row W v l.length (flatE l) := by
 obtain ⟨a0, len, cap, rfl⟩ := hv
 obtain ⟨fuel, hf⟩ := h
 rcases open_slice Try.underlying66 hf with ⟨hcs, _⟩ | ⟨a, len', cap', m, n, D, Pl, hcs, _, hl, hm, hmm, _, hx⟩
 ·simp [Value.cells] at hcs
  obtain ⟨rfl, rfl, rfl⟩ := hcs
  exact ⟨[], none, 0, 0, 0, rfl, Nat.le_refl _, Nat.zero_le _, fun h => absurd h (Nat.lt_irrefl _), fun j u hj => by simp [flatE] at hj, fun _ => rfl⟩
 ·simp [Value.cells] at hcs
  obtain ⟨rfl, rfl, rfl⟩ := hcs
  simp only [if_true] at hmm
  have hk : ∀ i, i < len → ∃ x : En, W.cell? (a.add (i * 6)) = some (.int .i64 x.1) ∧ W.cell? (a.add (i * 6 + 1)) = some (.int .i64 x.2.1) ∧ W.cell? (a.add (i * 6 + 2)) = some (.int .i64 x.2.2.1) ∧ W.cell? (a.add (i * 6 + 3)) = some (.int .i64 x.2.2.2.1) ∧ W.cell? (a.add (i * 6 + 4)) = some (.int .i64 x.2.2.2.2.1) ∧ W.cell? (a.add (i * 6 + 5)) = some (.int .i64 x.2.2.2.2.2) := by
   intro i hi
   obtain ⟨cs', h1, h2⟩ := hx i (by omega)
   rw [Try.cells139] at h1
   obtain ⟨_, hlen, hcell⟩ := World.cells?_some h1
   obtain ⟨y0, y1, n', hx', _, t0, t1⟩ := trod_struct2 Try.underlying139 h2
   have e0 := hcell 0 (by omega)
   have e1 := hcell 1 (by omega)
   have e2 := hcell 2 (by omega)
   have e3 := hcell 3 (by omega)
   have e4 := hcell 4 (by omega)
   have e5 := hcell 5 (by omega)
   rw [add_add] at e0 e1 e2 e3 e4 e5
   match cs', hlen with
   | [c0, c1, c2, c3, c4, c5], _ =>
    simp [Try.cells3, Try.cells102] at t0 t1
    obtain ⟨x0, q0, _, _⟩ := DataW.trod_int Try.underlying3 t0
    obtain ⟨z0, z1, z2, n2, _, _, u0, u1, u2⟩ := trod_struct3 Try.underlying102 t1
    simp [Try.cells3, Try.cellsE3] at u0 u1 u2
    obtain ⟨x1, q1, _, _⟩ := DataW.trod_int Try.underlying3 u0
    obtain ⟨x2, q2, _, _⟩ := DataW.trod_int Try.underlying3 u1
    obtain ⟨r0, r1, r2, n3, _, _, s0, s1, s2⟩ := trod_struct3 Try.underlying100 u2
    simp [Try.cells3] at s0 s1 s2
    obtain ⟨x3, q3, _, _⟩ := DataW.trod_int Try.underlying3 s0
    obtain ⟨x4, q4, _, _⟩ := DataW.trod_int Try.underlying3 s1
    obtain ⟨x5, q5, _, _⟩ := DataW.trod_int Try.underlying3 s2
    simp at q0 q1 q2 q3 q4 q5
    exact ⟨(x0, x1, x2, x3, x4, x5), by rw [← q0]; simpa using e0, by rw [← q1]; simpa using e1, by rw [← q2]; simpa using e2, by rw [← q3]; simpa using e3, by rw [← q4]; simpa using e4, by rw [← q5]; simpa using e5⟩
  obtain ⟨f, hf'⟩ := choose_lt hk
  obtain ⟨b, off, spot⟩ := a
  have hl0 : ((List.range len).map f).length = len := by simp
  have hsp : 0 < len → spot = none := fun h => by simpa [Addr.add] using World.cell?_spot (hf' 0 h).1
  refine ⟨(List.range len).map f, some ⟨b, off, spot⟩, b, off, cap, by rw [hl0], by rw [hl0]; exact hl, hm, fun h => ?_, ?_, fun h => by cases h⟩
  ·rw [hl0] at h
   rw [hsp h]
  ·refine flatE_all _ (fun j => W.cell? ⟨b, off + j, none⟩) (fun i hi => ?_)
   rw [hl0] at hi
   have hspot := hsp (by omega)
   subst hspot
   have hc := hf' i hi
   rw [add_plain, add_plain, add_plain, add_plain, add_plain, add_plain] at hc
   have a0 : eT ((List.range len).map f) i = (f i).1 := by simp [eT, List.getD, hi]
   have a1 : eC ((List.range len).map f) i = (f i).2.1 := by simp [eC, List.getD, hi]
   have a2 : eS ((List.range len).map f) i = (f i).2.2.1 := by simp [eS, List.getD, hi]
   have a3 : eO ((List.range len).map f) i = (f i).2.2.2.1 := by simp [eO, List.getD, hi]
   have a4 : eK ((List.range len).map f) i = (f i).2.2.2.2.1 := by simp [eK, List.getD, hi]
   have a5 : eV ((List.range len).map f) i = (f i).2.2.2.2.2 := by simp [eV, List.getD, hi]
   rw [a0, a1, a2, a3, a4, a5]
   exact hc
end
section
open Go.ChangeShapes Go.WideShapes Go.ChangeAt Go.RowKit Go.Deep Go.Joins

theorem Try.cells79 : Try.prog.cellsOf 79 = 23 := by kernel_rfl
theorem Try.cells77 : Try.prog.cellsOf 77 = 1 := by kernel_rfl

theorem arg_boolsS {H : Type} {enc : TypeId × Value → H} {W : World} {fuel : Nat} {c : Value} {y : DataW H × List MemPlace}
  (h : DataW.trod enc Try.prog W 0 (fun _ => true) true fuel 77 [c] = some y) : ∃ l : List Bool, Row W c l.length (flatL l) := by
 rcases open_slice1 Try.underlying77 Try.cells4 h with ⟨hcs, _⟩ | ⟨a, len, cap, m, n, V, D, Pl, hcs, _, hl, hm, hmm, _, hx⟩
 ·simp at hcs
  subst hcs
  exact ⟨[], none, 0, 0, 0, rfl, Nat.le_refl _, Nat.zero_le _, fun h => absurd h (Nat.lt_irrefl _), fun j u hj => by simp [flatL] at hj, fun _ => rfl⟩
 ·simp at hcs
  subst hcs
  simp only [if_true] at hmm
  have hk : ∀ i, i < len → ∃ x : Bool, W.cell? (a.add i) = some (.bool x) := by
   intro i hi
   obtain ⟨c0, t0⟩ := hx i (by omega)
   obtain ⟨x, e0, _⟩ := DataW.trod_bool Try.underlying4 t0
   simp at e0
   exact ⟨x, by rw [← e0]; exact c0⟩
  obtain ⟨f, hf⟩ := choose_lt hk
  obtain ⟨b, off, spot⟩ := a
  have hl0 : ((List.range len).map f).length = len := by simp
  have hsp : 0 < len → spot = none := fun h => World.cell?_spot (hf 0 h)
  refine ⟨(List.range len).map f, some ⟨b, off, spot⟩, b, off, cap, by rw [hl0], by rw [hl0]; exact hl, hm, fun h => ?_, ?_, fun h => by cases h⟩
  ·rw [hl0] at h
   rw [hsp h]
  ·intro j u hj
   have hjl : j < len := by have := (List.getElem?_eq_some_iff.1 hj).1; simpa [flatL] using this
   have := hsp (by omega)
   subst this
   simp [flatL, hjl] at hj
   subst hj
   have := hf j hjl
   rw [add_plain] at this
   exact this

theorem log_of_trod {H : Type} {enc : TypeId × Value → H} {W : World} {fuel : Nat} {c0 c1 c2 : Value} {y : DataW H × List MemPlace}
  (h : DataW.trod enc Try.prog W 0 (fun _ => true) true fuel 68 [c0, c1, c2] = some y) : ∃ (b bt : Int) (l : EL), c0 = .int .i64 b ∧ c1 = .int .i64 bt ∧ Row W c2 l.length (flatE l) ∧ I64 b ∧ I64 bt := by
 obtain ⟨y0, y1, y2, n, _, _, t0, t1, t2⟩ := trod_struct3 Try.underlying68 h
 simp [Try.cells3, Try.cells66] at t0 t1 t2
 obtain ⟨x0, q0, _, w0⟩ := DataW.trod_int Try.underlying3 t0
 obtain ⟨x1, q1, _, w1⟩ := DataW.trod_int Try.underlying3 t1
 obtain ⟨l, hl⟩ := arg_entsS (d := y2.1) (p := y2.2) (slice_ofE Try.underlying66 t2) ⟨n, by
  obtain ⟨_, _, _, e⟩ := slice_ofE Try.underlying66 t2
  subst e
  exact t2⟩
 simp at q0 q1
 exact ⟨x0, x1, l, q0, q1, hl, I64.of_wf w0, I64.of_wf w1⟩
theorem mach_of_trod {H : Type} {enc : TypeId × Value → H} {W : World} {n : Nat} {c0 c1 c2 c3 c4 c5 : Value} {y : DataW H × List MemPlace}
  (h : DataW.trod enc Try.prog W 0 (fun _ => true) true (n + 1) 76 [c0, c1, c2, c3, c4, c5] = some y) : ∃ (m : MacV) (T : Tr) (l : DL), c0 = .bool m.x.lf ∧ c1 = m.x.p ∧ c2 = m.x.c ∧ c3 = m.x.k ∧ c4 = m.x.b ∧ c5 = m.v ∧ MacAt n W m T l := by
 obtain ⟨xs, n', hn, -, -, hlen, hf⟩ := DataW.trod_struct Try.underlying76 h
 obtain rfl : n = n' := by omega
 match xs, hlen with
 | [y0, y1], _ =>
 have t0 := hf 0 _ rfl
 have t1 := hf 1 _ rfl
 simp [Try.cells74, Try.cells25] at t0 t1
 obtain ⟨x, T, e, ht⟩ := tree_of_trod n _ _ t0
 obtain ⟨l, hl⟩ := arg_donesS (d := y1.1) (p := y1.2) (slice_of Try.underlying25 t1) ⟨n, by
  obtain ⟨_, _, _, e⟩ := slice_of Try.underlying25 t1
  subst e
  exact t1⟩
 obtain ⟨lf, p1, p2, p3, p4⟩ := x
 simp [TV.cells] at e
 obtain ⟨rfl, rfl, rfl, rfl, rfl⟩ := e
 exact ⟨⟨⟨lf, _, _, _, _⟩, c5⟩, T, l, rfl, rfl, rfl, rfl, rfl, rfl, ht, hl⟩
end
section
open Go.ChangeShapes Go.WideShapes Go.ChangeAt Go.RowKit Go.Deep Go.Joins

theorem mach_of_trodR {H : Type} {enc : TypeId × Value → H} {W : World} {n : Nat} {c0 c1 c2 c3 c4 c5 : Value} {y : DataW H × List MemPlace}
  (h : DataW.trod enc Try.prog W 0 (fun _ => true) true (n + 1) 76 [c0, c1, c2, c3, c4, c5] = some y) : ∃ (m : MacV) (T : Tr) (l : DL), c0 = .bool m.x.lf ∧ c1 = m.x.p ∧ c2 = m.x.c ∧ c3 = m.x.k ∧ c4 = m.x.b ∧ c5 = m.v ∧ MacAt n W m T l := by
 obtain ⟨xs, n', hn, -, -, hlen, hf⟩ := DataW.trod_struct Try.underlying76 h
 obtain rfl : n = n' := by omega
 match xs, hlen with
 | [y0, y1], _ =>
 have t0 := hf 0 _ rfl
 have t1 := hf 1 _ rfl
 simp [Try.cells74, Try.cells25] at t0 t1
 obtain ⟨x, T, e, ht⟩ := tree_of_trod n _ _ t0
 obtain ⟨l, hl⟩ := arg_donesS (d := y1.1) (p := y1.2) (slice_of Try.underlying25 t1) ⟨n, by
  obtain ⟨_, _, _, e⟩ := slice_of Try.underlying25 t1
  subst e
  exact t1⟩
 obtain ⟨lf, p1, p2, p3, p4⟩ := x
 simp [TV.cells] at e
 obtain ⟨rfl, rfl, rfl, rfl, rfl⟩ := e
 exact ⟨⟨⟨lf, _, _, _, _⟩, c5⟩, T, l, rfl, rfl, rfl, rfl, rfl, rfl, ht, hl⟩
end
end Go.Proofs.Ythfmifdpldmbaaa
