/-
  The law FnExactGetNode, with the model's GetNode.
  What an argument that is a list of pairs holds: opened once into a row of cells.
  The listed variable: the one error that stands for a mistake, as its initialiser lays it.
-/
import Derived.Test.YtfedeljadckjiaaDoorPart1
import Derived.Test.YtfedeljadckjiaaDoorSGetNode
import Derived.Test.YtfedeljadckjiaaDoorMem
import Derived.ProofKit
import Derived.Deep.SlicePairs
import Derived.Test.YtfedeljadckjiaaDoorDemand
import Derived.Test.YtfedeljadckjiaaDoorRows
import Derived.LaidMore
import Derived.OpenShut
import Derived.Stop.Joined
import Derived.Stop.LaidErr
import Derived.ChangeSlices
namespace Go.Proofs.YtfedeljadckjiaaDoor
open Go.RowKit

theorem SNodePost.split {g : Option NodeV} {e : Ending} {w' : World} (h : SNodePost g e w') : ∃ (x : TV) (vk : Value), e = .returned (.tuple #[x.val, vk, .bool g.isSome]) ∧ TreeAt 2 w' x (treeG g) ∧ Row w' vk (kidsG g).length (flatI (kidsG g)) := by
  cases g with
  | some n => exact h
  | none =>
    obtain ⟨gb, rfl⟩ := h
    have rn := rowZ w'
    exact ⟨⟨false, .slice none 0 0, .slice none 0 0, .slice none 0 0, .slice none 0 0⟩, _, rfl, TreeAt.mk rfl rn rn rn ⟨[], rfl, rn, fun i hi => absurd hi (Nat.not_lt_zero _)⟩, ⟨_, gb, 0, 0, rfl, Nat.le_refl _, Nat.zero_le _, fun h => absurd h (Nat.lt_irrefl _), fun j u hj => by simp [kidsG, flatI] at hj, fun h => by cases h⟩⟩
theorem spec_gets : SpecGets := fun v l u hu hl hn => (specGetNode_any v l u hu hl hn).mono (fun _ _ h => ⟨h.1.split, h.2⟩)
theorem fnExactGetNode_any (ea : Addr) (v : Value) (l : List Int) (w : World) (h : Row w v l.length (flatB l)) (hl : inByte l) (he : ErrIs ea w) :
    Calls Tryd.prog 7 #[v] w fun e w' => e = .returned (.bool true) ∧ Below w.heap.size w w' := fnExactGetNode_of spec_gets ea v l w h hl he

end Go.Proofs.YtfedeljadckjiaaDoor

namespace Go.Proofs.YtfedeljadckjiaaDoor
open Go.ChangeShapes Go.WideShapes Go.ChangeAt Go.RowKit Go.Deep

theorem Tryd.own : ownKnob Tryd.prog.godebug = none := by kernel_rfl
theorem Tryd.laidOut : laidOutB Tryd.prog = true := by kernel_rfl
theorem Tryd.cells108 : Tryd.prog.cellsOf 108 = 2 := by kernel_rfl
theorem Tryd.cells3 : Tryd.prog.cellsOf 3 = 1 := by kernel_rfl

set_option maxRecDepth 100000 in
theorem arg_pairs {H : Type} {enc : TypeId × Value → H} {W : World} {r : Reach} {b0 : Nat} {v : Value} {d : DataW H} {p : List MemPlace}
    (hv : Value.okWide Tryd.prog W r b0 49 v) (h : DataW.Trod enc Tryd.prog W 0 (fun _ => true) true 49 v d p) : ∃ l : List (Int × Int), Row W v l.length (flatP l) := by
  obtain ⟨a0, len, cap, rfl⟩ := okWide_slice Tryd.underlying49 hv
  obtain ⟨fuel, hf⟩ := h
  rcases open_slice_pairs Tryd.underlying49 Tryd.underlying108 Tryd.cells108 rfl rfl Tryd.cells3 Tryd.cells3 hf with ⟨hcs, _⟩ | ⟨a, len', cap', m, n, V0, V1, D0, D1, P0, P1, hcs, _, hl, hm, hmm, _, hx⟩
  · simp [Value.cells] at hcs
    obtain ⟨rfl, rfl, rfl⟩ := hcs
    exact ⟨[], none, 0, 0, 0, rfl, Nat.le_refl _, Nat.zero_le _, fun h => absurd h (Nat.lt_irrefl _), fun j u hj => by simp [flatP] at hj, fun _ => rfl⟩
  · simp [Value.cells] at hcs
    obtain ⟨rfl, rfl, rfl⟩ := hcs
    simp only [if_true] at hmm
    have hk : ∀ i, i < len → ∃ x : Int × Int, W.cell? (a.add (i * 2)) = some (.int .i64 x.1) ∧ W.cell? (a.add (i * 2 + 1)) = some (.int .i64 x.2) := by
      intro i hi
      obtain ⟨c0, c1, t0, t1⟩ := hx i (by omega)
      obtain ⟨x, e0, _, _⟩ := DataW.trod_int Tryd.underlying3 t0
      obtain ⟨y, e1, _, _⟩ := DataW.trod_int Tryd.underlying3 t1
      simp at e0 e1
      exact ⟨(x, y), by rw [c0, e0], by rw [c1, e1]⟩
    obtain ⟨f, hf'⟩ := choose_lt hk
    obtain ⟨b, off, spot⟩ := a
    have hl0 : ((List.range len).map f).length = len := by simp
    refine ⟨(List.range len).map f, some ⟨b, off, spot⟩, b, off, cap, by rw [hl0], by rw [hl0]; exact hl, hm, fun h => ?_, ?_, fun h => by cases h⟩
    · rw [hl0] at h
      have hspot : spot = none := by simpa [Addr.add] using World.cell?_spot (hf' 0 h).1
      rw [hspot]
    · intro j u hj
      have hjl := (List.getElem?_eq_some_iff.1 hj).1
      rw [flatP_length, hl0] at hjl
      have hi : j / 2 < len := by omega
      have hspot : spot = none := by simpa [Addr.add] using World.cell?_spot (hf' 0 (by omega)).1
      subst hspot
      have hat := flatP_at ((List.range len).map f) (j / 2) (by rw [hl0]; exact hi)
      have hk0 : kOf ((List.range len).map f) (j / 2) = (f (j / 2)).1 := by simp [kOf, List.getD, hi]
      have hv0 : vOf ((List.range len).map f) (j / 2) = (f (j / 2)).2 := by simp [vOf, List.getD, hi]
      rw [hk0, hv0] at hat
      have hc := hf' (j / 2) hi
      rw [add_plain, add_plain] at hc
      rcases Nat.mod_two_eq_zero_or_one j with h0 | h1
      · have e : j = j / 2 * 2 := by omega
        rw [← e] at hat hc
        rw [hj] at hat
        rw [hc.1]; exact hat.1.symm
      · have e : j = j / 2 * 2 + 1 := by omega
        rw [← e] at hat hc
        rw [hj] at hat
        rw [hc.2]; exact hat.2.symm

end Go.Proofs.YtfedeljadckjiaaDoor

namespace Go.Proofs.YtfedeljadckjiaaDoor
open Go.ChangeShapes Go.WideShapes Go.ChangeAt Go.RowKit

def laidE : List (String × DataW Unit) := [("loop.example/g00234/impl.errMistake", Rows.laid_loop_example_g00234_impl_errMistake)]
theorem Tryd.gErr : Tryd.prog.globalNamed "loop.example/g00234/impl.errMistake" = some 0 := by kernel_rfl
theorem Tryd.gErrType : (Tryd.prog.globals[0]?).map (·.type) = some 104 := by kernel_rfl
theorem Tryd.cellsErr : Tryd.prog.cellsOf 164 = 1 := by kernel_rfl
theorem Tryd.cellsStr : Tryd.prog.cellsOf 9 = 1 := by kernel_rfl
theorem Tryd.star : "*" ++ "errors.errorString" = "*errors.errorString" := by decide
theorem Tryd.rowErr (u : TypeId) (h : Tryd.prog.typeName? 3 u = some "*errors.errorString") : u = 147 :=
  typeName_ptr_named (nm := "errors.errorString") (by rw [Tryd.star]; kernel_rfl) (by kernel_rfl) (by decide) u (by rw [Tryd.star]; exact h)

theorem door_met (os : Os) (args : Array Value) : laidMetH Tryd.prog laidE ((World.doorLaid Tryd.prog 28 os).forCall (fun _ _ => 0) ⟨#[], args, []⟩).memory :=
  laidMetH_of_parts3 (fuel := 8) (laidMet_of_run' 8 (by kernel_rfl) (by kernel_rfl)) (by kernel_rfl) (by kernel_rfl)

/-- what the condition gives the walks -/
theorem err_of_laid {W : World} (h : laidMetH Tryd.prog laidE W) : ∃ ea : Addr, ErrIs ea W ∧ W.var? Tryd.prog "loop.example/g00234/impl.errMistake" = some #[ErrV ea] := by
  rw [MakeChecks.laidMetH_plain _ _ _ (by kernel_rfl)] at h
  obtain ⟨a0, s0, hv0, _, _, _⟩ := laid_sentinel h Tryd.gErr Tryd.gErrType Tryd.underlying104 Tryd.rowErr Tryd.underlying147 Tryd.underlying164 rfl rfl Tryd.underlying9 Tryd.cellsErr Tryd.cellsStr
  exact ⟨a0, by simpa [ErrIs, ErrV] using World.var?_cell Tryd.gErr hv0 0, hv0⟩

theorem var_below {W W' : World} {n : String} {cs : Array Value} (h : W.var? Tryd.prog n = some cs) (hb : Below W.heap.size W W') : W'.var? Tryd.prog n = some cs := by
  unfold World.var? at h ⊢
  cases hg : Tryd.prog.globalNamed n with
  | none => simp [hg] at h
  | some g =>
    simp only [hg, Option.bind_some] at h ⊢
    have hlt : g < W.heap.size := by
      cases hh : W.heap[g]? with
      | none => rw [hh] at h; cases h
      | some o => exact (Array.getElem?_eq_some_iff.1 hh).1
    rw [hb.block g hlt]; exact h

theorem Tryd.cellsByte : Tryd.prog.cellsOf 5 = 1 := by kernel_rfl
set_option maxRecDepth 100000 in
theorem arg_bytes {H : Type} {enc : TypeId × Value → H} {W : World} {r : Reach} {b0 : Nat} {v : Value} {d : DataW H} {p : List MemPlace}
    (hv : Value.okWide Tryd.prog W r b0 22 v) (h : DataW.Trod enc Tryd.prog W 0 (fun _ => true) true 22 v d p) : ∃ bs : List Int, Row W v bs.length (flatB bs) ∧ inByte bs := by
  obtain ⟨a0, len, cap, rfl⟩ := okWide_slice Tryd.underlying22 hv
  obtain ⟨fuel, hf⟩ := h
  rcases open_ints Tryd.underlying22 Tryd.underlying5 Tryd.cellsByte hf with ⟨hcs, _⟩ | ⟨a, len', cap', zs, hcs, _, hl, hm, hmm, _, hx, hwf⟩
  · simp [Value.cells] at hcs
    obtain ⟨rfl, rfl, rfl⟩ := hcs
    exact ⟨[], ⟨none, 0, 0, 0, rfl, Nat.le_refl _, Nat.zero_le _, fun h => absurd h (Nat.lt_irrefl _), fun j u hj => by simp [flatB] at hj, fun _ => rfl⟩, fun j hj => by cases hj⟩
  · simp [Value.cells] at hcs
    obtain ⟨rfl, rfl, rfl⟩ := hcs
    simp only [if_true] at hmm
    obtain ⟨b, off, spot⟩ := a
    have hl0 : (zs.take len).length = len := by simp; omega
    refine ⟨zs.take len, ⟨some ⟨b, off, spot⟩, b, off, cap, by rw [hl0], by rw [hl0]; exact hl, hm, fun h => ?_, ?_, fun h => by cases h⟩, ?_⟩
    · rw [hl0] at h
      have hspot : spot = none := by simpa [Addr.add] using World.cell?_spot (hx 0 (by omega))
      rw [hspot]
    · intro j u hj
      have hjl := (List.getElem?_eq_some_iff.1 hj).1
      rw [flatB_length, hl0] at hjl
      have hspot : spot = none := by simpa [Addr.add] using World.cell?_spot (hx 0 (by omega))
      subst hspot
      have hc := hx j (by omega)
      rw [add_plain] at hc
      rw [hc, ← hj, flatB, List.getElem?_map, List.getElem?_take_of_lt hjl, List.getElem?_eq_getElem (by omega)]
      simp [List.getD, show j < zs.length by omega]
    · intro z hz
      have hm2 : z ∈ zs := List.mem_of_mem_take hz
      have := hwf _ hm2
      simp only [Lit.wf, Bool.and_eq_true, decide_eq_true_eq] at this
      have e1 : IntKind.u8.min = 0 := by decide
      have e2 : IntKind.u8.max = 255 := by decide
      rw [e1, e2] at this
      exact this

end Go.Proofs.YtfedeljadckjiaaDoor
