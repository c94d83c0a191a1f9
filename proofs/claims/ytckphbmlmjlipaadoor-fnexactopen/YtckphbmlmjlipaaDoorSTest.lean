/-
  The model's GetNode: its test.
-/
import Derived.Test.YtckphbmlmjlipaaDoorPart5
import Derived.Laws.BytesArg
import Derived.Test.YtckphbmlmjlipaaDoorPutNode
import Derived.Lib.SlicesS
namespace Go.Proofs.YtckphbmlmjlipaaDoor
open Go.RowKit

/-- what is told, as a tree and its kids' numbers -/
def treeV : NodeV → Tr
  | .inl l => ⟨true, l, [], [], []⟩
  | .inr f => ⟨false, [], f.cuts, List.replicate f.kids.length ⟨false, [], [], [], []⟩, f.buf⟩
def kidsV : NodeV → List Int
  | .inl _ => []
  | .inr f => f.kids
theorem putNodeF_V (nv : NodeV) : (okV nv ∧ okNums (numsV nv) → putNodeF (treeV nv) (kidsV nv) = some (formsB (numsV nv))) ∧ (¬ (okV nv ∧ okNums (numsV nv)) → putNodeF (treeV nv) (kidsV nv) = none) := by
  have e1 : nodeNums (treeV nv) (kidsV nv) = numsV nv := by
    cases nv with
    | inl l => rfl
    | inr f => rfl
  have e2 : nodeOkP (treeV nv) (kidsV nv) ↔ okV nv := by
    cases nv with
    | inl l => simp [nodeOkP, treeV, kidsV, okV]
    | inr f => simp [nodeOkP, treeV, kidsV, okV]
  unfold putNodeF
  rw [e1]
  refine ⟨fun h => ?_, fun h => ?_⟩
  · rw [if_pos ⟨e2.2 h.1, h.2⟩]
  · rw [if_neg (fun hh => h ⟨e2.1 hh.1, hh.2⟩)]
theorem strOfNums_inj {l m : List Int} (hl : inByte l) (hm : inByte m) (h : strOfNums l = strOfNums m) : l = m := by
  have h1 : l.map (fun n => UInt8.ofNat n.toNat) = m.map (fun n => UInt8.ofNat n.toNat) := by
    have := congrArg (fun s => s.data.toList) h
    simpa [strOfNums] using this
  clear h
  induction l generalizing m with
  | nil => cases m with
    | nil => rfl
    | cons b m => simp at h1
  | cons a l ih => cases m with
    | nil => simp at h1
    | cons b m =>
      simp only [List.map_cons, List.cons.injEq] at h1
      have ha := hl a (by simp)
      have hb := hm b (by simp)
      have e : a = b := by
        have := congrArg UInt8.toNat h1.1
        simp at this
        omega
      rw [e, ih (fun x hx => hl x (by simp [hx])) (fun x hx => hm x (by simp [hx])) h1.2]
theorem conv_zero (u : World) (p : Addr) (cap : Nat) : (convert 71 9 (.slice (some p) 0 cap)).run Tryd.prog u = .ok (.string (strOfNums [])) u := by
  rw [run_convert_bytes_string u 71 9 5 _ 0 cap Tryd.underlying71 Tryd.underlying5 Tryd.underlying9, run_bytesToString u p 0 cap [] (by simp [loadCells]; rfl)]
  rfl
theorem conv_row {u : World} {a : Option Addr} {l : List Int} {cap : Nat} (h : Row u (.slice a l.length cap) l.length (flatB l)) : (convert 71 9 (.slice a l.length cap)).run Tryd.prog u = .ok (.string (strOfNums l)) u := by
  obtain ⟨a', b, off, cap', he, h2, h3, h4, h5, h6⟩ := h
  have e1 : a = a' := by simp at he; exact he.1
  have e3 : cap = cap' := by simp at he; exact he.2
  clear he
  subst e1
  subst e3
  by_cases hl : 0 < l.length
  · have := h4 hl
    subst this
    exact run_convert_bytes_arg u 71 5 Tryd.underlying71 Tryd.underlying5 b off l.length cap l rfl (fun i hi => h5 i _ (flatB_at l i hi)) 9 Tryd.underlying9
  · have hn : l = [] := List.length_eq_zero_iff.1 (by omega)
    subst hn
    cases a with
    | none =>
      have := h6 rfl
      subst this
      exact run_convert_bytes_nil u 71 5 Tryd.underlying71 Tryd.underlying5 0 0 9 Tryd.underlying9
    | some p => exact conv_zero u p cap

/-- a row of bytes of its own, as a string, in whatever world holds it -/
theorem conv_own2 {base : Nat} {u : World} {v : Value} {l : List Int} (h : OwnB base u v l) : (convert 71 9 v).run Tryd.prog u = .ok (.string (strOfNums l)) u := by
  have h0 := h
  obtain ⟨hl, ⟨rfl, hz⟩ | ⟨g, cap, cur, rfl, _⟩⟩ := h
  · have : l = [] := List.length_eq_zero_iff.1 hz
    subst this
    exact run_convert_bytes_nil u 71 5 Tryd.underlying71 Tryd.underlying5 0 0 9 Tryd.underlying9
  · refine run_convert_bytes_arg u 71 5 Tryd.underlying71 Tryd.underlying5 g 0 l.length cap l rfl (fun i hi => ?_) 9 Tryd.underlying9
    rw [Nat.zero_add]
    exact (World.ownsRow.cellAt h0 i (by omega)).trans (flatB_at l i hi)

end Go.Proofs.YtckphbmlmjlipaaDoor
