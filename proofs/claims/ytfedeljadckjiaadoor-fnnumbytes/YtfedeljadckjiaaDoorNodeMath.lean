/-
  The numbers of a node, and their bytes, as plain functions.
-/
import Derived.Test.YtfedeljadckjiaaDoorPutNum
import Derived.Test.YtfedeljadckjiaaDoorTree
namespace Go.Proofs.YtfedeljadckjiaaDoor
open Go.RowKit

theorem Tryd.infoInt : (Tryd.prog.info? 3).map (fun i => (i.zero, i.size, i.bytes)) = some (some (.int .i64 0), 1, 8) := by kernel_rfl
def OwnI (base : Nat) (w : World) (v : Value) (l : List Int) : Prop := w.ownsRow base 3 1 v l.length (flatI l)
theorem flatI_append (l m : List Int) : flatI (l ++ m) = flatI l ++ flatI m := by simp [flatI]
theorem flatI_oneC (l : List Int) : ∀ y ∈ flatI l, y.oneCell' = true := by
  intro v hv
  obtain ⟨z, _, rfl⟩ := List.mem_map.1 hv
  rfl
theorem Row.nums {w : World} {v : Value} {l : List Int} (h : Row w v l.length (flatI l)) :
    ∃ (a : Option Addr) (b off cap : Nat), v = .slice a l.length cap ∧ l.length ≤ cap ∧ cap ≤ maxLen ∧ (0 < l.length → a = some ⟨b, off, none⟩) ∧
      (∀ i, i < l.length → w.cell? ⟨b, off + i, none⟩ = some (.int .i64 (iAt l i))) := by
  obtain ⟨a, b, off, cap, h1, h2, h3, h4, h5, _⟩ := h
  exact ⟨a, b, off, cap, h1, h2, h3, h4, fun i hi => h5 _ _ (flatI_at l i hi)⟩
theorem OwnI.row {base : Nat} {w : World} {v : Value} {l : List Int} (h : OwnI base w v l) : Row w v l.length (flatI l) := Row.of_owns h
theorem OwnB.row {base : Nat} {w : World} {v : Value} {l : List Int} (h : OwnB base w v l) : Row w v l.length (flatB l) := Row.of_owns h

/-- every one has a form -/
abbrev okNums (l : List Int) : Prop := ∀ x ∈ l, -2000000000 ≤ x ∧ x ≤ 2000000000
theorem take_succI (l : List Int) (k : Nat) (hk : k < l.length) : l.take (k + 1) = l.take k ++ [iAt l k] := by
  rw [List.take_succ_eq_append_getElem hk]; simp [iAt, List.getD, hk]
theorem okNums_take {l : List Int} {k : Nat} (h : okNums (l.take k)) (hk : k < l.length) (hx : -2000000000 ≤ iAt l k ∧ iAt l k ≤ 2000000000) : okNums (l.take (k + 1)) := by
  rw [take_succI l k hk]
  intro x hx'
  rcases List.mem_append.1 hx' with h' | h'
  · exact h x h'
  · simp at h'; subst h'; exact hx
theorem okNums_not {l : List Int} {k : Nat} (hk : k < l.length) (hx : ¬ (-2000000000 ≤ iAt l k ∧ iAt l k ≤ 2000000000)) : ¬ okNums l := by
  intro h
  refine hx (h (iAt l k) ?_)
  have : iAt l k = l[k] := by simp [iAt, List.getD, hk]
  rw [this]; exact List.getElem_mem hk
def formsB (l : List Int) : List Int := l.flatMap putN
theorem formsB_length (l : List Int) : (formsB l).length ≤ 5 * l.length := by
  induction l with
  | nil => simp [formsB]
  | cons a l ih => have := putN_length a; simp only [formsB, List.flatMap_cons, List.length_append, List.length_cons] at *; omega
theorem formsB_succ (l : List Int) (k : Nat) (hk : k < l.length) : formsB (l.take (k + 1)) = formsB (l.take k) ++ putN (iAt l k) := by
  rw [take_succI l k hk]; simp [formsB]
theorem formsB_byte (l : List Int) : inByte (formsB l) := by
  intro b hb
  obtain ⟨x, _, hx⟩ := List.mem_flatMap.1 hb
  exact putN_byte x b hx

def pairNums (l : List (Int × Int)) : List Int := l.flatMap fun p => [p.1, p.2]
def msgNums (l : ML) : List Int := l.flatMap fun m => [m.1, m.2.1, m.2.2]
theorem pairNums_length (l : List (Int × Int)) : (pairNums l).length = 2 * l.length := by
  induction l with
  | nil => rfl
  | cons a l ih => simp only [pairNums, List.flatMap_cons, List.length_append, List.length_cons, List.length_nil] at *; omega
theorem msgNums_length (l : ML) : (msgNums l).length = 3 * l.length := by
  induction l with
  | nil => rfl
  | cons a l ih => simp only [msgNums, List.flatMap_cons, List.length_append, List.length_cons, List.length_nil] at *; omega
theorem pairNums_succ (l : List (Int × Int)) (k : Nat) (hk : k < l.length) : pairNums (l.take (k + 1)) = pairNums (l.take k) ++ [kOf l k, vOf l k] := by
  rw [take_succP l k hk]; simp [pairNums]
theorem msgNums_succ (l : ML) (k : Nat) (hk : k < l.length) : msgNums (l.take (k + 1)) = msgNums (l.take k) ++ [mO l k, mK l k, mV l k] := by
  have e : l[k] = (mO l k, mK l k, mV l k) := by simp [mO, mK, mV, List.getD, hk]
  rw [List.take_succ_eq_append_getElem hk, e]; simp [msgNums]
def leafNums (l : List (Int × Int)) : List Int := [1, (l.length : Int)] ++ pairNums l
def forkNums (T : Tr) (ks : List Int) : List Int := [0, (ks.length : Int)] ++ ks ++ T.cuts ++ [(T.buf.length : Int)] ++ msgNums T.buf
def nodeNums (T : Tr) (ks : List Int) : List Int := if T.leaf then leafNums T.pairs else forkNums T ks
/-- it has the shape of a node -/
abbrev nodeOkP (T : Tr) (ks : List Int) : Prop :=
  if T.leaf = true then ks.length = 0 ∧ T.cuts.length = 0 ∧ T.kids.length = 0 ∧ T.buf.length = 0 ∧ T.pairs.length ≤ 4
  else T.pairs.length = 0 ∧ ks.length = T.kids.length ∧ 1 ≤ ks.length ∧ ks.length ≤ 4 ∧ T.cuts.length + 1 = ks.length ∧ T.buf.length ≤ 6
theorem leafNums_length (l : List (Int × Int)) : (leafNums l).length = 2 + 2 * l.length := by simp [leafNums, pairNums_length]; omega
theorem forkNums_length (T : Tr) (ks : List Int) : (forkNums T ks).length = 3 + ks.length + T.cuts.length + 3 * T.buf.length := by simp [forkNums, msgNums_length]; omega
theorem nodeNums_length {T : Tr} {ks : List Int} (h : nodeOkP T ks) : (nodeNums T ks).length ≤ 40 := by
  unfold nodeOkP at h; unfold nodeNums
  split
  · rename_i hl; rw [if_pos hl] at h; rw [leafNums_length]; omega
  · rename_i hl; rw [if_neg hl] at h; rw [forkNums_length]; omega
/-- the bytes of a node, if it has any -/
def putNodeF (T : Tr) (ks : List Int) : Option (List Int) := if nodeOkP T ks ∧ okNums (nodeNums T ks) then some (formsB (nodeNums T ks)) else none

end Go.Proofs.YtfedeljadckjiaaDoor
