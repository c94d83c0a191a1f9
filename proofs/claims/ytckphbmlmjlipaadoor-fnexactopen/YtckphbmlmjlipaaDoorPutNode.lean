/-
  The program's numsOfNode and PutNode.
-/
import Derived.Test.YtckphbmlmjlipaaDoorPart4
import Derived.Test.YtckphbmlmjlipaaDoorGetNum
namespace Go.Proofs.YtckphbmlmjlipaaDoor
open Go.RowKit

theorem nodeOk_leaf {T : Tr} {ks : List Int} (h : kindN T = 1) : (nodeOkP T ks ↔ ks.length = 0 ∧ T.pairs.length ≤ 4) ∧ nodeNums T ks = leafNums T.pairs := by
  unfold kindN at h
  unfold nodeOkP nodeNums
  split at h
  · rename_i hl
    rw [if_pos hl, if_pos hl]
    split at h
    · rename_i h2; exact ⟨by omega, rfl⟩
    · cases h
  · split at h <;> cases h
theorem nodeOk_fork {T : Tr} {ks : List Int} (h : kindN T = 2) : (nodeOkP T ks ↔ ks.length = T.kids.length ∧ forkOk T ks) ∧ nodeNums T ks = forkNums T ks := by
  unfold kindN at h
  unfold nodeOkP nodeNums forkOk
  split at h
  · split at h <;> cases h
  · rename_i hl
    rw [if_neg hl, if_neg hl]
    split at h
    · rename_i h2; exact ⟨by omega, rfl⟩
    · cases h
theorem nodeOk_none {T : Tr} {ks : List Int} (h : kindN T = 0) : ¬ nodeOkP T ks := by
  unfold kindN at h
  unfold nodeOkP
  split at h
  · rename_i hl
    rw [if_pos hl]
    split at h
    · cases h
    · rename_i h2; omega
  · rename_i hl
    rw [if_neg hl]
    split at h
    · cases h
    · rename_i h2; omega
theorem kindN_in (T : Tr) : kindN T = 0 ∨ kindN T = 1 ∨ kindN T = 2 := by unfold kindN; split <;> split <;> simp

/-- what PutNode tells -/
def PutPost (w : World) (g : Option (List Int)) (e : Ending) (w' : World) : Prop := ∃ v', (match g with
  | some bs => e = .returned (.tuple #[v', .bool true]) ∧ OwnB w.heap.size w' v' bs
  | none => e = .returned (.tuple #[v', .bool false]) ∧ OwnB w.heap.size w' v' [])

end Go.Proofs.YtckphbmlmjlipaaDoor
