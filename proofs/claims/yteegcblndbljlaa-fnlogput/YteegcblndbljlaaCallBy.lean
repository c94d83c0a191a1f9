/-
  A call in a region by the callee's contract, without a walk.
-/
import Derived.Test.YteegcblndbljlaaMem
import Derived.WalkKit
namespace Go.Proofs.Yteegcblndbljlaa
open Go.RowKit

theorem call_by {P : Program} {o : Oper} {a : Act} {K : Act → World → Prop} {Q : Exit → Act → World → Prop} {w : World} {R : Ending → World → Prop} (f : FuncId) (xs : List Operand) (ats : Array TypeId)
    (ho : o.op = .call { callee := .value (.func f), args := xs.toArray, argTypes := ats }) (hrun : ∀ args w, (callFunc f args).run P w = .ok (.enter f args) w) (args : List Value) (he : xs.map a.eval = args)
    (h : Calls P f args.toArray w R) (hk : ∀ e w', R e w' → ∃ v, e = .returned v ∧ K (a.put o.dst v) w') : o.wp P a w K Q := by
  have ef : a.eval (.func f) = .func (.func f) #[] #[] := rfl
  have hx : execOp a.eval o = callFunc f args.toArray := by
    unfold execOp
    simp [ho, resolve, Deferred.ofValue, invoke, ef, he]
  unfold Oper.wp
  rw [hx, hrun, Oper.upon_enter]
  refine Calls.mono h ?_
  intro e w' hr
  obtain ⟨v, rfl, hk⟩ := hk e w' hr
  exact hk

end Go.Proofs.Yteegcblndbljlaa
