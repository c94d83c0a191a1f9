/-
  A call of a function in a region that draws its order.
-/
import Derived.Test.YtmpiijphpnjlnaaGreatApart
namespace Go.Proofs.YtmpiijphpnjlnaaGreat
open Go.RowKit

theorem step_func {P : Program} {ops : Array Oper} {o : Oper} {a : Act} {K : Act → World → Prop} {Q : Exit → Act → World → Prop} {E : Prop} {w : World} {R : Ending → World → Prop} (hgd : o.guard = none) (f : FuncId) (xs : List Operand) (ats : Array TypeId)
    (ho : o.op = .call { callee := .value (.func f), args := xs.toArray, argTypes := ats }) (hrun : ∀ args w, (callFunc f args).run P w = .ok (.enter f args) w) (args : List Value) (he : xs.map a.eval = args)
    (h : Calls P f args.toArray w R) (hk : ∀ e w', R e w' → ∃ v, e = .returned v ∧ K (a.put o.dst v) w') :
    if Region.wanted o (yielded ops a.tmps) = true then Oper.wp P o a w K Q else E := by
  have hw : Region.wanted o (yielded ops a.tmps) = true := by simp [Region.wanted, hgd]
  rw [if_pos hw]
  have ef : a.eval (.func f) = .func (.func f) #[] #[] := rfl
  have hx : execOp a.eval o = callFunc f args.toArray := by
    unfold execOp
    simp [ho, resolve, Deferred.ofValue, invoke, ef, he]
  unfold Oper.wp
  rw [hx, hrun, Oper.upon_enter]
  refine Calls.mono h ?_
  intro e w' hr
  obtain ⟨v, rfl, hk⟩ := hk e w' hr
  exact hk

theorem run94 (args : Array Value) (w : World) : (callFunc 94 args).run Tryz.prog w = .ok (.enter 94 args) w := by go_simp
theorem run93 (args : Array Value) (w : World) : (callFunc 93 args).run Tryz.prog w = .ok (.enter 93 args) w := by go_simp
theorem run56 (args : Array Value) (w : World) : (callFunc 56 args).run Tryz.prog w = .ok (.enter 56 args) w := by go_simp
theorem run78 (args : Array Value) (w : World) : (callFunc 78 args).run Tryz.prog w = .ok (.enter 78 args) w := by go_simp
theorem run79 (args : Array Value) (w : World) : (callFunc 79 args).run Tryz.prog w = .ok (.enter 79 args) w := by go_simp

end Go.Proofs.YtmpiijphpnjlnaaGreat
