/-
  The program's NodeOk: the role.
  The program's NodeOk, whole.
  The walk of the law FnExactNodeOk, over the program's contract.
-/
import Derived.Test.YtkcaelfkcepdkaaGreatOfNote41
import Derived.Test.YtkcaelfkcepdkaaGreatOfNote6
import Derived.Laws.EntriesVeiled
import Derived.Deep.MidRow
import Derived.Test.YtkcaelfkcepdkaaGreatOfNote9
import Derived.Deep.RegionHeld3
namespace Go.Proofs.YtkcaelfkcepdkaaGreat
set_option maxRecDepth 100000
set_option maxHeartbeats 8000000
section
open Go.RowKit
end
section
open Go.RowKit
end
section
open Go.RowKit

theorem Bq.cells {n:Nat} {w:World} {M:AL} {D:Nd} (h:Bq n w M D):∃ms:List Value,M.val= .agg ms.toArray/\ms.length=23/\ms.toArray.all (·.oneCell')=true:=by
 obtain⟨id,te,vo,lb,lt,lv,⟨⟨sl,sp,sc,sk,sb⟩,sv⟩,ro,vv,nv,mv,cm,⟨⟨ol,op,oc,ok,ob⟩,ov⟩⟩:=M
 obtain⟨q1,q2,q3,q4,q5,q6⟩:=h
 obtain⟨x0,e0⟩:=q1.sl
 obtain⟨x6,e6⟩:=q3.sl
 obtain⟨x7,e7⟩:=q4.sl
 obtain⟨x8,e8⟩:=q5.sl
 obtain⟨b1,y1,y2,y3,y4,y5,e1⟩:=q2.sl
 obtain⟨b2,z1,z2,z3,z4,z5,e2⟩:=q6.sl
 simp only[Bv.mk.injEq,TV.mk.injEq] at e0 e1 e2 e6 e7 e8
 obtain⟨⟨f0,f1,f2,f3,f4⟩,f5⟩:=e1
 obtain⟨⟨g0,g1,g2,g3,g4⟩,g5⟩:=e2
 subst e0 e6 e7 e8 f0 f1 f2 f3 f4 f5 g0 g1 g2 g3 g4 g5;exact⟨_,rfl,rfl,by simp[Value.oneCell']⟩
theorem AL.like.both {N M M' :AL} (h:N.like M) (h' :N.like M'):M.like M' :=by
 obtain⟨a1,a2,a3,a4,a5,a6,a7⟩:=h
 obtain⟨b1,b2,b3,b4,b5,b6,b7⟩:=h'
 exact⟨a1.symm.trans b1,a2.symm.trans b2,a3.symm.trans b3,a4.symm.trans b4,a5.symm.trans b5,a6.symm.trans b6,a7.symm.trans b7⟩
theorem Sd (args:Array Value) (w:World):(callFunc 18 args).run Tryz.prog w= .ok (.enter 18 args) w:=by go_simp
theorem R7 (args:Array Value) (w:World):(callFunc 20 args).run Tryz.prog w= .ok (.enter 20 args) w:=by go_simp
end
end Go.Proofs.YtkcaelfkcepdkaaGreat
