/-
  What the laws over a tree in and a tree out have in common.
-/
import Derived.Test.YtcmofojechfccaaGreatOfInject40
import Derived.Test.YtcmofojechfccaaGreatOfInject41
import Derived.Test.YtcmofojechfccaaGreatOfInject48
import Derived.Test.YtcmofojechfccaaGreatOfInject50
import Derived.Test.YtcmofojechfccaaGreatOfInject45
namespace Go.Proofs.YtcmofojechfccaaGreat
set_option maxRecDepth 100000
set_option maxHeartbeats 8000000
section
open Go.RowKit

def LB (t:TypeId) (u:World) (B:Nat) (A:Array Value):Prop:=u.heap[B]? =some (.cells A t (0,0))
theorem LB.below {t:TypeId} {u u' :World} {B:Nat} {A:Array Value} (h:LB t u B A) (hb:Below u.heap.size u u'):LB t u' B A:=(hb.block _ (Array.getElem?_eq_some_iff.1 h).1).trans h
theorem LB.chg {t:TypeId} {F:Nat->Prop} {u u' :World} {B:Nat} {A:Array Value} (h:LB t u B A) (hc:Chg F u u') (hF:¬F B):LB t u' B A:=row_chg h hc hF
theorem LB.new (t:TypeId) (u:World) (A:Array Value):LB t (u.alloc (.cells A t)) u.heap.size A:=heap_alloc_new _ _
theorem LB.new1 (t:TypeId) (u:World) (A:Array Value) {B:Nat} (h:B=u.heap.size):LB t (u.alloc (.cells A t)) B A:=by subst h;exact heap_alloc_new _ _
theorem LB.cells {t:TypeId} {u:World} {B:Nat} {A:Array Value} (h:LB t u B A):∀j,u.cell? ⟨B,j,none⟩=A[j]? :=fun _=>cell_of_cells h
theorem LB.lt {t:TypeId} {u:World} {B:Nat} {A:Array Value} (h:LB t u B A):B<u.heap.size:=(Array.getElem?_eq_some_iff.1 h).1

theorem TreeAt.slices {n:Nat} {w:World} {x:TV} {T:Tr} (h:TreeAt n w x T):Slices x:=by
 obtain⟨a1,a2,a3,a4,c1,c2,c3,c4,hx⟩:=h.shape
 subst hx
 exact⟨a1,a2,a3,a4,_,_,_,_,c1,c2,c3,c4,rfl⟩
theorem TreeD.like:∀ {n N:Nat} {w w0:World} {F:Nat->Prop} {x x0:TV} {T:Tr},TreeD N w F x T->TreeAt n w0 x0 T->TreeD n w F x T
 |0,_,_,_,_,_,_,_,_,h=>h.elim
 |_+1,0,_,_,_,_,_,_,h,_=>h.elim
 |n+1,N+1,w,w0,F,x,x0,T,⟨h1,h2,h3,h4,h5,xs,K,k1,k2,k3,k4,k5⟩,⟨_,_,_,_,ys,g5,_,g7⟩=>
  ⟨h1,h2,h3,h4,h5,xs,K,k1,k2,fun i hi=>(k3 i hi).like (g7 i (by omega)),k4,k5⟩
theorem TreeD.fit {n N:Nat} {w w0:World} {F:Nat->Prop} {x x0:TV} {T T' :Tr} (hn:7<=n) (h:TreeD N w F x T') (h0:TreeAt n w0 x0 T) (hT:okT T' =true∨T' =T):TreeD n w F x T' :=by
 rcases hT with hT|hT
 ·have h1:=ok_sh hT
  exact(TreeD.down h1.1 h).le (by omega)
 ·subst hT
  exact h.like h0
theorem size_fit {n:Nat} {w0:World} {x0:TV} {T T' :Tr} (hn:7<=n) (_h0:TreeAt n w0 x0 T) (hs:sizeT n T<=1048576) (hT:okT T' =true∨T' =T):sizeT n T' <=1048576:=by
 rcases hT with hT|hT
 ·have h1:=ok_sh hT
  have h2:=ok_small hT
  rw[sizeT_stable (depthT T') T' h1.1 n (by omega)]
  omega
 ·subst hT
  exact hs
theorem injF_fit (T:Tr) (m:Int × Int × Int):okT (injF T m)=true∨injF T m=T:=by
 by_cases h:okT T=true
 ·exact .inl (injF_ok h m)
 ·exact .inr (by rw[injF,if_neg (fun k=>h k.1)])
theorem run_toTree (args:Array Value) (w:World):(callFunc 10 args).run Tryz.prog w= .ok (.enter 10 args) w:=by go_simp
theorem run_eqTree (args:Array Value) (w:World):(callFunc 13 args).run Tryz.prog w= .ok (.enter 13 args) w:=by go_simp
def Got (n:Nat) (T2:Tr) (w1:World) (z:TV) (L:Nat) (wx:World):Prop:=
 LB 35 wx L #[.bool z.lf,z.p,z.c,z.k,z.b]/\TreeD n wx (fun g=>w1.heap.size<=g/\¬g=L) z T2/\w1.heap.size<=L/\Below w1.heap.size w1 wx
end
end Go.Proofs.YtcmofojechfccaaGreat
