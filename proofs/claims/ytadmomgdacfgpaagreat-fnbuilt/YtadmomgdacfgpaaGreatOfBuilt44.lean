/-
  The contract of the program's give, at every depth.
  The program's drained: its function, and a leaf.
  The program's kidByKid, for drained's function.
  The contract of the program's drained.
  The contract of the model's Drain.
  The program's Drain.
  A call of a function in a region that draws its order.
-/
import Derived.Test.YtadmomgdacfgpaaGreatOfBuilt40
import Derived.Test.YtadmomgdacfgpaaGreatOfBuilt43
import Derived.Test.YtadmomgdacfgpaaGreatOfBuilt30
import Derived.Test.YtadmomgdacfgpaaGreatOfBuilt36
import Derived.Test.YtadmomgdacfgpaaGreatOfBuilt28
import Derived.Deep.RegionHeld3
import Derived.Test.YtadmomgdacfgpaaGreatOfBuilt22
namespace Go.Proofs.YtadmomgdacfgpaaGreat
set_option maxRecDepth 100000
set_option maxHeartbeats 8000000
section
open Go.RowKit

theorem R6 (d:Nat) (hd:0<d) (H:Nz d) (F:Nat->Prop) (y:TV) (T:Tr) (vm:Value) (ms:ML) (lo hi:Int) (w:World) (ht:Aw (d+1) w F y T) (hm:Row w vm ms.length (Af ms)) (hT:AK (d+1) T lo hi=d+1) (hms:Ft lo hi ms) (hl:T.leaf=false) (hn:wt (d+1) T+ms.length<=100000) :
  Calls Tryz.prog 31 #[y.val,vm] w fun e w' =>∃v1 v2,e= .returned (.agg #[v1,v2])/\Ah (d+1) w' (fun b=>F b∨w.heap.size<=b) v1 (Ae (d+1) T ms).1/\Ao w' (fun b=>F b∨w.heap.size<=b) v2 (Ae (d+1) T ms).2.length (Ad (Ae (d+1) T ms).2)/\Below w.heap.size w w' :=by
 obtain⟨r1,r2,r3,r4,s1,s2,s3,s4,hy⟩:=ht.treeAt.shape
 obtain⟨a5,q5,hvm,_⟩:=hm.len
 have GF:Hid (∀w1,Below w.heap.size w w1->Calls Tryz.prog 66 #[y.val,vm] w1 _):=fun w1 hb=>N5 d hd H (fun g=>F g/\g<w.heap.size) y T vm ms lo hi w1 (ht.lt.below hb) (hm.below hb) hT hms hl hn
 clear ht hm;rw[hy,hl] at GF ⊢
 subst hvm;change Hid (∀w1,Below w.heap.size w w1->Calls Tryz.prog 66 #[.agg #[.bool false, .slice r1 T.pairs.length s1, .slice r2 T.cuts.length s2, .slice r3 T.kids.length s3, .slice r4 T.buf.length s4], .slice a5 ms.length q5] w1 _) at GF
 show Calls Tryz.prog 31 #[.agg #[.bool false, .slice r1 T.pairs.length s1, .slice r2 T.cuts.length s2, .slice r3 T.kids.length s3, .slice r4 T.buf.length s4], .slice a5 ms.length q5] w _
 clear hy hT hms hl hn;generalize Ae (d+1) T ms=GM at *
 generalize T.cuts.length=z2 at *
 generalize T.kids.length=z3 at *
 generalize T.buf.length=z4 at *
 generalize T.pairs.length=z1 at *
 generalize ms.length=nm at *
 have hs:∀A B e f,((w.alloc (.cells A e)).alloc (.cells B f)).heap.size=w.heap.size+2:=fun A B e f=>by simp
 go_enter Tryz.func31,Tryz.ntmps31
 go_wp2_with fail;refine Calls.mono (GF.out _ (al2 _ _ _)) ?_
 rintro e w2 ⟨v1,v2,rfl,t1,t2,b2⟩
 rw[hs] at t1 t2
 obtain⟨c1,y1,hv1,_⟩:=t1.els.choose_spec.2.row.len
 obtain⟨c2,y2,hv2,_⟩:=t2.row.len
 subst hv1 hv2;have X2:Aj w2 (w.heap.size+1) #[.slice none 0 0, .slice none 0 0]:=(b2.block (w.heap.size+1) (by simp)).trans (by have:=heap_alloc_new (w.alloc (.cells #[.bool false, .slice r1 z1 s1, .slice r2 z2 s2, .slice r3 z3 s3, .slice r4 z4 s4] 30)) (.cells #[.slice none 0 0, .slice none 0 0] 65);simpa using this)
 have BW:Hid (Below w.heap.size w w2):=Below.and (al2 _ _ _) b2
 obtain⟨g0,g1⟩:=X2.two
 obtain⟨g2,g3⟩:=X2.free
 have FIN:Hid (Ah (d+1) (setR w2 (w.heap.size+1) (.slice c1 GM.1.length y1) (.slice c2 GM.2.length y2)) (fun b=>F b∨w.heap.size<=b) (.slice c1 GM.1.length y1) GM.1/\Ao (setR w2 (w.heap.size+1) (.slice c1 GM.1.length y1) (.slice c2 GM.2.length y2)) (fun b=>F b∨w.heap.size<=b) (.slice c2 GM.2.length y2) GM.2.length (Ad GM.2)/\Below w.heap.size w (setR w2 (w.heap.size+1) (.slice c1 GM.1.length y1) (.slice c2 GM.2.length y2))/\Aj (setR w2 (w.heap.size+1) (.slice c1 GM.1.length y1) (.slice c2 GM.2.length y2)) (w.heap.size+1) #[.slice c1 GM.1.length y1, .slice c2 GM.2.length y2]):=by
  have D:∀h,(F h/\h<w.heap.size)∨w.heap.size+2<=h->¬h=w.heap.size+1:=fun h hh e=>by rcases hh with⟨_,hh⟩|hh<;>omega
  have M1:∀h,(F h/\h<w.heap.size)∨w.heap.size+2<=h->F h∨w.heap.size<=h:=fun h hh=>hh.imp And.left (fun k=>by omega)
  exact⟨(t1.chg (AD w2 (w.heap.size+1) _ _) (fun h k=>D h k)).mono M1,(t2.chg (AD w2 (w.heap.size+1) _ _) (fun h k=>D h k)).mono M1,(BW.out.setCell (p:=⟨w.heap.size+1,0,none⟩) (Nat.le_succ _) _).setCell (p:=⟨w.heap.size+1,1,none⟩) (Nat.le_succ _) _,X2.set2 _ _⟩
 clear t1 t2 b2 X2 GF;go_wp2;have ZZ:=FIN.out.2.2.2.two
 exact bodyPost_ret (v:= .agg #[.slice c1 GM.1.length y1, .slice c2 GM.2.length y2]) (by simp[results,Tryz.results31,go_sem,ZZ.1,ZZ.2]) rfl ⟨_,_,rfl,FIN.out.1,FIN.out.2.1,FIN.out.2.2.1⟩

theorem Nm:∀d,Nz d
 |0=>fun _ _ _ _ _ _ _ _ ht _ _ _ _ _=>ht.elim
 |d+1=>fun F x T vm ms lo hi w ht hm hT hms h0 hn=>by
  cases hl:T.leaf
  ·by_cases hd:0<d
   ·exact R6 d hd (Nm d) F x T vm ms lo hi w ht hm hT hms hl hn
   ·exfalso
    obtain rfl:d=0:=by omega
    obtain⟨hfo,hseg⟩:=Rt.kids hT hl
    obtain⟨o1,o2,o3,o4,o5,o6⟩:=Be hfo
    obtain⟨-, -, -, -,xs,hx,_,hk⟩:=ht.parts
    exact hk 0 (by have:=o2.1;omega)
  ·have h1:AK (d+1) T lo hi≠0:=by omega
   have hlo:=Bf h1 hl
   rw[Da hl,if_pos hlo] at hT
   obtain rfl:d=0:=by omega
   obtain⟨_,h4,_⟩:=Cb hlo
   rw[Ae,if_pos hl]
   exact OD F x T vm ms w ht hm hl (by omega)
end
section
open Go.RowKit
end
section
open Go.RowKit
end
section
open Go.RowKit
end
section
open Go.RowKit
end
section
open Go.RowKit

theorem Kn:∀(m:Nat) (T:Tr) (lo up:Int),AK m T lo up≠0->AK (AK m T lo up) T lo up=AK m T lo up
 |0,_,_,_,h=>absurd rfl h
 |m+1,T,lo,up,h=>by
  cases hl:T.leaf
  ·have hk:=A0 h hl
   have hp:=Be hk.1
   have e:=Dw (m:=m) hl hk.1
   have same:∀i,i<T.kids.length->Cw m T lo up i=Cw m T lo up 0:=fun i hi=>by
    rcases Nat.decEq (Cw m T lo up i) (Cw m T lo up 0) with hne|he
    ·exact absurd (e.trans (GL hi hne)) h
    ·exact he
   have he:=FN (d:=Cw m T lo up) (n:=T.kids.length) (hk.2 0 (by omega)) same
   rw[e,he,Dw hl hk.1]
   have ih:∀i,i<T.kids.length->Cw (Cw m T lo up 0) T lo up i=Cw m T lo up 0:=fun i hi=>by
    have:=Kn m (AQ T i) (Dl T lo i) (toT T up i) (hk.2 i hi)
    have s:=same i hi
    unfold Cw at s ⊢
    rw[s] at this
    exact this
   rw[FN (d:=Cw (Cw m T lo up 0) T lo up) (n:=T.kids.length) (by rw[ih 0 (by omega)];exact hk.2 0 (by omega)) (fun i hi=>by rw[ih i hi,ih 0 (by omega)]),ih 0 (by omega)]
  ·have hp:=Bf h hl
   rw[Da hl,if_pos hp,Da hl,if_pos hp]
theorem Vy {T:Tr} (h:okT T=true):AK (Av T) T 0 1000=Av T:=by
 refine Kn 7 T 0 1000 (fun e=> ?_)
 unfold okT at h;have:=of_decide_eq_true h
 unfold Av at this;omega
theorem OH (args:Array Value) (w:World):(callFunc 30 args).run Tryz.prog w= .ok (.enter 30 args) w:=by go_simp
theorem JG (args:Array Value) (w:World):(callFunc 29 args).run Tryz.prog w= .ok (.enter 29 args) w:=by go_simp
end
section
open Go.RowKit

theorem Bg {P:Program} {ops:Array Oper} {o:Oper} {a:Act} {K:Act->World->Prop} {Q:Exit->Act->World->Prop} {E:Prop} {w:World} {R:Ending->World->Prop} (hgd:o.guard=none) (f:FuncId) (xs:List Operand) (ats:Array TypeId)
  (ho:o.op= .call { callee:= .value (.func f),args:=xs.toArray,argTypes:=ats }) (hrun:∀args w,(callFunc f args).run P w= .ok (.enter f args) w) (args:List Value) (he:xs.map a.eval=args)
  (h:Calls P f args.toArray w R) (hk:∀e w',R e w' ->∃v,e= .returned v/\K (a.put o.dst v) w') :
  if Region.wanted o (yielded ops a.tmps)=true then Oper.wp P o a w K Q else E:=by
 have hw:Region.wanted o (yielded ops a.tmps)=true:=by simp[Region.wanted,hgd]
 rw[if_pos hw]
 have ef:a.eval (.func f)= .func (.func f) #[] #[]:=rfl
 have hx:execOp a.eval o=callFunc f args.toArray:=by
  unfold execOp;simp[ho,resolve,Deferred.ofValue,invoke,ef,he]
 unfold Oper.wp
 rw[hx,hrun,Oper.upon_enter]
 refine Calls.mono h ?_
 intro e w' hr;obtain⟨v,rfl,hk⟩:=hk e w' hr
 exact hk

theorem Kt (args:Array Value) (w:World):(callFunc 39 args).run Tryz.prog w= .ok (.enter 39 args) w:=by go_simp
theorem It (args:Array Value) (w:World):(callFunc 38 args).run Tryz.prog w= .ok (.enter 38 args) w:=by go_simp
theorem QD (args:Array Value) (w:World):(callFunc 37 args).run Tryz.prog w= .ok (.enter 37 args) w:=by go_simp
end
end Go.Proofs.YtadmomgdacfgpaaGreat
