/-
  The contract of the program's give, at every depth.
  The program's drained: its function, and a leaf.
  The program's kidByKid, for drained's function.
  The contract of the program's drained.
  The contract of the model's Drain.
  A call in a region by the callee's contract, without a walk.
  The program's Drain.
  What Inject makes of a tree is what is done to its map, as long as there are few leaves and messages; plain mathematics.
  The program's MapDo.
  A tree's five cells as one list: whole loads and stores.
-/
import Derived.Test.YtadmomgdacfgpaaGreatOfInjd34
import Derived.Test.YtadmomgdacfgpaaGreatOfInjd37
import Derived.Test.YtadmomgdacfgpaaGreatOfInjd25
import Derived.Test.YtadmomgdacfgpaaGreatOfInjd30
import Derived.Test.YtadmomgdacfgpaaGreatOfInjd24
import Derived.Test.YtadmomgdacfgpaaGreatOfInjd1
import Derived.WalkKit
import Derived.Deep.RegionHeld3
import Derived.Test.YtadmomgdacfgpaaGreatOfInjd10
import Derived.Test.YtadmomgdacfgpaaGreatOfInjd12
import Derived.Test.YtadmomgdacfgpaaGreatOfInjd18
import Derived.Deep.MidRow
import Derived.Laws.Rows
namespace Go.Proofs.YtadmomgdacfgpaaGreat
set_option maxRecDepth 100000
set_option maxHeartbeats 8000000
section
open Go.RowKit

theorem Qz (d:Nat) (hd:0<d) (H:MC d) (F:Nat->Prop) (y:TV) (T:Tr) (vm:Value) (ms:ML) (lo hi:Int) (w:World) (ht:Au (d+1) w F y T) (hm:Row w vm ms.length (Af ms)) (hT:AE (d+1) T lo hi=d+1) (hms:EU lo hi ms) (hl:T.leaf=false) (hn:wt (d+1) T+ms.length<=100000) :
  Calls Tryz.prog 31 #[y.val,vm] w fun e w' =>∃v1 v2,e= .returned (.agg #[v1,v2])/\Ah (d+1) w' (fun b=>F b∨w.heap.size<=b) v1 (Ac (d+1) T ms).1/\An w' (fun b=>F b∨w.heap.size<=b) v2 (Ac (d+1) T ms).2.length (Ad (Ac (d+1) T ms).2)/\Below w.heap.size w w' :=by
 obtain⟨r1,r2,r3,r4,s1,s2,s3,s4,hy⟩:=ht.treeAt.shape
 obtain⟨a5,q5,hvm,_⟩:=hm.len
 have GF:Hid (∀w1,Below w.heap.size w w1->Calls Tryz.prog 66 #[y.val,vm] w1 _):=fun w1 hb=>NQ d hd H (fun g=>F g/\g<w.heap.size) y T vm ms lo hi w1 (ht.lt.below hb) (hm.below hb) hT hms hl hn
 clear ht hm;rw[hy,hl] at GF ⊢
 subst hvm;change Hid (∀w1,Below w.heap.size w w1->Calls Tryz.prog 66 #[.agg #[.bool false, .slice r1 T.pairs.length s1, .slice r2 T.cuts.length s2, .slice r3 T.kids.length s3, .slice r4 T.buf.length s4], .slice a5 ms.length q5] w1 _) at GF
 show Calls Tryz.prog 31 #[.agg #[.bool false, .slice r1 T.pairs.length s1, .slice r2 T.cuts.length s2, .slice r3 T.kids.length s3, .slice r4 T.buf.length s4], .slice a5 ms.length q5] w _
 clear hy hT hms hl hn;generalize Ac (d+1) T ms=GM at *
 generalize T.cuts.length=z2 at *
 generalize T.kids.length=z3 at *
 generalize T.buf.length=z4 at *
 generalize T.pairs.length=z1 at *
 generalize ms.length=nm at *
 have hs:∀A B e f,((w.alloc (.cells A e)).alloc (.cells B f)).heap.size=w.heap.size+2:=fun A B e f=>by simp
 go_enter Tryz.func31,Tryz.ntmps31
 go_wp2_with fail;refine Calls.mono (GF.out _ (al2 _ _ _)) ?_
 rintro e w2 ⟨v1,v2,rfl,t1,t2,b2⟩
 rw[hs] at t1 t2
 obtain⟨c1,y1,hv1,_⟩:=t1.els.choose_spec.2.row.len
 obtain⟨c2,y2,hv2,_⟩:=t2.row.len
 subst hv1 hv2;have X2:Ai w2 (w.heap.size+1) #[.slice none 0 0, .slice none 0 0]:=(b2.block (w.heap.size+1) (by simp)).trans (by have:=heap_alloc_new (w.alloc (.cells #[.bool false, .slice r1 z1 s1, .slice r2 z2 s2, .slice r3 z3 s3, .slice r4 z4 s4] 30)) (.cells #[.slice none 0 0, .slice none 0 0] 65);simpa using this)
 have BW:Hid (Below w.heap.size w w2):=Below.and (al2 _ _ _) b2
 obtain⟨g0,g1⟩:=X2.two
 obtain⟨g2,g3⟩:=X2.free
 have FIN:Hid (Ah (d+1) (setR w2 (w.heap.size+1) (.slice c1 GM.1.length y1) (.slice c2 GM.2.length y2)) (fun b=>F b∨w.heap.size<=b) (.slice c1 GM.1.length y1) GM.1/\An (setR w2 (w.heap.size+1) (.slice c1 GM.1.length y1) (.slice c2 GM.2.length y2)) (fun b=>F b∨w.heap.size<=b) (.slice c2 GM.2.length y2) GM.2.length (Ad GM.2)/\Below w.heap.size w (setR w2 (w.heap.size+1) (.slice c1 GM.1.length y1) (.slice c2 GM.2.length y2))/\Ai (setR w2 (w.heap.size+1) (.slice c1 GM.1.length y1) (.slice c2 GM.2.length y2)) (w.heap.size+1) #[.slice c1 GM.1.length y1, .slice c2 GM.2.length y2]):=by
  have D:∀h,(F h/\h<w.heap.size)∨w.heap.size+2<=h->¬h=w.heap.size+1:=fun h hh e=>by rcases hh with⟨_,hh⟩|hh<;>omega
  have M1:∀h,(F h/\h<w.heap.size)∨w.heap.size+2<=h->F h∨w.heap.size<=h:=fun h hh=>hh.imp And.left (fun k=>by omega)
  exact⟨(t1.chg (AA w2 (w.heap.size+1) _ _) (fun h k=>D h k)).mono M1,(t2.chg (AA w2 (w.heap.size+1) _ _) (fun h k=>D h k)).mono M1,(BW.out.setCell (p:=⟨w.heap.size+1,0,none⟩) (Nat.le_succ _) _).setCell (p:=⟨w.heap.size+1,1,none⟩) (Nat.le_succ _) _,X2.set2 _ _⟩
 clear t1 t2 b2 X2 GF;go_wp2;have ZZ:=FIN.out.2.2.2.two
 exact bodyPost_ret (v:= .agg #[.slice c1 GM.1.length y1, .slice c2 GM.2.length y2]) (by simp[results,Tryz.results31,go_sem,ZZ.1,ZZ.2]) rfl ⟨_,_,rfl,FIN.out.1,FIN.out.2.1,FIN.out.2.2.1⟩

theorem Mw:∀d,MC d
 |0=>fun _ _ _ _ _ _ _ _ ht _ _ _ _ _=>ht.elim
 |d+1=>fun F x T vm ms lo hi w ht hm hT hms h0 hn=>by
  cases hl:T.leaf
  ·by_cases hd:0<d
   ·exact Qz d hd (Mw d) F x T vm ms lo hi w ht hm hT hms hl hn
   ·exfalso
    obtain rfl:d=0:=by omega
    obtain⟨hfo,hseg⟩:=Rt.kids hT hl
    obtain⟨o1,o2,o3,o4,o5,o6⟩:=Br hfo
    obtain⟨-, -, -, -,xs,hx,_,hk⟩:=ht.parts
    exact hk 0 (by have:=o2.1;omega)
  ·have h1:AE (d+1) T lo hi≠0:=by omega
   have hlo:=Cc h1 hl
   rw[Cu hl,if_pos hlo] at hT
   obtain rfl:d=0:=by omega
   obtain⟨_,h4,_⟩:=DF hlo
   rw[Ac,if_pos hl]
   exact NB F x T vm ms w ht hm hl (by omega)
end
section
open Go.RowKit
end
section
open Go.RowKit
end
section
open Go.RowKit
end
section
open Go.RowKit
end
section
open Go.RowKit

theorem Kj {P:Program} {o:Oper} {a:Act} {K:Act->World->Prop} {Q:Exit->Act->World->Prop} {w:World} {R:Ending->World->Prop} (f:FuncId) (xs:List Operand) (ats:Array TypeId)
  (ho:o.op= .call { callee:= .value (.func f),args:=xs.toArray,argTypes:=ats }) (hrun:∀args w,(callFunc f args).run P w= .ok (.enter f args) w) (args:List Value) (he:xs.map a.eval=args)
  (h:Calls P f args.toArray w R) (hk:∀e w',R e w' ->∃v,e= .returned v/\K (a.put o.dst v) w'):o.wp P a w K Q:=by
 have ef:a.eval (.func f)= .func (.func f) #[] #[]:=rfl
 have hx:execOp a.eval o=callFunc f args.toArray:=by
  unfold execOp;simp[ho,resolve,Deferred.ofValue,invoke,ef,he]
 unfold Oper.wp
 rw[hx,hrun,Oper.upon_enter]
 refine Calls.mono h ?_
 intro e w' hr;obtain⟨v,rfl,hk⟩:=hk e w' hr
 exact hk
end
section
open Go.RowKit

theorem JE:∀(m:Nat) (T:Tr) (lo up:Int),AE m T lo up≠0->AE (AE m T lo up) T lo up=AE m T lo up
 |0,_,_,_,h=>absurd rfl h
 |m+1,T,lo,up,h=>by
  cases hl:T.leaf
  ·have hk:=BJ h hl
   have hp:=Br hk.1
   have e:=Cv (m:=m) hl hk.1
   have same:∀i,i<T.kids.length->Cm m T lo up i=Cm m T lo up 0:=fun i hi=>by
    rcases Nat.decEq (Cm m T lo up i) (Cm m T lo up 0) with hne|he
    ·exact absurd (e.trans (Gk hi hne)) h
    ·exact he
   have he:=EZ (d:=Cm m T lo up) (n:=T.kids.length) (hk.2 0 (by omega)) same
   rw[e,he,Cv hl hk.1]
   have ih:∀i,i<T.kids.length->Cm (Cm m T lo up 0) T lo up i=Cm m T lo up 0:=fun i hi=>by
    have:=JE m (Ba T i) (Da T lo i) (toT T up i) (hk.2 i hi)
    have s:=same i hi
    unfold Cm at s ⊢
    rw[s] at this
    exact this
   rw[EZ (d:=Cm (Cm m T lo up 0) T lo up) (n:=T.kids.length) (by rw[ih 0 (by omega)];exact hk.2 0 (by omega)) (fun i hi=>by rw[ih i hi,ih 0 (by omega)]),ih 0 (by omega)]
  ·have hp:=Cc h hl
   rw[Cu hl,if_pos hp,Cu hl,if_pos hp]
theorem Pr {T:Tr} (h:okT T=true):AE (Al T) T 0 1000=Al T:=by
 refine JE 7 T 0 1000 (fun e=> ?_)
 unfold okT at h;have:=of_decide_eq_true h
 unfold Al at this;omega
theorem NK (args:Array Value) (w:World):(callFunc 30 args).run Tryz.prog w= .ok (.enter 30 args) w:=by go_simp
theorem Jm (args:Array Value) (w:World):(callFunc 29 args).run Tryz.prog w= .ok (.enter 29 args) w:=by go_simp
end
section
variable {d:Nat} {f:Int->Int × Bool}

theorem Seg.mok {m:TM} {lo hi:Int} (a:Seg d f lo hi m.2 m.1) (hd:0<d):MOk d m:=⟨a.len,fun t ht=>by
 obtain⟨i,hi0,rfl⟩:=List.getElem_of_mem ht
 have e:=(a.at i hi0).1
 have e2:m.1.getD i Am=m.1[i]:=by simp[List.getD,hi0]
 rw[e2] at e
 have:=Em (m:=d) (T:=m.1[i]) (lo:=frC m.2 lo i) (up:=toC m.2 hi i) (by omega)
 rw[e] at this
 exact this⟩
theorem Rt.root {lo hi:Int}:∀(n d:Nat) (m:TM),Seg d f lo hi m.2 m.1->0<d->m.1.length<=n->∃e,d<=e/\Rt e f lo hi (Bt n m)
 |0,d,m,a,hd,hn=>absurd a.len (by omega)
 |n+1,d,m,a,hd,hn=>by
  have hl:=a.len
  rw[Bt]
  by_cases h:4<m.1.length
  ·rw[if_pos h]
   have hp:=(Gn (a.mok hd) (by omega)).2.2
   obtain⟨e,e1,e2⟩:=Rt.root n (d+1) (Cs m) (a.pack hd (by omega)) (by omega) (by omega)
   exact⟨e,by omega,e2⟩
  ·rw[if_neg h]
   by_cases h1:m.1.length=1
   ·rw[if_pos h1]
    have h2:=a.at 0 (by omega)
    have h3:m.2.length=0:=by omega
    have e1:frC m.2 lo 0=lo:=if_pos rfl
    have e2:toC m.2 hi 0=hi:=if_neg (by omega)
    rw[e1,e2] at h2
    exact⟨d,Nat.le_refl _,h2⟩
   ·rw[if_neg h1]
    exact⟨d+1,by omega,Rt.fork0 a hd (by omega) (by omega)⟩
theorem Rf:∀ {d:Nat} {T:Tr},shT d T->2^d<=2*wt d T
 |0,_,h=>h.elim
 |d+1,T,h=>by
  rcases h with⟨h,rfl,_⟩|⟨h1,_,h2,_,_,_,h3⟩
  ·rw[wt,if_pos h];decide
  ·rw[wt,if_neg (by rw[h1];simp)]
   match hk:T.kids with
   |[]=>rw[hk] at h2;simp at h2
   |[_]=>rw[hk] at h2;simp at h2
   |t::u::l=>
    have a:=Rf (h3 t (by rw[hk];simp))
    have b:=Rf (h3 u (by rw[hk];simp))
    simp only[List.map_cons,List.sum_cons]
    rw[Nat.pow_succ]
    omega
theorem Rs:∀ {a b:Nat} {T:Tr},shT a T->shT b T->a=b
 |0,_,_,h,_=>h.elim
 |_+1,0,_,_,h=>h.elim
 |a+1,b+1,T,h,g=>by
  rcases h with⟨h,rfl,_⟩|⟨h1,_,h2,_,_,_,h3⟩
  ·rcases g with⟨_,rfl,_⟩|⟨g1,_⟩
   ·rfl
   ·rw[h] at g1;cases g1
  ·rcases g with⟨g,_⟩|⟨_,_,_,_,_,_,g3⟩
   ·rw[h1] at g;cases g
   ·have:=Rs (h3 _ (BT (i:=0) (by omega))) (g3 _ (BT (i:=0) (by omega)))
    omega
theorem Lt {e:Nat} {T:Tr} {lo hi:Int} (h:AE (e+1) T lo hi=e+1) (hl:T.leaf=false) :
  Bn T lo hi=true/\0<e/\∀i,i<T.kids.length->AE e (Ba T i) (Da T lo i) (toT T hi i)=e:=by
 have hk:=BJ (m:=e) (T:=T) (lo:=lo) (hi:=hi) (by omega) hl
 have h1:=Cv (m:=e) hl hk.1
 rw[h] at h1
 have h2:=P7 h1.symm
 refine⟨hk.1, ?_,h2⟩
 have h3:=(Br hk.1).2.1.1
 have h4:=hk.2 0 (by omega)
 have h5:=h2 0 (by omega)
 unfold Cm at h5;omega
theorem JS:∀(e:Nat) (T:Tr) (lo hi:Int),AE e T lo hi=e->0<e->∀n,e<=n->AE n T lo hi=e
 |0,_,_,_,_,h0,_,_=>absurd h0 (by omega)
 |e+1,T,lo,hi,h,_,0,hn=>by omega
 |e+1,T,lo,hi,h,_,n+1,hn=>by
  cases hl:T.leaf
  ·obtain⟨k1,k2,k3⟩:=Lt h hl
   have k4:=(Br k1).2.1.1
   have ih:∀i,i<T.kids.length->Cm n T lo hi i=e:=fun i hi0=>JS e _ _ _ (k3 i hi0) k2 n (by omega)
   rw[Cv hl k1,EZ (by rw[ih 0 (by omega)];omega) (fun i hi0=>by rw[ih i hi0,ih 0 (by omega)]),ih 0 (by omega)]
  ·rw[Cu hl] at h ⊢
   exact h
theorem Jz:∀(e:Nat) (T:Tr) (lo hi:Int),AE e T lo hi=e->0<e->∀n,e<=n->∀k,FW n T k=FW e T k
 |0,_,_,_,_,h0,_,_,_=>absurd h0 (by omega)
 |e+1,T,lo,hi,h,_,0,hn,_=>by omega
 |e+1,T,lo,hi,h,_,n+1,hn,k=>by
  cases hl:T.leaf
  ·obtain⟨k1,k2,k3⟩:=Lt h hl
   rw[Fr hl,Fr hl]
   have:=Jz e _ _ _ (k3 (AH T.cuts k) (NP k1 k)) k2 n (by omega) k
   show Eh (FW n (Ba T (AH T.cuts k)) k) _=Eh (FW e (Ba T (AH T.cuts k)) k) _
   rw[this]
  ·rw[Fs hl,Fs hl]

def wtT (T:Tr):Nat:=wt (Al T) T

theorem VE {T:Tr} (hok:okT T=true) (hw:wtT T<=120) {o k v:Int} (hm:AJ o k v=true) (ho:o≠4) :
  okT (Du T (o,k,v))=true/\wtT (Du T (o,k,v))<=wtT T+1/\Dt (Du T (o,k,v))=doL (Dt T) (o,k,v):=by
 obtain⟨hsh,hd7,_⟩:=JI hok
 have hd:=Pr hok
 have hpos:0<Al T:=by unfold okT at hok;exact of_decide_eq_true hok
 have hin:=Cw hm
 have hms:EU 0 1000 [(o,k,v)]:=fun m h=>by
  rw[List.mem_singleton.1 h]
  exact⟨⟨hm,ho⟩,hin.2.1.1,by have:=hin.2.1.2;show k<1000;omega⟩
 have hseg:Seg (Al T) (fun j=>Eh (FW (Al T) T j) (ofK [(o,k,v)] j)) 0 1000 (Ac (Al T) T [(o,k,v)]).2 (Ac (Al T) T [(o,k,v)]).1:=by
  obtain⟨e,he⟩:∃e,Al T=e+1:=⟨Al T-1,by omega⟩
  rw[he] at hd ⊢
  exact MX e T _ 0 1000 hd hms
 obtain⟨e,e1,e2⟩:=Rt.root _ _ _ hseg hpos (Nat.le_refl _)
 have hgr:=(BE _ _ [(o,k,v)] hsh (by simp)).2
 obtain⟨hmok,hwl⟩:=BE _ _ [(o,k,v)] hsh (by simp)
 obtain⟨e',_,_,s3,s4⟩:=LZ _ _ _ hmok (Nat.le_refl _)
 change Rt e _ 0 1000 (Cg (Ac (Al T) T [(o,k,v)])) at e2
 change shT e' (Cg (Ac (Al T) T [(o,k,v)])) at s3
 change wt e' (Cg (Ac (Al T) T [(o,k,v)]))<=_ at s4
 simp only[List.length_cons,List.length_nil] at hwl
 have hsh2:shT e (Cg (Ac (Al T) T [(o,k,v)])):=by
  have:=Em (m:=e) (T:=Cg (Ac (Al T) T [(o,k,v)])) (lo:=0) (up:=1000) (by rw[e2.1];omega)
  rwa [e2.1] at this
 have hee:e=e' :=Rs hsh2 s3
 subst hee;have hw2:wt e (Cg (Ac (Al T) T [(o,k,v)]))<=wtT T+1:=Nat.le_trans s4 hwl
 have he7:e<=7:=by
  have h1:=Rf hsh2
  rcases Nat.lt_or_ge 7 e with h|h
  ·have:2^8<=2^e:=Nat.pow_le_pow_right (by decide) h
   omega
  ·exact h
 have hD:Al (Cg (Ac (Al T) T [(o,k,v)]))=e:=JS e _ _ _ e2.1 (by omega) 7 he7
 have hok2:okT (Cg (Ac (Al T) T [(o,k,v)]))=true:=by
  unfold okT;rw[hD]
  exact decide_eq_true (by omega)
 have hI:Du T (o,k,v)=Cg (Ac (Al T) T [(o,k,v)]):=by
  rw[Du,if_pos ⟨hok,hm,ho⟩,if_pos hok2]
 rw[hI]
 refine⟨hok2,by unfold wtT at hw2 ⊢;rw[hD];exact hw2, ?_⟩
 have m1:=Ho T
 have m2:=Ho (Cg (Ac (Al T) T [(o,k,v)]))
 refine Np m2.1 (IH m1 _).1 fun j=> ?_
 have v1:∀S:Tr,okT S=true->∀j,Aw (Dt S) j=FW 7 S j:=fun S h j=>by
  unfold Dt;rw[if_pos h]
  exact(IL (Gp h)).2.2 j
 by_cases hj:0<=j/\j<1000
 ·rw[v1 _ hok2,Jz e _ _ _ e2.1 (by omega) 7 he7,e2.2 j hj.1 hj.2]
  have v2:FW (Al T) T j=Aw (Dt T) j:=by
   rw[v1 _ hok,Jz _ _ _ _ hd hpos 7 hd7]
  show Eh (FW (Al T) T j) (ofK [(o,k,v)] j)=_
  rw[v2]
  by_cases hjk:j=k
  ·subst hjk;rw[H7 m1]
   simp[ofK,Eh]
  ·rw[MJ hjk]
   have:ofK [(o,k,v)] j=[]:=by
    simp only[ofK,List.filter_cons,List.filter_nil]
    rw[if_neg]
    simp only[decide_eq_true_eq]
    omega
   rw[this]
   rfl
 ·rw[Kg,Kg]
  ·intro p hp e;have:=((IH m1 (o,k,v)).2 p hp).1
   omega
  ·intro p hp e;have:=(m2.2 p hp).1
   omega
end
section
open Go.RowKit

theorem Mf (va:Value) (l:PL) (o k v:Int) (w:World) (h:Row w va l.length (Aq l)) (hn:l.length<=2097000) :
  Calls Tryz.prog 10 #[va, .agg #[.int .i64 o, .int .i64 k, .int .i64 v]] w fun e w' =>∃v',e= .returned v' ∧w'.ownsRow w.heap.size 41 2 v' (doL l (o,k,v)).length (Aq (doL l (o,k,v)))/\Below w.heap.size w w' :=by
 have RW:Hid (Row w va l.length (Aq l)):=h
 clear h;go_enter Tryz.func10,Tryz.ntmps10
 go_wp2_with fail;have b0:Below w.heap.size w ((w.alloc (.cells #[.int .i64 o, .int .i64 k, .int .i64 v] 35)).alloc (.cells #[.int .i64 o, .int .i64 k, .int .i64 v] 35)):=((Below.refl _ _).alloc (Nat.le_refl _) _).alloc (by simp) _
 have RM:Row ((w.alloc (.cells #[.int .i64 o, .int .i64 k, .int .i64 v] 35)).alloc (.cells #[.int .i64 o, .int .i64 k, .int .i64 v] 35)) (.slice (some ⟨w.heap.size+1,0,none⟩) 1 1) [(o,k,v)].length (Af [(o,k,v)]):=by
  refine⟨some ⟨w.heap.size+1,0,none⟩,w.heap.size+1,0,1,rfl,Nat.le_refl _,by decide,fun _=>rfl,fun j u hj=> ?_,fun h=>by cases h⟩
  have hB:((w.alloc (.cells #[.int .i64 o, .int .i64 k, .int .i64 v] 35)).alloc (.cells #[.int .i64 o, .int .i64 k, .int .i64 v] 35)).heap[w.heap.size+1]? =some (.cells #[.int .i64 o, .int .i64 k, .int .i64 v] 35 (0,0)):=by
   rw[show w.heap.size+1=(w.alloc (.cells #[.int .i64 o, .int .i64 k, .int .i64 v] 35)).heap.size by simp];exact heap_alloc_new _ _
  rw[Nat.zero_add,Ae hB]
  simpa[Af] using hj
 refine(Fy va _ l [(o,k,v)] _ (RW.out.below b0) RM (by simp;omega)).mono ?_
 rintro e w1 ⟨v1,rfl,o1,b1⟩
 have FIN:Hid _:=And.intro (AK o1 b0.size) (Below.and b0 b1)
 clear o1 b1 b0 RM;go_wp2;go_ret;exact⟨_,rfl,FIN.out.1,FIN.out.2⟩
end
section
open Go.RowKit

theorem Wl {w:World} {b:Nat} {A:Array Value} {t:TypeId} (h:w.heap[b]? =some (.cells A t (0,0))) {k:Nat} (hk:A.size=k):w.there b 0 k:=fun j hj=>by
 subst hk;rw[Nat.zero_add,cell_of_row _ _ j _ t (0,0) h]
 exact⟨by simp[hj],frozen_of_row w b j A t h⟩
theorem WP {cur:Array Value} {vs:List Value} (h:cur.size=vs.length):spl cur 0 vs=vs.toArray:=by
 have:=Dv vs cur 0 (by omega)
 simp only[List.take_zero,List.nil_append,Nat.zero_add] at this
 rw[List.drop_eq_nil_of_le (by simp;omega),List.append_nil] at this
 apply Array.ext'
 simpa using this
theorem WL {W:World} {R:Nat} {t:TypeId} {A:Array Value} (h:W.heap[R]? =some (.cells A t (0,0))) (vs:List Value) (hn:A.size=vs.length):(W.setCells R 0 vs).heap[R]? =some (.cells vs.toArray t (0,0)):=by
 have:=Bj R t vs 0 W A h
 rw[WP hn] at this
 exact this
def zcs:List Value:=[.bool false, .slice none 0 0, .slice none 0 0, .slice none 0 0, .slice none 0 0]
def Bx (w:World) (b:Nat) (cs:List Value):Prop:=w.heap[b]? =some (.cells cs.toArray 30 (0,0))/\cs.length=5
end
end Go.Proofs.YtadmomgdacfgpaaGreat
