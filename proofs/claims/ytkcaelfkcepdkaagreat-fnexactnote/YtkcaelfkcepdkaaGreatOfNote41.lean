/-
  What Note makes of a world; a world of its own takes one more command, one more lead, a node in another's place.
  A world that is noted in, under way: where it lies, and what stays as it was.
  MachineOk of the model.
  What NodeOk tells, as a plain function; the model's NodeOk.
  MachineOk of the program.
  LogOk of the program.
  The program's NodeOk.
-/
import Derived.Test.YtkcaelfkcepdkaaGreatOfNote40
import Derived.Test.YtkcaelfkcepdkaaGreatOfNote22
import Derived.Test.YtkcaelfkcepdkaaGreatOfNote3
import Derived.Test.YtkcaelfkcepdkaaGreatOfNote7
import Derived.BigQuiet
import Derived.Deep.DeepCutAuto
import Derived.Deep.CutBlock
import Derived.Deep.QuietTactic
import Derived.Test.YtkcaelfkcepdkaaGreatOfNote5
import Derived.Test.YtkcaelfkcepdkaaGreatOfNote4
namespace Go.Proofs.YtkcaelfkcepdkaaGreat
set_option maxRecDepth 100000
set_option maxHeartbeats 8000000
section
open Go.RowKit

def Ct (e:En):Ex:=e.2
def ntK (c:Nat) (cm:Int):Nat:=if min cm 2000<=(c:Int) then 0 else (min cm 2000-(c:Int)).toNat
def ntC (b cm:Int) (l:EL) (c:Nat):List Ex:=((Bj b l ((c:Int)+1)).take (ntK c cm)).map Ct
def ntB (N P:AL) (q:Nat):Bool:=(N.ro==2&& !(P.ro==2&&P.te==N.te))&&decide (q<2000)
def ntL (N P:AL) (q:Nat):List Er:=if ntB N P q then [(N.te,N.id)] else []
def Wd.noted (D:Wd) (i:Nat) (N:AL) (DN:Nd):Wd:=⟨D.ns.set i (N,DN),D.rs,D.cs++ntC N.lb N.cm DN.l D.cs.length,D.ds,D.ls++ntL N (D.ns.getD i Ap).1 D.ls.length⟩
def Wd.note (D:Wd) (sz i:Int) (N:AL) (DN:Nd):Wd:=if inB i 0 (min sz D.ns.length-1) then D.noted i.toNat N DN else D
theorem MP (c:Nat) (cm:Int):ntK c cm<=2000:=by unfold ntK;split<;>omega
theorem Tg (b cm:Int) (l:EL) (c:Nat):(ntC b cm l c).length<=2000:=by
 unfold ntC;rw[List.length_map,List.length_take]
 exact Nat.le_trans (Nat.min_le_left _ _) (MP c cm)
theorem Bs.set {ε :Type} {lk: ε -> ε ->Prop} {a b:List ε} {x y: ε} (h:Bs lk a b) (k:lk x y) (i:Nat):Bs lk (a.set i x) (b.set i y):=by
 refine⟨by rw[List.length_set,List.length_set,h.1],fun j h1 h2=> ?_⟩
 rw[List.getElem_set,List.getElem_set]
 split
 ·exact k
 ·exact h.2 j (by simpa using h1) (by simpa using h2)
theorem Bs.getD {ε :Type} {lk: ε -> ε ->Prop} {a b:List ε} {d: ε} (h:Bs lk a b) {i:Nat} (hi:i<a.length):lk (a.getD i d) (b.getD i d):=by
 have hb:i<b.length:=by have:=h.1;omega
 simp only[List.getD,List.getElem?_eq_getElem hi,List.getElem?_eq_getElem hb,Option.getD_some]
 exact h.2 i hi hb
theorem Sn {N M P Q:AL} {q:Nat} (h:N.like M) (k:P.like Q):ntL N P q=ntL M Q q:=by
 obtain⟨a1,a2,a3,a4,a5,a6,a7⟩:=h
 obtain⟨b1,b2,b3,b4,b5,b6,b7⟩:=k
 unfold ntL ntB;rw[a1,a2,a6,b2,b6]
theorem Wd.noted_lk {D E:Wd} {N M:AL} {DN:Nd} {i:Nat} (h:D.like E) (k:N.like M) (hi:i<D.ns.length):(D.noted i N DN).like (E.noted i M DN):=by
 obtain⟨q1,q2,q3,q4,q5⟩:=h
 have e:=Sn (q:=D.ls.length) k (q1.getD (d:=Ap) hi).1
 have e0:=q1.set (x:=(N,DN)) (y:=(M,DN)) ⟨k,rfl⟩ i
 obtain⟨a1,a2,a3,a4,a5,a6,a7⟩:=k
 refine⟨e0,q2, ?_,q4, ?_⟩
 ·show D.cs++_=E.cs++_
  rw[q3,a4,a7]
 ·show D.ls++_=E.ls++_
  rw[e,q5]
theorem Wd.note_lk {D E:Wd} {N M:AL} {DN:Nd} {sz i:Int} (h:D.like E) (k:N.like M):(D.note sz i N DN).like (E.note sz i M DN):=by
 unfold Wd.note
 rw[←h.n.1]
 by_cases hb:inB i 0 (min sz D.ns.length-1)=true
 ·rw[if_pos hb,if_pos hb]
  have:=DX.1 hb
  exact Wd.noted_lk h k (by omega)
 ·rw[if_neg hb,if_neg hb]
  exact h

section
variable {ε :Type} {cs: ε ->List Value} {R:World->(Nat->Prop)-> ε ->Prop} {d: ε} {ty K:Nat} {w w4:World} {F H:Nat->Prop} {v:Value} {es:List ε} {f: ε}
theorem LsU.put (hR:DU R) (hcs:∀e,(cs e).length=K) (h:LsU cs R d ty K w F v es) (hF:∀g,F g->g<w.heap.size) (hb:Below w.heap.size w w4) (hf:R w4 H f) (hH:∀g,H g->w.heap.size<=g/\g<w4.heap.size) (i:Nat) (hi:i<es.length) :
  ∃g cap,v= .slice (some ⟨g,0,none⟩) es.length cap/\F g/\w4.there g (i*K) K/\LsU cs R d ty K (w4.setCells g (i*K) (cs f)) (fun q=>F q∨w.heap.size<=q/\q<w4.heap.size) v (es.set i f):=by
 obtain⟨k1,G,k2,k3,k4⟩:=h
 obtain⟨g,cap,hv,hc,hle⟩:=k1.1.pos (by omega)
 have hg:wrB v g:=⟨_,_,hv,hc⟩
 have hgF:=k1.2 g hg
 have hgw:=hF g hgF
 have o4:=k1.1.below hb
 rw[hv] at o4
 have o5:w4.ownsRow 0 ty K (.slice (some ⟨g,0,none⟩) es.length cap) es.length (es.map cs).flatten:=by
  rcases o4 with o|⟨o,_⟩
  ·exact o
  ·omega
 obtain⟨p1,p2⟩:=EO o5 (by rw[List.length_map]) (B8 hcs es) i hi (cs f) (hcs f)
 rw[←List.map_set] at p1
 have ch:Chg (fun b=>b=g) w4 (w4.setCells g (i*K) (cs f)):=Chg.setCells (F:=fun b=>b=g) (g:=g) (fun _=>rfl) (cs f) (i*K) _ (Chg.refl _ _)
 refine⟨g,cap,hv,hgF,p2,⟨⟨?_,fun q hq=> .inl (k1.2 q hq)⟩,fun j q=>if j=i then H q else G j q,fun j hj=> ?_,fun j k q hjk hk hq hq' => ?_,fun j q hj hq=> ?_⟩⟩
 ·rw[hv,List.length_set];exact .inl p1
 ·rw[List.length_set] at hj
  by_cases e:j=i
  ·subst e;simp only[if_true,List.getD,List.getElem?_set_self hi,Option.getD_some]
   exact hR _ _ _ _ _ hf ch (fun q hq e=>by have:=hH q hq;omega)
  ·have q:=hR _ _ _ _ _ (hR _ _ _ _ _ (k2 j hj) (Chg.of_below (F:=fun _=>False) hb) (fun _ _ e=>e)) ch (fun q hq e=>(k4 j q hj hq).2 (e ▸ hg))
   simp only[if_neg e,List.getD,List.getElem?_set_ne (Ne.symm e)] at q ⊢
   exact q
 ·rw[List.length_set] at hk
  by_cases e:j=i
  ·have e2:k≠i:=by omega
   simp only[if_pos e] at hq
   simp only[if_neg e2] at hq'
   have:=hF q (k4 k q hk hq').1
   have:=hH q hq
   omega
  ·simp only[if_neg e] at hq
   by_cases e2:k=i
   ·simp only[if_pos e2] at hq'
    have:=hF q (k4 j q (by omega) hq).1
    have:=hH q hq'
    omega
   ·simp only[if_neg e2] at hq'
    exact k3 j k q hjk hk hq hq'
 ·rw[List.length_set] at hj
  by_cases e:j=i
  ·simp only[if_pos e] at hq
   have q2:=hH q hq
   exact⟨.inr q2,fun hw=>by have:=hF q (k1.2 q hw);omega⟩
  ·simp only[if_neg e] at hq
   exact⟨.inl (k4 j q hj hq).1,(k4 j q hj hq).2⟩
end
section
variable {RN:World->(Nat->Prop)->BH->Prop} {RR:World->(Nat->Prop)->BU->Prop} {w w4 w5:World} {F H:Nat->Prop} {W:WrV} {D:Wd} {v' :Value}
theorem WrS.nod (h:WrS RN RR w F W D):Ac w 0 73 23 W.nv D.ns.length (D.ns.map Ax).flatten/\∀g,wrB W.nv g->F g:=by
 obtain⟨A,_,h2,o0,_⟩:=h
 exact⟨o0.1.1,fun g hg=>h2 0 g (o0.1.2 g hg)⟩
theorem WrS.cmd (h:WrS RN RR w F W D):Ac w 0 117 5 W.cv D.cs.length (D.cs.map AM).flatten/\∀g,wrB W.cv g->F g:=by
 obtain⟨A,_,h2,_,_,o2,_⟩:=h
 exact⟨o2.1,fun g hg=>h2 2 g (o2.2 g hg)⟩
theorem WrS.led (h:WrS RN RR w F W D):Ac w 0 121 2 W.lv D.ls.length (D.ls.map AN).flatten/\∀g,wrB W.lv g->F g:=by
 obtain⟨A,_,h2,_,_,_,_,o4⟩:=h
 exact⟨o4.1,fun g hg=>h2 4 g (o4.2 g hg)⟩
theorem WrS.snocC {fs:List Ex} (hN:DU RN) (hR:DU RR) (h:WrS RN RR w F W D) (hF:∀g,F g->g<w.heap.size) (hb:Below w.heap.size w w4)
  (ap:EB w4 0 117 5 W.cv (D.cs.length+fs.length) ((D.cs.map AM).flatten++(fs.map AM).flatten) v' w5):WrS RN RR w5 (fun g=>F g∨w.heap.size<=g/\g<w5.heap.size) ⟨W.sz,W.nv,W.rv,v',W.av,W.lv⟩ ⟨D.ns,D.rs,D.cs++fs,D.ds,D.ls⟩:=by
 obtain⟨A,h1,h2,o0,o1,o2,o3,o4⟩:=h
 obtain⟨a1,a2,a3,a4⟩:=ap
 have hs:=hb.size
 have nb:∀s,s≠2->∀g,A s g->¬wrB W.cv g:=fun s hs g hg e=>hs (h1 s 2 g hg (o2.2 g e))
 have cb:=Chg.of_below (F:=fun _=>False) hb
 have nw:∀g,wrB v' g->A 2 g∨2=2/\w.heap.size<=g/\g<w5.heap.size:=fun g hg=>(a4 g hg).elim (fun e=> .inl (o2.2 g e)) (fun e=> .inr ⟨rfl,by omega,(a1.lt g hg).2⟩)
 refine⟨fun s g=>A s g∨s=2/\w.heap.size<=g/\g<w5.heap.size,fun s t g a b=> ?_,fun s g a=> ?_, ?_, ?_, ?_, ?_, ?_⟩
 ·rcases a with a|a<;>rcases b with b|b
  ·exact h1 s t g a b
  ·have:=hF g (h2 s g a);omega
  ·have:=hF g (h2 t g b);omega
  ·rw[a.1,b.1]
 ·rcases a with a|a
  ·exact .inl (h2 s g a)
  ·exact .inr a.2
 ·exact((o0.chg hN cb (fun _ _ e=>e)).chg hN a2 (nb 0 (by omega))).mono (fun g e=> .inl e)
 ·exact((o1.chg hR cb (fun _ _ e=>e)).chg hR a2 (nb 1 (by omega))).mono (fun g e=> .inl e)
 ·exact⟨by simpa using a1,nw⟩
 ·exact((o3.chg cb (fun _ _ e=>e)).chg a2 (nb 3 (by omega))).mono (fun g e=> .inl e)
 ·exact((o4.chg cb (fun _ _ e=>e)).chg a2 (nb 4 (by omega))).mono (fun g e=> .inl e)
theorem WrS.snocL {fs:List Er} (hN:DU RN) (hR:DU RR) (h:WrS RN RR w F W D) (hF:∀g,F g->g<w.heap.size) (hb:Below w.heap.size w w4)
  (ap:EB w4 0 121 2 W.lv (D.ls.length+fs.length) ((D.ls.map AN).flatten++(fs.map AN).flatten) v' w5):WrS RN RR w5 (fun g=>F g∨w.heap.size<=g/\g<w5.heap.size) ⟨W.sz,W.nv,W.rv,W.cv,W.av,v'⟩ ⟨D.ns,D.rs,D.cs,D.ds,D.ls++fs⟩:=by
 obtain⟨A,h1,h2,o0,o1,o2,o3,o4⟩:=h
 obtain⟨a1,a2,a3,a4⟩:=ap
 have hs:=hb.size
 have nb:∀s,s≠4->∀g,A s g->¬wrB W.lv g:=fun s hs g hg e=>hs (h1 s 4 g hg (o4.2 g e))
 have cb:=Chg.of_below (F:=fun _=>False) hb
 have nw:∀g,wrB v' g->A 4 g∨4=4/\w.heap.size<=g/\g<w5.heap.size:=fun g hg=>(a4 g hg).elim (fun e=> .inl (o4.2 g e)) (fun e=> .inr ⟨rfl,by omega,(a1.lt g hg).2⟩)
 refine⟨fun s g=>A s g∨s=4/\w.heap.size<=g/\g<w5.heap.size,fun s t g a b=> ?_,fun s g a=> ?_, ?_, ?_, ?_, ?_, ?_⟩
 ·rcases a with a|a<;>rcases b with b|b
  ·exact h1 s t g a b
  ·have:=hF g (h2 s g a);omega
  ·have:=hF g (h2 t g b);omega
  ·rw[a.1,b.1]
 ·rcases a with a|a
  ·exact .inl (h2 s g a)
  ·exact .inr a.2
 ·exact((o0.chg hN cb (fun _ _ e=>e)).chg hN a2 (nb 0 (by omega))).mono (fun g e=> .inl e)
 ·exact((o1.chg hR cb (fun _ _ e=>e)).chg hR a2 (nb 1 (by omega))).mono (fun g e=> .inl e)
 ·exact((o2.chg cb (fun _ _ e=>e)).chg a2 (nb 2 (by omega))).mono (fun g e=> .inl e)
 ·exact((o3.chg cb (fun _ _ e=>e)).chg a2 (nb 3 (by omega))).mono (fun g e=> .inl e)
 ·exact⟨by simpa using a1,nw⟩
theorem WrS.putN {f:BH} (hN:DU RN) (hR:DU RR) (h:WrS RN RR w F W D) (hF:∀g,F g->g<w.heap.size) (hb:Below w.heap.size w w4) (hf:RN w4 H f) (hH:∀g,H g->w.heap.size<=g/\g<w4.heap.size) (i:Nat) (hi:i<D.ns.length) :
  ∃g cap,W.nv= .slice (some ⟨g,0,none⟩) D.ns.length cap/\F g/\w4.there g (i*23) 23/\WrS RN RR (w4.setCells g (i*23) (Ax f)) (fun q=>F q∨w.heap.size<=q/\q<w4.heap.size) W ⟨D.ns.set i f,D.rs,D.cs,D.ds,D.ls⟩:=by
 obtain⟨A,h1,h2,o0,o1,o2,o3,o4⟩:=h
 obtain⟨g,cap,p1,p2,p3,p4⟩:=LsU.put (K:=23) hN (fun _=>rfl) o0 (fun g e=>hF g (h2 0 g e)) hb hf hH i hi
 have ch:Chg (fun b=>b=g) w4 (w4.setCells g (i*23) (Ax f)):=Chg.setCells (F:=fun b=>b=g) (g:=g) (fun _=>rfl) (Ax f) (i*23) _ (Chg.refl _ _)
 have cb:=Chg.of_below (F:=fun _=>False) hb
 have nb:∀s,s≠0->∀q,A s q->¬q=g:=fun s hs q hq e=>hs (h1 s 0 q hq (e ▸ p2))
 refine⟨g,cap,p1,h2 0 g p2,p3,fun s q=>A s q∨s=0/\w.heap.size<=q/\q<w4.heap.size,fun s t q a b=> ?_,fun s q a=> ?_, ?_, ?_, ?_, ?_, ?_⟩
 ·rcases a with a|a<;>rcases b with b|b
  ·exact h1 s t q a b
  ·have:=hF q (h2 s q a);omega
  ·have:=hF q (h2 t q b);omega
  ·rw[a.1,b.1]
 ·rcases a with a|a
  ·exact .inl (h2 s q a)
  ·exact .inr a.2
 ·exact p4.mono (fun q e=>e.elim .inl (fun e=> .inr ⟨rfl,e⟩))
 ·exact((o1.chg hR cb (fun _ _ e=>e)).chg hR ch (nb 1 (by omega))).mono (fun q e=> .inl e)
 ·exact((o2.chg cb (fun _ _ e=>e)).chg ch (nb 2 (by omega))).mono (fun q e=> .inl e)
 ·exact((o3.chg cb (fun _ _ e=>e)).chg ch (nb 3 (by omega))).mono (fun q e=> .inl e)
 ·exact((o4.chg cb (fun _ _ e=>e)).chg ch (nb 4 (by omega))).mono (fun q e=> .inl e)
end
end
section
open Go.RowKit

def NtG (RN:World->(Nat->Prop)->BH->Prop) (RR:World->(Nat->Prop)->BU->Prop) (w0 w1:World) (X:Nat) (Q:Nat->Prop) (sz:Int) (rv av:Value) (wr:World) (F:Nat->Prop) (nv cv lv:Value) (E:Wd):Prop:=
 WrS RN RR wr F ⟨sz,nv,rv,cv,av,lv⟩ E/\(∀g,F g->w0.heap.size<=g/\g<wr.heap.size/\g≠X/\¬Q g)/\Ai 37 wr X #[.int .i64 sz,nv,rv,cv,av,lv]/\Below w0.heap.size w0 wr/\(w0.heap.size<=X/\X<wr.heap.size/\¬Q X/\w1.heap.size<=wr.heap.size)/\∀g,Q g->g<w1.heap.size/\wr.heap[g]? =w1.heap[g]?
section
variable {RN:World->(Nat->Prop)->BH->Prop} {RR:World->(Nat->Prop)->BU->Prop} {w0 w1 wr w4 x:World} {X:Nat} {Q F H:Nat->Prop} {sz:Int} {rv av nv cv lv v' :Value} {E:Wd}
theorem NtG.step (hN:DU RN) (hR:DU RR) (h:NtG RN RR w0 w1 X Q sz rv av wr F nv cv lv E) (hb:Below wr.heap.size wr w4):NtG RN RR w0 w1 X Q sz rv av w4 F nv cv lv E:=by
 obtain⟨h1,h2,h3,h4,h5,h6⟩:=h
 have hs:=hb.size
 refine⟨h1.below hN hR hb,fun g hg=> ?_,h3.step hb,Below.and h4 hb,⟨h5.1,by omega,h5.2.2.1,by omega⟩,fun g hg=>⟨(h6 g hg).1,(hb.block g (by have:=(h6 g hg).1;omega)).trans (h6 g hg).2⟩⟩
 have:=h2 g hg
 exact⟨this.1,by omega,this.2.2⟩
theorem NtG.kept {t:TypeId} {Y:Nat} {A:Array Value} (h:NtG RN RR w0 w1 X Q sz rv av wr F nv cv lv E) (hq:Q Y) (hm:Ai t w1 Y A):Ai t wr Y A:=((h.2.2.2.2.2 Y hq).2).trans hm
theorem NtG.more {Y:Nat} (h:NtG RN RR w0 w1 X Q sz rv av wr F nv cv lv E) (hY:Y<wr.heap.size) (hX:Y≠X) (hF:∀g,F g->g≠Y):NtG RN RR w0 wr X (fun g=>Q g∨g=Y) sz rv av wr F nv cv lv E:=by
 obtain⟨h1,h2,h3,h4,h5,h6⟩:=h
 refine⟨h1,fun g hg=> ?_,h3,h4,⟨h5.1,h5.2.1,fun e=>e.elim h5.2.2.1 (fun e=>hX e.symm),Nat.le_refl _⟩,fun g hg=>⟨?_,rfl⟩⟩
 ·have:=h2 g hg
  exact⟨this.1,this.2.1,this.2.2.1,fun e=>e.elim this.2.2.2 (hF g hg)⟩
 ·rcases hg with hg|hg
  ·have:=(h6 g hg).1;omega
  ·omega
theorem NtG.upto {P:Nat->Prop} {k:Nat} {v:Value} {F' :Nat->Prop} {nv' cv' lv' :Value} {E' :Wd} (h:NtG RN RR w0 w1 X Q sz rv av wr F nv cv lv E) (hb:Below wr.heap.size wr w4) (hc:Chg P w4 x) (hP:∀g,P g->F g)
  (hS:WrS RN RR (x.setCell ⟨X,k,none⟩ v) F' ⟨sz,nv',rv,cv',av,lv'⟩ E') (hF' :∀g,F' g->F g∨wr.heap.size<=g/\g<x.heap.size) (hB:Ai 37 (x.setCell ⟨X,k,none⟩ v) X #[.int .i64 sz,nv',rv,cv',av,lv']) :
  NtG RN RR w0 w1 X Q sz rv av (x.setCell ⟨X,k,none⟩ v) F' nv' cv' lv' E' :=by
 obtain⟨h1,h2,h3,h4,h5,h6⟩:=h
 have ch:Chg (fun g=>g=X) x (x.setCell ⟨X,k,none⟩ v):=(Chg.refl (fun g=>g=X) x).setAt X k rfl _
 have s1:=hb.size
 have s2:=hc.size
 have s3:=ch.size
 refine⟨hS,fun g hg=> ?_,hB,(((Below.and h4 hb).trans (hc.below (fun g g1 hg=>by have:=(h2 g (hP g hg)).1;omega) (Nat.le_trans h4.size hb.size))).trans (ch.below (fun g _ hg=>by omega) (by have:=h4.size;omega))),⟨h5.1,by omega,h5.2.2.1,by omega⟩,fun g hg=>⟨(h6 g hg).1, ?_⟩⟩
 ·rcases hF' g hg with e|e
  ·have:=h2 g e
   exact⟨this.1,by omega,this.2.2⟩
  ·exact⟨by have:=h4.size;omega,by omega,by omega,fun q=>by have:=(h6 g q).1;omega⟩
 ·have q1:=(h6 g hg).1
  have q2:g≠X:=fun e=>h5.2.2.1 (e ▸ hg)
  have q3:¬P g:=fun e=>(h2 g (hP g e)).2.2.2 hg
  rw[ch.block g (by omega) q2,hc.block g (by omega) q3,hb.block g (by omega)]
  exact(h6 g hg).2
theorem NtG.addL (hN:DU RN) (hR:DU RR) {fs:List Er} (h:NtG RN RR w0 w1 X Q sz rv av wr F nv cv lv E) (hb:Below wr.heap.size wr w4) (ap:EB w4 0 121 2 lv (E.ls.length+fs.length) ((E.ls.map AN).flatten++(fs.map AN).flatten) v' x) :
  Ai 37 x X #[.int .i64 sz,nv,rv,cv,av,lv]/\(∀g,Q g->x.heap[g]? =w1.heap[g]?)/\∃F',NtG RN RR w0 w1 X Q sz rv av (x.setCell ⟨X,5,none⟩ v') F' nv cv v' ⟨E.ns,E.rs,E.cs,E.ds,E.ls++fs⟩:=by
 obtain⟨h1,h2,h3,h4,h5,h6⟩:=h
 have hv:=h1.led.2
 have bx:Ai 37 x X #[.int .i64 sz,nv,rv,cv,av,lv]:=Al (h3.step hb) ap.2.1 (fun e=>(h2 X (hv X e)).2.2.1 rfl)
 have S5:=h1.snocL hN hR (fun g hg=>(h2 g hg).2.1) hb ap
 refine⟨bx,fun g hg=> ?_,_,NtG.upto ⟨h1,h2,h3,h4,h5,h6⟩ hb ap.2.1 hv (S5.chg hN hR ((Chg.refl (fun g=>g=X) x).setAt X 5 rfl _) (fun g hg e=> ?_)) (fun g hg=>hg) (heap_setCell_same x X 5 _ _ _ bx)⟩
 ·rw[ap.2.1.block g (by have:=(h6 g hg).1;have:=hb.size;omega) (fun e=>(h2 g (hv g e)).2.2.2 hg),hb.block g (by have:=(h6 g hg).1;omega)]
  exact(h6 g hg).2
 ·rcases hg with hg|hg
  ·exact(h2 g hg).2.2.1 e
  ·have:=h5.2.1;omega
theorem NtG.addC (hN:DU RN) (hR:DU RR) {fs:List Ex} (h:NtG RN RR w0 w1 X Q sz rv av wr F nv cv lv E) (hb:Below wr.heap.size wr w4) (ap:EB w4 0 117 5 cv (E.cs.length+fs.length) ((E.cs.map AM).flatten++(fs.map AM).flatten) v' x) :
  Ai 37 x X #[.int .i64 sz,nv,rv,cv,av,lv]/\(∀g,Q g->x.heap[g]? =w1.heap[g]?)/\∃F',NtG RN RR w0 w1 X Q sz rv av (x.setCell ⟨X,3,none⟩ v') F' nv v' lv ⟨E.ns,E.rs,E.cs++fs,E.ds,E.ls⟩:=by
 obtain⟨h1,h2,h3,h4,h5,h6⟩:=h
 have hv:=h1.cmd.2
 have bx:Ai 37 x X #[.int .i64 sz,nv,rv,cv,av,lv]:=Al (h3.step hb) ap.2.1 (fun e=>(h2 X (hv X e)).2.2.1 rfl)
 have S5:=h1.snocC hN hR (fun g hg=>(h2 g hg).2.1) hb ap
 refine⟨bx,fun g hg=> ?_,_,NtG.upto ⟨h1,h2,h3,h4,h5,h6⟩ hb ap.2.1 hv (S5.chg hN hR ((Chg.refl (fun g=>g=X) x).setAt X 3 rfl _) (fun g hg e=> ?_)) (fun g hg=>hg) (heap_setCell_same x X 3 _ _ _ bx)⟩
 ·rw[ap.2.1.block g (by have:=(h6 g hg).1;have:=hb.size;omega) (fun e=>(h2 g (hv g e)).2.2.2 hg),hb.block g (by have:=(h6 g hg).1;omega)]
  exact(h6 g hg).2
 ·rcases hg with hg|hg
  ·exact(h2 g hg).2.2.1 e
  ·have:=h5.2.1;omega
theorem NtG.putN (hN:DU RN) (hR:DU RR) {f:BH} (h:NtG RN RR w0 w1 X Q sz rv av wr F nv cv lv E) (hb:Below wr.heap.size wr w4) (hf:RN w4 H f) (hH:∀g,H g->wr.heap.size<=g/\g<w4.heap.size) (i:Nat) (hi:i<E.ns.length) :
  ∃g cap,nv= .slice (some ⟨g,0,none⟩) E.ns.length cap/\w4.there g (i*23) 23/\∃F',NtG RN RR w0 w1 X Q sz rv av (w4.setCells g (i*23) (Ax f)) F' nv cv lv ⟨E.ns.set i f,E.rs,E.cs,E.ds,E.ls⟩:=by
 obtain⟨h1,h2,h3,h4,h5,h6⟩:=h
 obtain⟨g,cap,p1,p2,p3,p4⟩:=h1.putN hN hR (fun g hg=>(h2 g hg).2.1) hb hf hH i hi
 have ch:Chg (fun b=>b=g) w4 (w4.setCells g (i*23) (Ax f)):=Chg.setCells (F:=fun b=>b=g) (g:=g) (fun _=>rfl) (Ax f) (i*23) _ (Chg.refl _ _)
 have s1:=hb.size
 have s2:=ch.size
 have q:=h2 g p2
 refine⟨g,cap,p1,p3,_,p4,fun q1 hq=> ?_,Al (h3.step hb) ch (fun e=>q.2.2.1 e.symm),(Below.and h4 hb).trans (ch.below (fun b _ e=>by omega) (Nat.le_trans h4.size hb.size)),⟨h5.1,by omega,h5.2.2.1,by omega⟩,fun y hy=>⟨(h6 y hy).1, ?_⟩⟩
 ·rcases hq with e|e
  ·have:=h2 q1 e
   exact⟨this.1,by omega,this.2.2⟩
  ·exact⟨by have:=h4.size;omega,by omega,by omega,fun e2=>by have:=(h6 q1 e2).1;omega⟩
 ·have q1:=(h6 y hy).1
  rw[ch.block y (by omega) (fun e=>q.2.2.2 (e ▸ hy)),hb.block y (by omega)]
  exact(h6 y hy).2
end
end
section
open Go.RowKit

def SV (l:DL) (k:Nat):Bool:=inB (dC l k) 1 9&&inB (dS l k) 1 100000&&inB (dV l k) (-1000000000) 1000000000&&(k==0||decide (dC l (k-1)<dC l k))
def RZ (l:DL):Bool:=(List.range l.length).all (SV l)
def QS (T:Tr) (l:DL):Bool:=okT T&&RZ l
end
section
open Go.RowKit

def Se (l:List Int) (lo hi:Int):Bool:=(List.range l.length).all fun i=>inB (iAt l i) lo hi
def Ts (id te vo ro cm lb size:Int) (lo m1 m2:Bool) (pt la:Int) (nB nN nM:Nat) (ax am:Bool):Bool:=
 inB size 1 5&&(inB id 0 (size-1)&&(inB te 0 100000&&(inB vo (-1) (size-1)&&(lo&&(m1&&(m2&&(inB ro 0 2&&(decide (pt<=te)&&(decide ((nB:Int)=size)&&(decide ((nN:Int)=size)&&(decide ((nM:Int)=size)&&(inB cm lb la&&(ax&&am)))))))))))))
def Ui (N:AL) (D:Nd) (size:Int):Bool:=
 Ts N.id N.te N.vo N.ro N.cm N.lb size (Sy N.lb N.lt D.l) (QS D.T1 D.d1) (QS D.T2 D.d2) (Mn N.lt D.l D.l.length) (Lj N.lb D.l) D.vs.length D.nx.length D.mt.length (Se D.nx 1 (Lj N.lb D.l+1)) (Se D.mt 0 (Lj N.lb D.l))
end
section
open Go.RowKit

def Vd (l:DL) (k:Nat):Bool:=inB (dC l k) 1 9&&(inB (dS l k) 1 100000&&inB (dV l k) (-1000000000) 1000000000)
end
section
open Go.RowKit
end
section
open Go.RowKit

theorem Mg (x y:Int) (w:World):Calls Tryz.prog 65 #[.int .i64 x, .int .i64 y] w fun e w' =>e= .returned (.bool (inB x 0 (y-1)))/\w' =w:=by
 by_cases h1:0<=x
 ·by_cases h2:x<y
  ·have E:Hid (inB x 0 (y-1)=true):=LJ h1 (by omega)
   go_enter Tryz.func65,Tryz.ntmps65
   go_wp2;go_ret;exact⟨Ay E.out.symm,rfl⟩
  ·have E:Hid (inB x 0 (y-1)=false):=IR (by omega)
   go_enter Tryz.func65,Tryz.ntmps65
   go_wp2;go_ret;exact⟨Ay E.out.symm,rfl⟩
 ·have E:Hid (inB x 0 (y-1)=false):=IM h1
  go_enter Tryz.func65,Tryz.ntmps65
  go_wp2;go_ret;exact⟨Ay E.out.symm,rfl⟩
theorem JB (N:AL) (w:World):Calls Tryz.prog 99 #[N.val] w fun e w' =>e= .returned (.bool (N.ro==2))/\Below w.heap.size w w' :=by
 obtain⟨id,te,vo,lb,lt,lv,⟨⟨sl,sp,sc,sk,sb⟩,sv⟩,ro,vv,nv,mv,cm,⟨⟨ol,op,oc,ok,ob⟩,ov⟩⟩:=N
 have N1:Hid (Ai 73 (w.alloc (.cells #[.int .i64 id, .int .i64 te, .int .i64 vo, .int .i64 lb, .int .i64 lt,lv, .bool sl,sp,sc,sk,sb,sv, .int .i64 ro,vv,nv,mv, .int .i64 cm, .bool ol,op,oc,ok,ob,ov] 73)) w.heap.size #[.int .i64 id, .int .i64 te, .int .i64 vo, .int .i64 lb, .int .i64 lt,lv, .bool sl,sp,sc,sk,sb,sv, .int .i64 ro,vv,nv,mv, .int .i64 cm, .bool ol,op,oc,ok,ob,ov]):=Ai.start _ w _
 have B1:Hid (Below w.heap.size w (w.alloc (.cells #[.int .i64 id, .int .i64 te, .int .i64 vo, .int .i64 lb, .int .i64 lt,lv, .bool sl,sp,sc,sk,sb,sv, .int .i64 ro,vv,nv,mv, .int .i64 cm, .bool ol,op,oc,ok,ob,ov] 73))):=Ae _ _
 have c1:=N1.out.cells
 show Calls Tryz.prog 99 #[.agg #[.int .i64 id, .int .i64 te, .int .i64 vo, .int .i64 lb, .int .i64 lt,lv, .bool sl,sp,sc,sk,sb,sv, .int .i64 ro,vv,nv,mv, .int .i64 cm, .bool ol,op,oc,ok,ob,ov]] w _
 go_enter Tryz.func99,Tryz.ntmps99
 go_wp2;go_ret;exact⟨rfl,B1.out⟩
end
end Go.Proofs.YtkcaelfkcepdkaaGreat
