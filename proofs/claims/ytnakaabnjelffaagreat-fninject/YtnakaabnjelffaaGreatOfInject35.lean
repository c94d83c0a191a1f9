/-
  What the copier's own state is, and the sums it keeps.
  The work list of the program's copyOfTree: what waits, and what is there when all of it is done.
  One struct less that waits, its kids behind it: what is to come stays.
  How much is still to be copied of what waits.
  The state of the program's copyOfTree between two steps, and what each step leaves.
  The program's copyOfTree at the head of a round, and at the next one.
-/
import Derived.Test.YtnakaabnjelffaaGreatOfInject29
import Derived.Test.YtnakaabnjelffaaGreatOfInject27
import Derived.Test.YtnakaabnjelffaaGreatOfInject34
namespace Go.Proofs.YtnakaabnjelffaaGreat
set_option maxRecDepth 100000
set_option maxHeartbeats 8000000
section
open Go.RowKit

def Do (w:World) (C:Nat) (A:Array Value):Prop:=w.heap[C]? =some (.cells A 86 (0,0))
theorem Do.three {u:World} {B:Nat} {x0 x1 x2:Value} (h:Do u B #[x0,x1,x2]):u.cell? ⟨B,0,none⟩=some x0/\u.cell? ⟨B,1,none⟩=some x1/\u.cell? ⟨B,2,none⟩=some x2:=
 ⟨by rw[cell_of_row u B 0 _ 86 (0,0) h];rfl,by rw[cell_of_row u B 1 _ 86 (0,0) h];rfl,by rw[cell_of_row u B 2 _ 86 (0,0) h];rfl⟩
theorem Do.free {u:World} {B:Nat} {A:Array Value} (h:Do u B A) (i:Nat):u.frozen? ⟨B,i,none⟩=false:=frozen_of_row u B i _ 86 h
theorem Do.step {u w' :World} {B:Nat} {A:Array Value} (h:Do u B A) (hb:Below u.heap.size u w'):Do w' B A:=(hb.block B (Array.getElem?_eq_some_iff.1 h).1).trans h
theorem Do.chg {P:Nat->Prop} {u w' :World} {B:Nat} {A:Array Value} (h:Do u B A) (hc:Chg P u w') (hP:¬P B):Do w' B A:=(hc.block B (Array.getElem?_eq_some_iff.1 h).1 hP).trans h
theorem Do.set1 {u:World} {L:Nat} {x0 x1 x2:Value} (h:Do u L #[x0,x1,x2]) (t:Value):Do (u.setCell ⟨L,1,none⟩ t) L #[x0,t,x2]:=heap_setCell_same u L 1 _ 86 t h
theorem Do.set2 {u:World} {L:Nat} {x0 x1 x2:Value} (h:Do u L #[x0,x1,x2]) (t:Value):Do (u.setCell ⟨L,2,none⟩ t) L #[x0,x1,t]:=heap_setCell_same u L 2 _ 86 t h

def wTV (x:TV):Nat:=1+Tl x.p+Tl x.c+Tl x.b
def Cs (xs:List TV) (k:Nat):Nat:=((xs.take k).map wTV).sum
def Gr (K:Nat) (k:Nat):List Value:=(List.range k).map fun i=> .pointer (some ⟨K,i*5,none⟩)
def Slices (x:TV):Prop:=∃(r1 r2 r3 r4:Option Addr) (z1 z2 z3 z4 s1 s2 s3 s4:Nat),x=⟨x.lf, .slice r1 z1 s1, .slice r2 z2 s2, .slice r3 z3 s3, .slice r4 z4 s4⟩

theorem UI (K k:Nat):Gr K (k+1)=Gr K k++[.pointer (some ⟨K,k*5,none⟩)]:=by simp[Gr,List.range_succ]
theorem Hy (K k:Nat):(Gr K k).length=k:=by simp[Gr]
theorem Iu (xs:List TV) (k:Nat) (h:k<xs.length):Cs xs (k+1)=Cs xs k+wTV xs[k]:=by
 rw[Cs,List.take_succ_eq_append_getElem h,List.map_append,List.sum_append]
 simp[Cs]
theorem Um (xs:List TV):∀j k,Cs xs k<=Cs xs (k+j)
 |0,_=>Nat.le_refl _
 |j+1,k=>by
  have h1:=Um xs j k
  by_cases h:k+j<xs.length
  ·have:=Iu xs (k+j) h
   rw[←Nat.add_assoc]
   omega
  ·have e:Cs xs (k+(j+1))=Cs xs (k+j):=by
    rw[Cs,Cs,List.take_of_length_le (by omega),List.take_of_length_le (by omega)]
   omega
theorem Do.apart {w:World} {C base e size n:Nat} {A:Array Value} {v:Value} {xs:List Value} (h:Do w C A) (ho:As w base e size v n xs) (he:e≠86):¬wrB v C:=fun k=>by
 obtain⟨c,j⟩:=ho.block C k
 rw[show w.heap[C]? =_ from h] at j
 simp at j
 exact he j.2.symm
theorem Bz.apart {w:World} {M base e size n:Nat} {V:Nat->Prop} {v:Value} {xs:List Value} (h:Bz w M V) (ho:As w base e size v n xs):¬wrB v M:=fun k=>by
 obtain⟨c,j⟩:=ho.block M k
 obtain⟨es,ck,hb,_⟩:=h
 rw[hb] at j
 simp at j
theorem Bz.ne {w:World} {M C:Nat} {V:Nat->Prop} {A:Array Value} (h:Bz w M V) (hC:Do w C A):¬C=M:=fun e=>by
 obtain⟨es,ck,hb,_⟩:=h
 subst e;rw[show w.heap[C]? =_ from hC] at hb
 simp at hb
theorem Bz.set {w:World} {M b i:Nat} {V:Nat->Prop} (h:Bz w M V) (hb:Ek w b) (v:Value):Bz (w.setCell ⟨b,i,none⟩ v) M V:=by
 obtain⟨c0,t0,h0⟩:=hb
 have hne:¬M=b:=fun e=>by
  obtain⟨es,ck,h1,_⟩:=h
  subst e;rw[h0] at h1
  simp at h1
 refine h.chg (At w b i v) hne (fun g hg c t hc=> ?_)
 subst hg;rw[h0] at hc
 obtain⟨rfl,rfl⟩:c0=c/\t0=t:=by simpa using hc
 exact⟨_,_,heap_setCell_same w g i _ _ v h0⟩

theorem Bz.keep {P:Nat->Prop} {w w' :World} {M:Nat} {V:Nat->Prop} (h:Bz w M V) (hc:Chg P w w') (hM:¬P M) (hV:∀g,V g->¬P g):Bz w' M V:=by
 obtain⟨es,clock,hb,hk⟩:=h
 refine⟨es,clock,(hc.block M (Array.getElem?_eq_some_iff.1 hb).1 hM).trans hb,fun e he=> ?_⟩
 obtain⟨a,n,h1,⟨c,t,h2⟩,h3⟩:=hk e he
 exact⟨a,n,h1,⟨c,t,(hc.block _ (Array.getElem?_eq_some_iff.1 h2).1 (hV _ h3)).trans h2⟩,h3⟩
end
section
open Go.RowKit

def Src (d:Bool) (n:Nat) (w:World) (F:Nat->Prop) (x:TV) (T:Tr):Prop:=(d=true->AD n w F x T)/\Aq n w F x T
theorem Src.below {d:Bool} {n:Nat} {w w' :World} {F:Nat->Prop} {x:TV} {T:Tr} (h:Src d n w F x T) (hb:Below w.heap.size w w'):Src d n w' F x T:=⟨fun e=>(h.1 e).below hb,h.2.below hb⟩
theorem Src.not0 {d:Bool} {w:World} {F:Nat->Prop} {x:TV} {T:Tr} (h:Src d 0 w F x T):False:=h.2
theorem Src.parts {d:Bool} {n:Nat} {w:World} {F:Nat->Prop} {x:TV} {T:Tr} (h:Src d (n+1) w F x T) :
  x.lf=T.leaf/\Aj w F x.p T.pairs.length (Au T.pairs)/\Aj w F x.c T.cuts.length (Ab T.cuts)/\Aj w F x.b T.buf.length (Al T.buf)∧
   ∃(xs:List TV) (K:Nat->Nat->Prop),xs.length=T.kids.length/\Aj w F x.k xs.length (Ap xs)/\(∀i,i<xs.length->Src d n w (K i) (Ay xs i) (T.kids.getD i Ah))∧
    (d=true->(0<xs.length->∃g q,x.k= .slice (some ⟨g,0,none⟩) xs.length q/\F g/\∀i,i<xs.length->¬K i g)/\(∀i g,i<xs.length->K i g->F g)/\∀i j g,i<j->j<xs.length->K i g->¬K j g):=by
 cases d with
 |false=>
  obtain⟨h1,h2,h3,h4,xs,h5,h6,h7⟩:=h.2
  exact⟨h1,h2,h3,h4,xs,fun _=>F,h5,h6,fun i hi=>⟨(fun e=>by cases e),h7 i hi⟩,(fun e=>by cases e)⟩
 |true=>
  obtain⟨h1,h2,h3,h4,h5,xs,K,k1,k2,k3,k4,k5⟩:=h.1 rfl
  refine⟨h1,h2.rowF.mono (fun g hg=>h5 g (.inl hg)),h3.rowF.mono (fun g hg=>h5 g (.inr (.inl hg))),h4.rowF.mono (fun g hg=>h5 g (.inr (.inr (.inl hg)))),xs,K,k1,k2.rowF.mono (fun g hg=>h5 g (.inr (.inr (.inr hg)))),fun i hi=>⟨fun _=>k3 i hi,(k3 i hi).treeF⟩,fun _=>⟨fun hn=> ?_,fun i g hi hg=>(k4 i g hi hg).1,k5⟩⟩
  obtain⟨g,q,hv,hq,_⟩:=k2.pos hn
  have hw:wrB x.k g:=⟨_,_,hv,hq⟩
  exact⟨g,q,hv,h5 g (.inr (.inr (.inr hw))),fun i hi hk=>(k4 i g hi hk).2 (.inr (.inr (.inr hw)))⟩

structure Pd where
 b:Nat
 o:Nat
 x:TV
 T:Tr
 n:Nat
 F:Nat->Prop

def Pd.ptr (p:Pd):Value:= .pointer (some ⟨p.b,p.o,none⟩)
def Holds (u:World) (b o:Nat) (x:TV):Prop:=∃c:Array Value,u.heap[b]? =some (.cells c 29 (0,0))/\c[o]? =some (.bool x.lf)/\c[o+1]? =some x.p/\c[o+2]? =some x.c/\c[o+3]? =some x.k/\c[o+4]? =some x.b
def WH (ps:List Pd) (g i:Nat):Prop:=∃p∈ps,p.b=g/\p.o<=i/\i<p.o+5
def Jj (t:Nat):Prop:=t=63∨t=3∨t=31∨t=29
def EQ (ps:List Pd) (u u' :World):Prop:=
 u.heap.size<=u'.heap.size/\∀g c t,Jj t->u.heap[g]? =some (.cells c t (0,0))->∃c',u'.heap[g]? =some (.cells c' t (0,0))/\c'.size=c.size/\∀i,¬WH ps g i->c'[i]? =c[i]?
def NH (u:World) (ps:List Pd) (Fin:World->Prop):Prop:=
 ∀(u' :World) (ys:List TV) (G:Nat->Nat->Prop),ys.length=ps.length->EQ ps u u' →
  (∀j p,ps[j]? =some p->Holds u' p.b p.o (Ay ys j))->(∀j p,ps[j]? =some p->AD p.n u' (G j) (Ay ys j) p.T)→
  (∀j g,j<ps.length->G j g->u.heap.size<=g)->(∀i j g,i<j->j<ps.length->G i g->¬G j g)->Fin u'

theorem EQ.refl (ps:List Pd) (u:World):EQ ps u u:=⟨Nat.le_refl _,fun _ c _ _ h=>⟨c,h,rfl,fun _ _=>rfl⟩⟩
theorem EQ.trans {ps qs rs:List Pd} {u u1 u' :World} (h:EQ ps u u1) (k:EQ qs u1 u') (hr:∀g i,g<u.heap.size->¬WH rs g i->¬WH ps g i/\¬WH qs g i):EQ rs u u' :=by
 refine⟨Nat.le_trans h.1 k.1,fun g c t ht hg=> ?_⟩
 obtain⟨c1,a1,a2,a3⟩:=h.2 g c t ht hg
 obtain⟨c2,b1,b2,b3⟩:=k.2 g c1 t ht a1
 have hl:=(Array.getElem?_eq_some_iff.1 hg).1
 exact⟨c2,b1,b2.trans a2,fun i hi=>(b3 i (hr g i hl hi).2).trans (a3 i (hr g i hl hi).1)⟩
theorem EQ.same {ps:List Pd} {u u' :World} (h:EQ ps u u') {g t:Nat} {c:Array Value} (ht:Jj t) (hg:u.heap[g]? =some (.cells c t (0,0))) (hn:∀p∈ps,p.b≠g):u'.heap[g]? =u.heap[g]? :=by
 obtain⟨c',a1,a2,a3⟩:=h.2 g c t ht hg
 have e:c' =c:=by
  apply Array.ext_getElem?
  intro i;exact a3 i (fun ⟨p,hp,hb,_⟩=>hn p hp hb)
 rw[a1,e,hg]
theorem EQ.of_below {ps:List Pd} {u u' :World} (h:Below u.heap.size u u'):EQ ps u u':=
 ⟨h.size,fun g c _ _ hg=>⟨c,(h.block g (Array.getElem?_eq_some_iff.1 hg).1).trans hg,rfl,fun _ _=>rfl⟩⟩
theorem EQ.of_chg {ps:List Pd} {P:Nat->Prop} {u u' :World} (h:Chg P u u') (hP:∀g c t,P g->Jj t->¬u.heap[g]? =some (.cells c t (0,0))):EQ ps u u':=
 ⟨h.size,fun g c t ht hg=>⟨c,(h.block g (Array.getElem?_eq_some_iff.1 hg).1 (fun hp=>hP g c t hp ht hg)).trans hg,rfl,fun _ _=>rfl⟩⟩
theorem EQ.set {p:Pd} {u:World} {c:Array Value} (hb:u.heap[p.b]? =some (.cells c 29 (0,0))) (j:Nat) (hj:j<5) (v:Value):EQ [p] u (u.setCell ⟨p.b,p.o+j,none⟩ v):=by
 have hs:=heap_setCell_same u p.b (p.o+j) _ 29 v hb
 refine⟨by simp[World.size_setCell],fun g c1 t ht hg=> ?_⟩
 by_cases e:g=p.b
 ·subst e;rw[hb] at hg
  obtain⟨rfl,rfl⟩:c=c1/\29=t:=by simpa using hg
  refine⟨_,hs,by simp,fun i hi=> ?_⟩
  rw[Array.getElem?_setIfInBounds]
  split
  ·rename_i h
   subst h;exact absurd ⟨p,by simp,rfl,by omega,by omega⟩ hi
  ·rfl
 ·exact⟨c1,((At u p.b (p.o+j) v).block g (Array.getElem?_eq_some_iff.1 hg).1 e).trans hg,rfl,fun _ _=>rfl⟩

theorem Holds.kept {ps:List Pd} {u u' :World} {b o:Nat} {x:TV} (h:Holds u b o x) (k:EQ ps u u') (hn:∀j,j<5->¬WH ps b (o+j)):Holds u' b o x:=by
 obtain⟨c,h0,h1,h2,h3,h4,h5⟩:=h
 obtain⟨c',a1,a2,a3⟩:=k.2 b c _ (.inr (.inr (.inr rfl))) h0
 exact⟨c',a1,(a3 o (hn 0 (by omega))).trans h1,(a3 _ (hn 1 (by omega))).trans h2,(a3 _ (hn 2 (by omega))).trans h3,(a3 _ (hn 3 (by omega))).trans h4,(a3 _ (hn 4 (by omega))).trans h5⟩
theorem Holds.lt {u:World} {b o:Nat} {x:TV} (h:Holds u b o x):b<u.heap.size:=by
 obtain⟨c,h0,_⟩:=h
 exact(Array.getElem?_eq_some_iff.1 h0).1
theorem As.only {ps:List Pd} {u u' :World} {base e size n:Nat} {v:Value} {xs:List Value} (h:As u base e size v n xs) (k:EQ ps u u') (he:Jj e) (hn:∀p∈ps,¬wrB v p.b):As u' base e size v n xs:=by
 refine h.frame (fun g hg hl=> ?_)
 obtain⟨cur,hc⟩:=h.block g hg
 exact k.same he hc (fun p hp e=>hn p hp (e ▸ hg))

def Ep (K n:Nat) (xs:List TV) (ts:List Tr) (KF:Nat->Nat->Prop):List Pd:=(List.range xs.length).map fun i=>⟨K,i*5,Ay xs i,ts.getD i Ah,n,KF i⟩
theorem FZ (K n:Nat) (xs:List TV) (ts:List Tr) (KF:Nat->Nat->Prop):(Ep K n xs ts KF).length=xs.length:=by simp[Ep]
theorem WJ (K n:Nat) (xs:List TV) (ts:List Tr) (KF:Nat->Nat->Prop) (i:Nat) (h:i<xs.length):(Ep K n xs ts KF)[i]? =some ⟨K,i*5,Ay xs i,ts.getD i Ah,n,KF i⟩:=by simp[Ep,h]
theorem D9 {K n:Nat} {xs:List TV} {ts:List Tr} {KF:Nat->Nat->Prop} {p:Pd} (h:p∈Ep K n xs ts KF):∃i,i<xs.length/\p=⟨K,i*5,Ay xs i,ts.getD i Ah,n,KF i⟩:=by
 simp only[Ep,List.mem_map,List.mem_range] at h
 obtain⟨i,hi,rfl⟩:=h
 exact⟨i,hi,rfl⟩
theorem UL (K n:Nat) (xs:List TV) (ts:List Tr) (KF:Nat->Nat->Prop):(Ep K n xs ts KF).map Pd.ptr=Gr K xs.length:=by
 simp[Ep,Gr,Pd.ptr,Function.comp_def]

theorem Xb {ps:List Pd} {u1 u' :World} {base K Q:Nat} {xs ys:List TV} (h:As u1 base 29 5 (.slice (some ⟨K,0,none⟩) xs.length Q) xs.length (Ap xs)) (hn:0<xs.length) (k:EQ ps u1 u') (hy:ys.length=xs.length) (hh:∀i,i<xs.length->Holds u' K (i*5) (Ay ys i)):As u' base 29 5 (.slice (some ⟨K,0,none⟩) ys.length Q) ys.length (Ap ys):=by
 have h:u1.ownsRow base 29 5 (.slice (some ⟨K,0,none⟩) xs.length Q) xs.length (Ap xs):=by
  rcases h with h|⟨h0,_⟩
  ·exact h
  ·omega
 obtain⟨hl,⟨h,_⟩|⟨g,cap,cur,hv,hg,hh0,hnc,hcap,hsz,htake⟩⟩:=h
 ·simp at h
 simp at hv
 obtain⟨rfl,rfl⟩:=hv
 obtain⟨c',a1,a2,a3⟩:=k.2 K cur _ (.inr (.inr (.inr rfl))) hh0
 refine .inl ⟨Bj ys, .inr ⟨K,Q,c',rfl,hg,a1,by omega,hcap,by rw[a2,hsz], ?_⟩⟩
 apply List.ext_getElem?
 intro j;rw[List.getElem?_take]
 split
 ·rename_i hj
  have hi:j/5<xs.length:=by omega
  obtain⟨c2,b0,b1,b2,b3,b4,b5⟩:=hh (j/5) hi
  rw[a1] at b0
  obtain rfl:c' =c2:=by simpa using b0
  obtain⟨f1,f2,f3,f4,f5⟩:=Et ys (j/5) (by omega)
  have hm:j%5<5:=Nat.mod_lt _ (by omega)
  have hj5:j=j/5*5+j%5:=by omega
  rw[Array.getElem?_toList]
  rcases(by omega:j%5=0∨j%5=1∨j%5=2∨j%5=3∨j%5=4) with e|e|e|e|e<;>rw[e] at hj5
  ·rw[hj5,show j/5*5+0=j/5*5 from rfl,b1,f1]
  ·rw[hj5,b2,f2]
  ·rw[hj5,b3,f3]
  ·rw[hj5,b4,f4]
  ·rw[hj5,b5,f5]
 ·rename_i hj
  rw[List.getElem?_eq_none]
  rw[Bj]
  omega
end
section
open Go.RowKit

theorem Ox (l m:List TV) (j:Nat) (h:j<l.length):Ay (l++m) j=Ay l j:=by simp[Ay,List.getD,List.getElem?_append_left h]
theorem Oc (l:List TV) (m j:Nat) (h:j<m):Ay (l.take m) j=Ay l j:=by simp[Ay,List.getD,h]
theorem N7 (l:List TV) (m j:Nat):Ay (l.drop m) j=Ay l (m+j):=by simp[Ay,List.getD,List.getElem?_drop]
theorem QU (l:List TV) (y:TV):Ay (l++[y]) l.length=y:=by simp[Ay,List.getD]

theorem NH.first {w u:World} (p:Pd) (Fin:World->Prop) (hw:w.heap.size<=u.heap.size) (hF:∀u' y G,Holds u' p.b p.o y->AD p.n u' G y p.T->(∀g,G g->w.heap.size<=g)->Fin u'):NH u [p] Fin:=by
 intro u' ys G hl ho hh ht hb hd;exact hF u' (Ay ys 0) (G 0) (hh 0 p rfl) (ht 0 p rfl) (fun g hg=>Nat.le_trans hw (hb 0 g (by simp) hg))
theorem NH.last {u:World} {Fin:World->Prop} (h:NH u [] Fin):Fin u:=
 h u [] (fun _ _=>False) rfl (EQ.refl _ _) (fun j p hj=>by simp at hj) (fun j p hj=>by simp at hj) (fun j g hj=>by simp at hj) (fun i j g _ hj=>by simp at hj)

theorem NH.step {u u1:World} {qs:List Pd} {p:Pd} {n:Nat} {Fin:World->Prop} {xs:List TV} {KF:Nat->Nat->Prop} {vp vc vk vb:Value} {K:Nat} (h:NH u (qs++[p]) Fin) (hpn:p.n=n+1)
  (ho:EQ [p] u u1) (hq:∀q∈qs,q.b<u.heap.size) (hpb:p.b<u.heap.size) (hap:∀q∈qs,q.b=p.b->q.o+5<=p.o∨p.o+5<=q.o)
  (hy:Holds u1 p.b p.o ⟨p.x.lf,vp,vc,vk,vb⟩) (hlf:p.x.lf=p.T.leaf) (o1:As u1 u.heap.size 63 2 vp p.T.pairs.length (Au p.T.pairs)) (o2:As u1 u.heap.size 3 1 vc p.T.cuts.length (Ab p.T.cuts)) (o3:As u1 u.heap.size 31 3 vb p.T.buf.length (Al p.T.buf))
  (hx:xs.length=p.T.kids.length) (o4:As u1 u.heap.size 29 5 vk xs.length (Ap xs)) (hK:0<xs.length->∃Q,vk= .slice (some ⟨K,0,none⟩) xs.length Q) :
  NH u1 (qs++Ep K n xs p.T.kids KF) Fin:=by
 intro u' ys G hl hon hh ht hb hd;have hl' :ys.length=qs.length+xs.length:=by rw[hl,List.length_append,FZ]
 have hlp:(qs++Ep K n xs p.T.kids KF).length=qs.length+xs.length:=by rw[List.length_append,FZ]
 rw[hlp] at hb hd
 have hKw:0<xs.length->wrB vk K:=fun hn=>by
  obtain⟨g,q,hv,hq,_⟩:=o4.pos hn
  obtain⟨Q,hv2⟩:=hK hn
  rw[hv] at hv2
  have:g=K:=by simpa[Value.ownBlock] using(congrArg Value.ownBlock hv2)
  exact⟨_,_,this ▸ hv,hq⟩
 have hKb:∀q∈Ep K n xs p.T.kids KF,wrB vk q.b:=fun q hq=>by
  obtain⟨i,hi,rfl⟩:=D9 hq
  exact hKw (by omega)
 have own:∀g,wrB vp g∨wrB vc g∨wrB vb g∨wrB vk g->u.heap.size<=g/\g<u1.heap.size:=fun g hg=>by
  rcases hg with hg|hg|hg|hg
  ·exact o1.lt g hg
  ·exact o2.lt g hg
  ·exact o3.lt g hg
  ·exact o4.lt g hg
 have hqown:∀q∈qs,¬(wrB vp q.b∨wrB vc q.b∨wrB vb q.b∨wrB vk q.b):=fun q hq' hw=>by
  have:=(own _ hw).1
  have:=hq q hq'
  omega
 have a1:∀q∈qs++Ep K n xs p.T.kids KF,¬wrB vp q.b:=fun q hq' hw=>by
  rcases List.mem_append.1 hq' with k|k
  ·exact hqown q k (.inl hw)
  ·exact o1.apart o4 (by decide) _ hw (hKb q k)
 have a2:∀q∈qs++Ep K n xs p.T.kids KF,¬wrB vc q.b:=fun q hq' hw=>by
  rcases List.mem_append.1 hq' with k|k
  ·exact hqown q k (.inr (.inl hw))
  ·exact o2.apart o4 (by decide) _ hw (hKb q k)
 have a3:∀q∈qs++Ep K n xs p.T.kids KF,¬wrB vb q.b:=fun q hq' hw=>by
  rcases List.mem_append.1 hq' with k|k
  ·exact hqown q k (.inr (.inr (.inl hw)))
  ·exact o3.apart o4 (by decide) _ hw (hKb q k)
 refine h u' (ys.take qs.length++[⟨p.x.lf,vp,vc,vk,vb⟩]) (fun j g=>(j<qs.length/\G j g)∨(qs.length<=j/\((wrB vp g∨wrB vc g∨wrB vb g∨wrB vk g)∨∃i,i<xs.length/\G (qs.length+i) g))) ?_ ?_ ?_ ?_ ?_ ?_
 ·simp;omega
 ·refine ho.trans hon (fun g i hg hn=>⟨fun ⟨q,hq',r⟩=>hn ⟨q,List.mem_append.2 (.inr hq'),r⟩,fun ⟨q,hq',e,r⟩=> ?_⟩)
  rcases List.mem_append.1 hq' with k|k
  ·exact hn ⟨q,List.mem_append.2 (.inl k),e,r⟩
  ·have:=(own _ (.inr (.inr (.inr (hKb q k))))).1
   omega
 ·intro j q hj;rcases Nat.lt_trichotomy j qs.length with hlt|heq|hgt
  ·rw[List.getElem?_append_left hlt] at hj
   rw[Ox _ _ _ (by simp;omega),Oc _ _ _ hlt]
   exact hh j q (by rw[List.getElem?_append_left hlt];exact hj)
  ·subst heq;simp at hj
   subst hj;have e:=QU (ys.take qs.length) ⟨p.x.lf,vp,vc,vk,vb⟩
   rw[List.length_take,Nat.min_eq_left (by omega)] at e
   rw[e]
   refine hy.kept hon (fun j hj ⟨q,hq',e,r1,r2⟩=> ?_)
   rcases List.mem_append.1 hq' with k|k
   ·rcases hap q k e with h|h<;>omega
   ·have:=(own _ (.inr (.inr (.inr (hKb q k))))).1
    omega
  ·rw[List.getElem?_eq_none (by simp;omega)] at hj
   simp at hj
 ·intro j q hj;rcases Nat.lt_trichotomy j qs.length with hlt|heq|hgt
  ·rw[List.getElem?_append_left hlt] at hj
   rw[Ox _ _ _ (by simp;omega),Oc _ _ _ hlt]
   exact(ht j q (by rw[List.getElem?_append_left hlt];exact hj)).mono (fun g hg=> .inl ⟨hlt,hg⟩)
  ·subst heq;simp at hj
   subst hj;have e:=QU (ys.take qs.length) ⟨p.x.lf,vp,vc,vk,vb⟩
   rw[List.length_take,Nat.min_eq_left (by omega)] at e
   rw[e,hpn]
   have hdl:(ys.drop qs.length).length=xs.length:=by rw[List.length_drop];omega
   have kat:∀i,i<xs.length->(qs++Ep K n xs p.T.kids KF)[qs.length+i]? =some ⟨K,i*5,Ay xs i,p.T.kids.getD i Ah,n,KF i⟩:=fun i hi=>by
    rw[List.getElem?_append_right (by omega),Nat.add_sub_cancel_left]
    exact WJ K n xs p.T.kids KF i hi
   refine⟨hlf,(o1.only hon (.inl rfl) a1).mono (Nat.zero_le _),(o2.only hon (.inr (.inl rfl)) a2).mono (Nat.zero_le _),(o3.only hon (.inr (.inr (.inl rfl))) a3).mono (Nat.zero_le _),fun g hg=> .inr ⟨Nat.le_refl _, .inl hg⟩,ys.drop qs.length,fun i=>G (qs.length+i),hdl.trans hx, ?_,fun i hi=> ?_,fun i g hi hg=>⟨.inr ⟨Nat.le_refl _, .inr ⟨i,by omega,hg⟩⟩,fun hw=> ?_⟩,fun i j g hij hj hg=>hd (qs.length+i) (qs.length+j) g (by omega) (by omega) hg⟩
   ·rcases Nat.eq_zero_or_pos xs.length with h0|h0
    ·have:=(o4.only hon (.inr (.inr (.inr rfl))) (fun q hq' hw=>by
      rcases List.mem_append.1 hq' with k|k
      ·exact hqown q k (.inr (.inr (.inr hw)))
      ·obtain⟨i,hi,_⟩:=D9 k
       omega)).mono (Nat.zero_le _)
     have e1:xs=[]:=List.length_eq_zero_iff.1 h0
     have e2:ys.drop qs.length=[]:=List.length_eq_zero_iff.1 (by omega)
     rw[e2]
     rw[e1] at this
     exact this
    ·obtain⟨Q,rfl⟩:=hK h0
     have:=Xb (ys:=ys.drop qs.length) (o4.mono (Nat.zero_le _)) h0 hon hdl (fun i hi=>by
      rw[N7]
      exact hh _ _ (kat i hi))
     rw[hdl] at this ⊢
     exact this
   ·rw[N7]
    exact ht _ _ (kat i (by omega))
   ·have:=hb (qs.length+i) g (by omega) hg
    have:=(own g hw).2
    omega
  ·rw[List.getElem?_eq_none (by simp;omega)] at hj
   simp at hj
 ·rintro j g hj (⟨hlt,hg⟩|⟨_,hg|⟨i,hi,hg⟩⟩)
  ·exact Nat.le_trans ho.1 (hb j g (by omega) hg)
  ·exact(own g hg).1
  ·exact Nat.le_trans ho.1 (hb _ g (by omega) hg)
 ·rintro i j g hij hj (⟨hlt,hg⟩|⟨hle,_⟩) (⟨hlt2,hg2⟩|⟨hle2,hg2|⟨i2,hi2,hg2⟩⟩)
  ·exact hd i j g hij (by omega) hg hg2
  ·have:=hb i g (by omega) hg
   have:=(own g hg2).2
   omega
  ·exact hd i (qs.length+i2) g (by omega) (by omega) hg hg2
  ·omega
  ·simp at hj;omega
  ·simp at hj;omega
end
section
open Go.RowKit

def kz:Nat->Tr->Nat
 |0,_=>0
 |n+1,T=>T.kids.length+(T.kids.map (Az n)).sum
def Ky (ps:List Pd):Nat:=(ps.map fun p=>kz p.n p.T).sum
theorem MT (n:Nat) (T:Tr):Az (n+1) T=T.pairs.length+T.cuts.length+T.buf.length+kz (n+1) T:=by
 show T.pairs.length+(T.cuts.length+(T.kids.length+(T.kids.map (Az n)).sum+T.buf.length))=T.pairs.length+T.cuts.length+T.buf.length+(T.kids.length+(T.kids.map (Az n)).sum)
 omega
theorem Yj (n:Nat) (T:Tr):kz n T<=Az n T:=by
 cases n with
 |zero=>exact Nat.le_refl _
 |succ n=>rw[MT];omega
theorem Gz (ps qs:List Pd):Ky (ps++qs)=Ky ps+Ky qs:=by simp[Ky]
theorem Ka (p:Pd):Ky [p]=kz p.n p.T:=by simp[Ky]
theorem Aj.lenEq {w:World} {F:Nat->Prop} {v:Value} {n:Nat} {xs:List Value} (h:Aj w F v n xs):Tl v=n:=by
 obtain⟨a,b,off,cap,rfl,_⟩:=h
 rfl
theorem Aq.wEq {n:Nat} {w:World} {F:Nat->Prop} {x:TV} {T:Tr} (h:Aq n w F x T):wTV x+kz n T=1+Az n T:=by
 cases n with
 |zero=>exact h.elim
 |succ n=>
  obtain⟨h1,h2,h3,h4,xs,h5,h6,h7⟩:=h
  rw[MT]
  unfold wTV;rw[h2.lenEq,h3.lenEq,h4.lenEq]
  omega
theorem Aq.slices {n:Nat} {w:World} {F:Nat->Prop} {x:TV} {T:Tr} (h:Aq n w F x T):Slices x:=by
 obtain⟨a1,a2,a3,a4,c1,c2,c3,c4,hx⟩:=h.treeAt.shape
 subst hx;exact⟨a1,a2,a3,a4,_,_,_,_,c1,c2,c3,c4,rfl⟩
theorem Tw {d:Bool} {n:Nat} {w:World} {K:Nat->Nat->Prop} {xs:List TV} {ts:List Tr} (hx:xs.length=ts.length) (h:∀i,i<xs.length->Src d n w (K i) (Ay xs i) (ts.getD i Ah)):∀k,k<=xs.length->Cs xs k+((List.range k).map fun i=>kz n (ts.getD i Ah)).sum=k+IJ n ts k
 |0,_=>by simp[Cs,IJ]
 |k+1,hk=>by
  have h1:=Tw hx h k (by omega)
  have h2:=(h k (by omega)).2.wEq
  rw[Iu xs k (by omega),LA n ts k (by omega),List.range_succ,List.map_append,List.sum_append]
  have e:Ay xs k=xs[k]:=by simp[Ay,List.getD,(by omega:k<xs.length)]
  rw[e] at h2
  simp only[List.map_cons,List.map_nil,List.sum_cons,List.sum_nil]
  omega
theorem T9 {d:Bool} {n K0:Nat} {w:World} {K:Nat->Nat->Prop} {xs:List TV} {T:Tr} (hx:xs.length=T.kids.length) (h:∀i,i<xs.length->Src d n w (K i) (Ay xs i) (T.kids.getD i Ah)):Cs xs xs.length+Ky (Ep K0 n xs T.kids K)=kz (n+1) T:=by
 have h1:=Tw hx h xs.length (Nat.le_refl _)
 have e:Ky (Ep K0 n xs T.kids K)=((List.range xs.length).map fun i=>kz n (T.kids.getD i Ah)).sum:=by
  simp[Ky,Ep,Function.comp_def]
 rw[e,h1,hx,VE]
 rfl
theorem OZ (xs:List TV):∀k,k<=xs.length->k<=Cs xs k
 |0,_=>Nat.zero_le _
 |k+1,h=>by
  rw[Iu xs k (by omega)]
  have:=OZ xs k (by omega)
  have:1<=wTV xs[k]:=by unfold wTV;omega
  omega
end
section
open Go.RowKit

theorem Holds.cells {u:World} {b o:Nat} {x:TV} (h:Holds u b o x):u.cell? ⟨b,o,none⟩=some (.bool x.lf)/\u.cell? ⟨b,o+1,none⟩=some x.p/\u.cell? ⟨b,o+2,none⟩=some x.c/\u.cell? ⟨b,o+3,none⟩=some x.k/\u.cell? ⟨b,o+4,none⟩=some x.b/\∀i,u.frozen? ⟨b,i,none⟩=false:=by
 obtain⟨c,h0,h1,h2,h3,h4,h5⟩:=h
 exact⟨(Af h0).trans h1,(Af h0).trans h2,(Af h0).trans h3,(Af h0).trans h4,(Af h0).trans h5,fun i=>AH h0⟩
theorem Holds.set {u:World} {b o:Nat} {x y:TV} (h:Holds u b o x) (j:Nat) (v:Value) (hy:(j=1/\y={ x with p:=v })∨(j=2/\y={ x with c:=v })∨(j=3/\y={ x with k:=v })∨(j=4/\y={ x with b:=v })):Holds (u.setCell ⟨b,o+j,none⟩ v) b o y:=by
 obtain⟨c,h0,h1,h2,h3,h4,h5⟩:=h
 have hs:=heap_setCell_same u b (o+j) _ 29 v h0
 have k1:o+1<c.size:=(Array.getElem?_eq_some_iff.1 h2).1
 have k2:o+2<c.size:=(Array.getElem?_eq_some_iff.1 h3).1
 have k3:o+3<c.size:=(Array.getElem?_eq_some_iff.1 h4).1
 have k4:o+4<c.size:=(Array.getElem?_eq_some_iff.1 h5).1
 refine⟨_,hs, ?_⟩
 simp only[Array.getElem?_setIfInBounds]
 rcases hy with⟨rfl,rfl⟩|⟨rfl,rfl⟩|⟨rfl,rfl⟩|⟨rfl,rfl⟩<;>simp_all
theorem As.pop {w:World} {base e g m cap:Nat} {xs:List Value} {y:Value} (h:As w base e 1 (.slice (some ⟨g,0,none⟩) (m+1) cap) (m+1) (xs++[y])) (hl:xs.length=m):As w base e 1 (.slice (some ⟨g,0,none⟩) m cap) m xs/\w.cell? ⟨g,m,none⟩=some y/\m<cap:=by
 have h:w.ownsRow base e 1 (.slice (some ⟨g,0,none⟩) (m+1) cap) (m+1) (xs++[y]):=by
  rcases h with h|⟨h0,_⟩
  ·exact h
  ·omega
 obtain⟨_,⟨h,_⟩|⟨g',cap',cur,hv,hg,hh0,hnc,hcap,hsz,htake⟩⟩:=h
 ·simp at h
 simp at hv
 obtain⟨rfl,rfl⟩:=hv
 refine⟨.inl ⟨by omega, .inr ⟨g,cap,cur,rfl,hg,hh0,by omega,hcap,hsz, ?_⟩⟩, ?_,by omega⟩
 ·have:=congrArg (List.take m) htake
  rw[List.take_take] at this
  rw[Nat.mul_one] at this ⊢
  rw[Nat.min_eq_left (by omega)] at this
  rw[this]
  simp[hl]
 ·rw[Af hh0]
  have:=congrArg (fun l=>l[m]?) htake
  simp only[List.getElem?_take] at this
  rw[if_pos (by omega)] at this
  rw[←Array.getElem?_toList,this, ← hl]
  simp
structure Mid (w wr u:World) (C M:Nat) (p:Pd) (y:TV) (vl:Value) (L:List Value) (cp:Nat) (V:Nat->Prop):Prop where
 bx:Do u C #[.map (some M),vl, .int .i64 (cp:Nat)]
 md:Bz u M V
 lf:As u 0 83 1 vl L.length L
 lo:∀g,wrB vl g->w.heap.size<=g
 ho:Holds u p.b p.o y
 on:EQ [p] wr u
 bw:Below w.heap.size w u
 hC:w.heap.size<=C
 hM:w.heap.size<=M
 hv:∀g,V g->g<w.heap.size
 hp:w.heap.size<=p.b

theorem Mid.below {w wr u u' :World} {C M:Nat} {p:Pd} {y:TV} {vl:Value} {L:List Value} {cp:Nat} {V:Nat->Prop} (h:Mid w wr u C M p y vl L cp V) (hb:Below u.heap.size u u'):Mid w wr u' C M p y vl L cp V:=
 ⟨h.bx.step hb,h.md.step hb,h.lf.below hb,h.lo,h.ho.kept (ps:=[]) (EQ.of_below hb) (fun j _ ⟨q,hq,_⟩=>by cases hq),h.on.trans (EQ.of_below (ps:=[p]) hb) (fun _ _ _ hn=>⟨hn,hn⟩),h.bw.trans (hb.mono h.bw.size),h.hC,h.hM,h.hv,h.hp⟩
theorem Mid.set {w wr u:World} {C M:Nat} {p:Pd} {x y:TV} {vl:Value} {L:List Value} {cp:Nat} {V:Nat->Prop} (h:Mid w wr u C M p x vl L cp V) (j:Nat) (v:Value) (hy:(j=1/\y={ x with p:=v })∨(j=2/\y={ x with c:=v })∨(j=3/\y={ x with k:=v })∨(j=4/\y={ x with b:=v })):Mid w wr (u.setCell ⟨p.b,p.o+j,none⟩ v) C M p y vl L cp V:=by
 obtain⟨c,h0,_⟩:=h.ho
 have hCp:¬C=p.b:=fun e=>by
  have:=h.bx
  unfold Do at this;rw[e,h0] at this
  simp at this
 refine⟨h.bx.chg (At u p.b _ v) hCp,h.md.set ⟨c,_,h0⟩ v,h.lf.chg (At u p.b _ v) (fun g hg e=> ?_),h.lo,h.ho.set j v hy,h.on.trans (EQ.set h0 j (by rcases hy with h|h|h|h<;>omega) v) (fun _ _ _ hn=>⟨hn,hn⟩),h.bw.setCell (p:=⟨p.b,p.o+j,none⟩) h.hp v,h.hC,h.hM,h.hv,h.hp⟩
 obtain⟨cur,hc⟩:=h.lf.block g hg
 rw[e,h0] at hc
 simp at hc
theorem Mid.own {w wr u:World} {C M:Nat} {p:Pd} {x:TV} {vl:Value} {L:List Value} {cp:Nat} {V:Nat->Prop} (_h:Mid w wr u C M p x vl L cp V) (hp:p.b<wr.heap.size) {e size n:Nat} {v:Value} {xs:List Value} (ho:As u wr.heap.size e size v n xs) (i:Nat) (v2:Value):As (u.setCell ⟨p.b,i,none⟩ v2) wr.heap.size e size v n xs:=
 ho.chg (At u p.b i v2) (fun g hg e=>by have:=(ho.lt g hg).1;omega)
theorem Mid.kids {w wr u u' :World} {C M:Nat} {p:Pd} {y:TV} {vl vl' :Value} {L L' :List Value} {cp cp' :Nat} {V V' :Nat->Prop} (h:Mid w wr u C M p y vl L cp V) (hc:Chg (fun g=>g=C∨g=M∨wrB vl g) u u') (hb:Do u' C #[.map (some M),vl', .int .i64 (cp' :Nat)]) (hm:Bz u' M V') (hl:As u' 0 83 1 vl' L'.length L') (hlo:∀g,wrB vl' g->wrB vl g∨u.heap.size<=g) (hv:∀g,V' g->g<w.heap.size):Mid w wr u' C M p y vl' L' cp' V' :=by
 have hT:∀g c t,(g=C∨g=M∨wrB vl g)->Jj t->¬u.heap[g]? =some (.cells c t (0,0)):=by
  intro g c t hg ht hh;rcases hg with rfl|rfl|hg
  ·have:=h.bx
   unfold Do at this;rw[hh] at this
   rcases ht with rfl|rfl|rfl|rfl<;>simp at this
  ·obtain⟨es,ck,h1,_⟩:=h.md
   rw[hh] at h1
   simp at h1
  ·obtain⟨cur,h1⟩:=h.lf.block g hg
   rw[hh] at h1
   rcases ht with rfl|rfl|rfl|rfl<;>simp at h1
 have ho:EQ ([]:List Pd) u u' :=EQ.of_chg hc hT
 refine⟨hb,hm,hl,fun g hg=> ?_,h.ho.kept ho (fun j _ ⟨q,hq,_⟩=>by cases hq),h.on.trans ho (fun _ _ _ hn=>⟨hn,fun ⟨q,hq,_⟩=>by cases hq⟩),h.bw.trans (hc.below (fun g _ hg=> ?_) h.bw.size),h.hC,h.hM,hv,h.hp⟩
 ·rcases hlo g hg with h1|h1
  ·exact h.lo g h1
  ·exact Nat.le_trans h.bw.size h1
 ·rcases hg with rfl|rfl|hg
  ·exact h.hC
  ·exact h.hM
  ·exact h.lo g hg
theorem Mid.ownKids {w wr u u' :World} {C M:Nat} {p:Pd} {x:TV} {vl:Value} {L:List Value} {cp:Nat} {V:Nat->Prop} (h:Mid w wr u C M p x vl L cp V) (hc:Chg (fun g=>g=C∨g=M∨wrB vl g) u u') {e size n:Nat} {v:Value} {xs:List Value} (ho:As u wr.heap.size e size v n xs) (he:Jj e):As u' wr.heap.size e size v n xs:=by
 refine ho.chg hc (fun g hg hh=> ?_)
 obtain⟨cur,h1⟩:=ho.block g hg
 rcases hh with rfl|rfl|hh
 ·have:=h.bx
  unfold Do at this;rw[h1] at this
  rcases he with rfl|rfl|rfl|rfl<;>simp at this
 ·obtain⟨es,ck,h2,_⟩:=h.md
  rw[h1] at h2
  simp at h2
 ·obtain⟨cur2,h2⟩:=h.lf.block g hh
  rw[h1] at h2
  rcases he with rfl|rfl|rfl|rfl<;>simp at h2
end
section
open Go.RowKit

structure Ci (d:Bool) (S:Nat) (w wr:World) (C M:Nat) (ps:List Pd) (vl:Value) (cp:Nat) (V:Nat->Prop) (Fin:World->Prop):Prop where
 bx:Do wr C #[.map (some M),vl, .int .i64 (cp:Nat)]
 md:Bz wr M V
 lf:As wr 0 83 1 vl ps.length (ps.map Pd.ptr)
 lo:∀g,wrB vl g->w.heap.size<=g
 bw:Below w.heap.size w wr
 hC:w.heap.size<=C
 hM:w.heap.size<=M
 hv:∀g,V g->g<w.heap.size
 ho:∀p∈ps,Holds wr p.b p.o p.x
 hp:∀p∈ps,w.heap.size<=p.b
 src:∀p∈ps,Src d p.n w p.F p.x p.T
 apt:ps.Pairwise fun p q=>p.b=q.b->p.o+5<=q.o∨q.o+5<=p.o
 dis:d=true->(ps.Pairwise fun p q=>∀g,p.F g->¬q.F g)/\∀p∈ps,∀g,p.F g->¬V g
 sum:cp+Ky ps<=S
 cnt:ps.length+Ky ps<=S+1
 kon:NH wr ps Fin
 sz:∀p∈ps,Az p.n p.T<=1048576

theorem Sm {xs:List TV} (h:∀i,i<xs.length->Slices (Ay xs i)):∀y∈Ap xs,y.oneCell' =true:=by
 intro y hy;obtain⟨x,hx,hy2⟩:=List.mem_flatMap.1 hy
 obtain⟨i,hi,rfl⟩:=List.getElem_of_mem hx
 have e:Ay xs i=xs[i]:=by simp[Ay,List.getD,hi]
 have:=h i hi
 rw[e] at this
 obtain⟨r1,r2,r3,r4,z1,z2,z3,z4,s1,s2,s3,s4,hs⟩:=this
 rw[hs] at hy2
 simp[TV.cells] at hy2
 rcases hy2 with rfl|rfl|rfl|rfl|rfl<;>rfl
theorem XY {c:Array Value} (h:c.size=5):∃z0 z1 z2 z3 z4,c= #[z0,z1,z2,z3,z4]:=by
 obtain⟨l⟩:=c
 rcases l with _|⟨a,_|⟨b,_|⟨c,_|⟨d,_|⟨e,_|⟨f,l⟩⟩⟩⟩⟩⟩<;>simp at h
 exact⟨a,b,c,d,e,rfl⟩

theorem Uq {u:World} {C:Nat} {A:Array Value} (h:Do u C A):∀g c t,g=C->Jj t->¬u.heap[g]? =some (.cells c t (0,0)):=by
 intro g c t hg ht hh;subst hg;unfold Do at h;rw[hh] at h
 rcases ht with rfl|rfl|rfl|rfl<;>simp at h

theorem Ci.shape {d:Bool} {S:Nat} {w wr:World} {C M:Nat} {ps:List Pd} {vl:Value} {cp:Nat} {V:Nat->Prop} {Fin:World->Prop} (h:Ci d S w wr C M ps vl cp V Fin):∃a q,vl= .slice a ps.length q:=h.lf.slice
theorem Ci.pop {d:Bool} {S:Nat} {w wr:World} {C M:Nat} {qs:List Pd} {p:Pd} {vl:Value} {cp:Nat} {V:Nat->Prop} {Fin:World->Prop} (h:Ci d S w wr C M (qs++[p]) vl cp V Fin):∃g q,vl= .slice (some ⟨g,0,none⟩) (qs.length+1) q/\qs.length<q/\wr.cell? ⟨g,qs.length,none⟩=some p.ptr/\Mid w wr (wr.setCell ⟨C,1,none⟩ (.slice (some ⟨g,0,none⟩) qs.length q)) C M p p.x (.slice (some ⟨g,0,none⟩) qs.length q) (qs.map Pd.ptr) cp V:=by
 have hl:=h.lf
 rw[List.length_append,List.map_append] at hl
 obtain⟨g,q,hv,hq,hle⟩:=hl.pos (by simp)
 simp only[List.length_cons,List.length_nil] at hv hl hle
 subst hv;obtain⟨h1,h2,h3⟩:=As.pop (m:=qs.length) (xs:=qs.map Pd.ptr) (y:=p.ptr) hl (by simp)
 have hon:∀ps:List Pd,EQ ps wr (wr.setCell ⟨C,1,none⟩ (.slice (some ⟨g,0,none⟩) qs.length q)):=fun ps=>EQ.of_chg (At wr C 1 _) (Uq h.bx)
 have hCl:¬wrB (.slice (some ⟨g,0,none⟩) qs.length q) C:=h.bx.apart h1 (by decide)
 refine⟨g,q,rfl,h3,h2,h.bx.set1 _,h.md.set ⟨_,_,h.bx⟩ _, ?_,fun g' hg' =>h.lo g' ?_,(h.ho p (by simp)).kept (hon []) (fun j _ ⟨q,hq,_⟩=>by cases hq),hon _,h.bw.setCell (p:=⟨C,1,none⟩) h.hC _,h.hC,h.hM,h.hv,h.hp p (by simp)⟩
 ·rw[List.length_map]
  exact h1.chg (At wr C 1 _) (fun g' hg' e=>hCl (e ▸ hg'))
 ·obtain⟨_,_,he,hc⟩:=hg'
  simp at he
  obtain⟨rfl,_,rfl⟩:=he
  exact⟨_,_,rfl,hc⟩

theorem VF {u:World} {base K Q i:Nat} {xs:List TV} (h:As u base 29 5 (.slice (some ⟨K,0,none⟩) xs.length Q) xs.length (Ap xs)) (hi:i<xs.length):Holds u K (i*5) (Ay xs i):=by
 have h:u.ownsRow base 29 5 (.slice (some ⟨K,0,none⟩) xs.length Q) xs.length (Ap xs):=by
  rcases h with h|⟨h0,_⟩
  ·exact h
  ·omega
 obtain⟨hl,⟨h,_⟩|⟨g,cap,cur,hv,hg,hh0,hnc,hcap,hsz,htake⟩⟩:=h
 ·simp at h
 simp at hv
 obtain⟨rfl,rfl⟩:=hv
 obtain⟨f1,f2,f3,f4,f5⟩:=Et xs i hi
 rw[←htake] at f1 f2 f3 f4 f5
 simp only[List.getElem?_take,Array.getElem?_toList] at f1 f2 f3 f4 f5
 rw[if_pos (by omega)] at f1 f2 f3 f4 f5
 exact⟨cur,hh0,f1,f2,f3,f4,f5⟩

theorem Ci.next {d:Bool} {S n b K:Nat} {w wr u:World} {C M:Nat} {qs:List Pd} {p:Pd} {vl vl' :Value} {cp:Nat} {V:Nat->Prop} {Fin:World->Prop} {xs:List TV} {KF:Nat->Nat->Prop} {vp vc vk vb:Value} (h:Ci d S w wr C M (qs++[p]) vl cp V Fin) (hpn:p.n=n+1)
  (m:Mid w wr u C M p ⟨p.x.lf,vp,vc,vk,vb⟩ vl' (qs.map Pd.ptr++Gr K xs.length) (cp+Cs xs xs.length) (fun g=>V g∨(0<xs.length/\g=b)))
  (hlf:p.x.lf=p.T.leaf) (o1:As u wr.heap.size 63 2 vp p.T.pairs.length (Au p.T.pairs)) (o2:As u wr.heap.size 3 1 vc p.T.cuts.length (Ab p.T.cuts)) (o3:As u wr.heap.size 31 3 vb p.T.buf.length (Al p.T.buf))
  (hx:xs.length=p.T.kids.length) (o4:As u wr.heap.size 29 5 vk xs.length (Ap xs)) (hK:0<xs.length->∃Q,vk= .slice (some ⟨K,0,none⟩) xs.length Q)
  (hs:∀i,i<xs.length->Src d n w (KF i) (Ay xs i) (p.T.kids.getD i Ah)) (hd:d=true->(0<xs.length->p.F b/\∀i,i<xs.length->¬KF i b)/\(∀i g,i<xs.length->KF i g->p.F g)/\∀i j g,i<j->j<xs.length->KF i g->¬KF j g) :
  Ci d S w u C M (qs++Ep K n xs p.T.kids KF) vl' (cp+Cs xs xs.length) (fun g=>V g∨(0<xs.length/\g=b)) Fin:=by
 have hap:=List.pairwise_append.1 h.apt
 have hpb:p.b<wr.heap.size:=(h.ho p (by simp)).lt
 have hqb:∀q∈qs,q.b<wr.heap.size:=fun q hq=>(h.ho q (by simp[hq])).lt
 have hapq:∀q∈qs,q.b=p.b->q.o+5<=p.o∨p.o+5<=q.o:=fun q hq=>hap.2.2 q hq p (by simp)
 have hQ:∀q∈qs,Holds u q.b q.o q.x:=fun q hq=>(h.ho q (by simp[hq])).kept m.on (fun j hj ⟨r,hr,e,e1,e2⟩=>by
  simp at hr
  subst hr;rcases hapq q hq e.symm with k|k<;>omega)
 have hKw:0<xs.length->wr.heap.size<=K:=fun hn=>by
  obtain⟨g,q,hv,hq,_⟩:=o4.pos hn
  obtain⟨Q,hv2⟩:=hK hn
  rw[hv] at hv2
  have e:g=K:=by simpa[Value.ownBlock] using(congrArg Value.ownBlock hv2)
  exact(o4.lt K ⟨_,_,e ▸ hv,hq⟩).1
 have hkz:=T9 (K0:=K) hx hs
 have hsum:=h.sum
 have hcnt:=h.cnt
 rw[Gz,Ka,hpn] at hsum hcnt
 rw[List.length_append] at hcnt
 have hge:=OZ xs xs.length (Nat.le_refl _)
 refine⟨m.bx,m.md, ?_,m.lo,m.bw,m.hC,m.hM,m.hv,fun q hq=> ?_,fun q hq=> ?_,fun q hq=> ?_, ?_,fun hdt=>⟨?_,fun q hq g hg=> ?_⟩, ?_, ?_, ?_,fun q hq=> ?_⟩
 ·have:=m.lf
  rw[List.length_append,FZ,List.map_append,UL]
  rw[List.length_append,List.length_map,Hy] at this
  exact this
 ·rcases List.mem_append.1 hq with k|k
  ·exact hQ q k
  ·obtain⟨i,hi,rfl⟩:=D9 k
   obtain⟨Q,hv2⟩:=hK (by omega)
   subst hv2;exact VF o4 hi
 ·rcases List.mem_append.1 hq with k|k
  ·exact h.hp q (by simp[k])
  ·obtain⟨i,hi,rfl⟩:=D9 k
   exact Nat.le_trans h.bw.size (hKw (by omega))
 ·rcases List.mem_append.1 hq with k|k
  ·exact h.src q (by simp[k])
  ·obtain⟨i,hi,rfl⟩:=D9 k
   exact hs i hi
 ·refine List.pairwise_append.2 ⟨hap.1, ?_,fun q hq r hr e=> ?_⟩
  ·unfold Ep;rw[List.pairwise_map]
   exact List.pairwise_lt_range.imp (fun hij _=>by simp only;omega)
  ·obtain⟨i,hi,rfl⟩:=D9 hr
   have:=hKw (by omega)
   have:=hqb q hq
   simp only at e
   omega
 ·obtain⟨e1,e2,e3⟩:=hd hdt
  have hdd:=List.pairwise_append.1 (h.dis hdt).1
  refine List.pairwise_append.2 ⟨hdd.1, ?_,fun q hq r hr g hg hg' => ?_⟩
  ·unfold Ep;rw[List.pairwise_map]
   refine List.Pairwise.imp_of_mem ?_ List.pairwise_lt_range
   intro i j hi hj hij g hg;exact e3 i j g hij (List.mem_range.1 hj) hg
  ·obtain⟨i,hi,rfl⟩:=D9 hr
   exact hdd.2.2 q hq p (by simp) g hg (e2 i g hi hg')
 ·obtain⟨e1,e2,e3⟩:=hd hdt
  have hdd:=List.pairwise_append.1 (h.dis hdt).1
  rcases List.mem_append.1 hq with k|k
  ·rintro(hV|⟨hn,rfl⟩)
   ·exact(h.dis hdt).2 q (by simp[k]) g hg hV
   ·exact hdd.2.2 q k p (by simp) g hg (e1 hn).1
  ·obtain⟨i,hi,rfl⟩:=D9 k
   rintro(hV|⟨hn,rfl⟩)
   ·exact(h.dis hdt).2 p (by simp) g (e2 i g hi hg) hV
   ·exact(e1 hn).2 i hi hg
 ·rw[Gz]
  omega
 ·rw[Gz,List.length_append,FZ]
  simp only[List.length_cons,List.length_nil] at hcnt
  omega
 ·exact NH.step h.kon hpn m.on hqb hpb hapq m.ho hlf o1 o2 o3 hx o4 hK
 ·rcases List.mem_append.1 hq with k|k
  ·exact h.sz q (by simp[k])
  ·obtain⟨i,hi,rfl⟩:=D9 k
   have h1:=h.sz p (by simp)
   rw[hpn] at h1
   have h2:=G8 (n:=n) (T:=p.T) (i:=i) (by omega)
   show Az n (p.T.kids.getD i Ah)<=_
   unfold AV at h2;omega
end
end Go.Proofs.YtnakaabnjelffaaGreat
