/-
  What map a tree tells, as plain functions: kid by kid as the model says it, leaf by leaf as the program does; plain mathematics.
  Appending to a row of one's own: one element that was just laid; a whole list.
  Contracts of the program's messages behind an interface, and of its sum at the limit.
-/
import Derived.Test.YtebglpllkjgjbaaGreatOfBuild6
import Derived.Test.YtebglpllkjgjbaaGreatOfBuild2
import Derived.Laws.AppendOwnNone
import Derived.Test.YtebglpllkjgjbaaGreatOfBuild3
namespace Go.Proofs.YtebglpllkjgjbaaGreat
set_option maxRecDepth 100000
set_option maxHeartbeats 8000000
section
theorem Fi {A B:PL} {k:Int} (h:∀p∈B,p.1≠k):AA (A++B) k=AA A k:=by
 induction A with
 |nil=>
  show AA B k=(0,false)
  induction B with
  |nil=>rfl
  |cons p B ih=>rw[AA,if_neg (h p List.mem_cons_self)];exact ih fun q hq=>h q (List.mem_cons_of_mem _ hq)
 |cons p A ih=>rw[List.cons_append,AA,AA,ih]
theorem Gv {A B:PL} {k:Int} (h:∀p∈A,p.1≠k):AA (A++B) k=AA B k:=by
 induction A with
 |nil=>rfl
 |cons p A ih=>rw[List.cons_append,AA,if_neg (h p List.mem_cons_self)];exact ih fun q hq=>h q (List.mem_cons_of_mem _ hq)
theorem Tv {l:PL} {k:Int} (h:∀p∈l,p.1≠k):AA l k=(0,false):=by
 have:=Fi (A:=[]) h
 simpa[AA] using this
theorem RX {A B:PL} {c:Int} (hA:Asc A) (hB:Asc B) (h1:∀p∈A,p.1<c) (h2:∀p∈B,c<=p.1):Asc (A++B):=by
 show(Bo (A++B)).Pairwise (· < ·)
 rw[Bo,List.map_append]
 refine List.pairwise_append.2 ⟨hA,hB,fun a ha b hb=> ?_⟩
 obtain⟨p,hp,rfl⟩:=List.mem_map.1 ha
 obtain⟨q,hq,rfl⟩:=List.mem_map.1 hb
 have:=h1 p hp
 have:=h2 q hq
 omega
theorem Ui:∀ {l1 l2:PL},Asc l1->Asc l2->(∀k,AA l1 k=AA l2 k)->l1=l2
 |[],[],_,_,_=>rfl
 |[],q::l2,_,_,h=>by have:=h q.1;rw[AA,AA,if_pos rfl] at this;simp at this
 |p::l1,[],_,_,h=>by have:=h p.1;rw[AA,AA,if_pos rfl] at this;simp at this
 |p::l1,q::l2,h1,h2,h=>by
  obtain⟨a1,a2⟩:=h1.cons
  obtain⟨b1,b2⟩:=h2.cons
  have n1:∀j,j<=p.1->AA l1 j=(0,false):=fun j hj=>Tv fun r hr=>by have:=a1 r hr;omega
  have n2:∀j,j<=q.1->AA l2 j=(0,false):=fun j hj=>Tv fun r hr=>by have:=b1 r hr;omega
  have hk:p.1=q.1:=by
   rcases Int.lt_trichotomy p.1 q.1 with hlt|he|hgt
   ·have:=h p.1
    rw[AA,if_pos rfl,AA,if_neg (by omega),n2 _ (by omega)] at this
    simp at this
   ·exact he
   ·have:=h q.1
    rw[AA,if_neg (by omega),n1 _ (by omega),AA,if_pos rfl] at this
    simp at this
  have hv:=h p.1
  rw[AA,if_pos rfl,AA,if_pos hk.symm] at hv
  have hpq:p=q:=Prod.ext hk (by simpa using hv)
  subst hpq;rw[Ui a2 b2 fun j=> ?_]
  by_cases hj:p.1=j
  ·subst hj;rw[n1 _ (Int.le_refl _),n2 _ (Int.le_refl _)]
  ·have:=h j
   rw[AA,if_neg hj,AA,if_neg hj] at this
   exact this

theorem Oh:∀ {l:PL} {lo:Int},Asc l->lo<=1000->(∀p∈l,lo<=p.1/\p.1<=999)->(l.length:Int)<=1000-lo
 |[],lo,_,h,_=>by simp;omega
 |p::l,lo,hA,hlo,h=>by
  obtain⟨h1,h2⟩:=hA.cons
  have hp:=h p List.mem_cons_self
  have:=Oh (lo:=p.1+1) h2 (by omega) fun q hq=>⟨by have:=h1 q hq;omega,(h q (List.mem_cons_of_mem _ hq)).2⟩
  simp only[List.length_cons]
  omega
theorem CY.length {l:PL} (h:CY l):l.length<=1000:=by
 have:=Oh (lo:=0) h.1 (by decide) fun p hp=>(h.2 p hp).1
 omega

def Gc (lo hi:Int) (l:PL):Prop:=∀p∈l,lo<=p.1/\p.1<hi
def FP:Int->Int->List Int->List PL->Prop
 |lo,hi,[],[M]=>CY M/\Gc lo hi M
 |lo,hi,c::cs,M::Ms=>(CY M/\Gc lo c M)/\lo<c/\c<hi/\FP c hi cs Ms
 |_,_,_,_=>False
theorem Qd {A B:PL} {c:Int} (hA:CY A) (hB:CY B) (h1:∀p∈A,p.1<c) (h2:∀p∈B,c<=p.1):CY (A++B):=
 ⟨RX hA.1 hB.1 h1 h2,fun p hp=>(List.mem_append.1 hp).elim (hA.2 p) (hB.2 p)⟩
theorem FP.flat:∀ {cs:List Int} {lo hi:Int} {Ms:List PL},FP lo hi cs Ms->CY Ms.flatten/\Gc lo hi Ms.flatten
 |[],_,_,[M],h=>by rw[List.flatten_cons,List.flatten_nil,List.append_nil];exact h
 |[],_,_,[],h=>h.elim
 |[],_,_,_::_::_,h=>h.elim
 |_::_,_,_,[],h=>h.elim
 |c::cs,lo,hi,M::Ms,⟨⟨h1,h2⟩,h3,h4,h5⟩=>by
  obtain⟨h6,h7⟩:=FP.flat h5
  rw[List.flatten_cons]
  refine⟨Qd h1 h6 (fun p hp=>(h2 p hp).2) (fun p hp=>(h7 p hp).1),fun p hp=> ?_⟩
  rcases List.mem_append.1 hp with hp|hp
  ·have:=h2 p hp;omega
  ·have:=h7 p hp;omega
theorem EZ {c k:Int} {cs:List Int} (h:c<=k):AJ (c::cs) k=AJ cs k+1:=by
 simp only[AJ]
 rw[List.takeWhile_cons_of_pos (by simpa using h),List.length_cons]
theorem Gi {c k:Int} {cs:List Int} (h:¬c<=k):AJ (c::cs) k=0:=by simp[AJ,h]
theorem FP.get:∀ {cs:List Int} {lo hi:Int} {Ms:List PL} (k:Int),FP lo hi cs Ms->AA Ms.flatten k=AA (Ms.getD (AJ cs k) []) k
 |[],_,_,[M],k,_=>by simp[AJ]
 |[],_,_,[],_,h=>h.elim
 |[],_,_,_::_::_,_,h=>h.elim
 |_::_,_,_,[],_,h=>h.elim
 |c::cs,lo,hi,M::Ms,k,⟨⟨h1,h2⟩,h3,h4,h5⟩=>by
  rw[List.flatten_cons]
  by_cases hc:c<=k
  ·rw[EZ hc,List.getD_cons_succ, ← FP.get k h5]
   exact Gv fun p hp=>by have:=h2 p hp;omega
  ·rw[Gi hc,List.getD_cons_zero]
   exact Fi fun p hp=>by have:=(FP.flat h5).2 p hp;omega

def frC (cs:List Int) (lo:Int) (i:Nat):Int:=if i=0 then lo else iAt cs (i-1)
def toC (cs:List Int) (hi:Int) (i:Nat):Int:=if i<cs.length then iAt cs i else hi
theorem FP.of:∀ {cs:List Int} {lo hi:Int} {Ms:List PL},Ms.length=cs.length+1->(∀i,i<cs.length->frC cs lo i<iAt cs i/\iAt cs i<hi)→
  (∀i,i<Ms.length->CY (Ms.getD i [])/\Gc (frC cs lo i) (toC cs hi i) (Ms.getD i []))->FP lo hi cs Ms
 |[],lo,hi,[M],_,_,h=>by simpa[frC,toC,FP] using h 0 (by simp)
 |[],_,_,[],hl,_,_=>by simp at hl
 |[],_,_,_::_::_,hl,_,_=>by simp at hl
 |_::_,_,_,[],hl,_,_=>by simp at hl
 |c::cs,lo,hi,M::Ms,hl,hc,h=>by
  have h0:=h 0 (by simp)
  have c0:=hc 0 (by simp)
  simp only[frC,toC,if_true,List.length_cons,Nat.zero_lt_succ,iAt,List.getD_cons_zero] at h0 c0
  refine⟨h0,c0.1,c0.2,FP.of (by simpa using hl) (fun i hi0=> ?_) (fun i hi0=> ?_)⟩
  ·have:=hc (i+1) (by simpa using hi0)
   simp only[frC,iAt,Nat.add_one_ne_zero,if_false,Nat.add_sub_cancel,List.getD_cons_succ] at this ⊢
   cases i with
   |zero=>simpa using this
   |succ i=>simpa using this
  ·have:=h (i+1) (by simpa using hi0)
   simp only[frC,toC,iAt,Nat.add_one_ne_zero,if_false,Nat.add_sub_cancel,List.getD_cons_succ,List.length_cons,Nat.add_lt_add_iff_right] at this ⊢
   cases i with
   |zero=>simpa using this
   |succ i=>simpa using this

def Ey:Nat->Tr->PL
 |0,_=>[]
 |n+1,T=>Cg (T.pairs++(T.kids.map (Ey n)).flatten) T.buf
def mineK (cs:List Int) (i:Nat) (ms:ML):ML:=ms.filter fun m=>decide (Fa cs m.2.1 cs.length=i)
def C5:Nat->Tr->ML->PL
 |0,_,_=>[]
 |n+1,T,ab=>if T.leaf=true then Cg T.pairs ab else ((List.range T.kids.length).map fun i=>C5 n (Bb T i) (mineK T.cuts i (T.buf++ab))).flatten

theorem Yc {l:PL} {m:Int × Int × Int} {p:Int × Int} (h:p∈doL l m):p∈l∨p.1=m.2.1:=by
 have hput:∀v,p∈Cc l m.2.1 v->p∈l∨p.1=m.2.1:=fun v hp=>by
  rcases List.mem_append.1 hp with h1|h1
  ·exact .inl (List.mem_filter.1 h1).1
  ·rcases List.mem_cons.1 h1 with rfl|h2
   ·exact .inr rfl
   ·exact .inl (List.mem_filter.1 h2).1
 unfold doL at h;split at h
 ·unfold doP at h;split at h
  ·exact hput _ h
  ·split at h
   ·exact .inl (List.mem_filter.1 h).1
   ·split at h
    ·exact hput _ h
    ·exact .inl h
 ·exact .inl h
theorem JK {l:PL} {ms:ML} {lo hi:Int} (h:Gc lo hi l) (hm:∀m∈ms,lo<=m.2.1/\m.2.1<hi):Gc lo hi (Cg l ms):=by
 induction ms generalizing l with
 |nil=>exact h
 |cons m ms ih=>
  refine ih (l:=doL l m) (fun p hp=> ?_) fun x hx=>hm x (List.mem_cons_of_mem _ hx)
  rcases Yc hp with h1|h1
  ·exact h p h1
  ·rw[h1];exact hm m List.mem_cons_self

theorem Ip {T:Tr} {lo hi:Int} (h:Fr T lo hi=true):∀i,i<T.cuts.length->frC T.cuts lo i<iAt T.cuts i/\iAt T.cuts i<hi:=by
 intro i hi0;have:=Ew.1 (Hm h hi0)
 simp only[Dw] at this
 unfold frC;omega
theorem NK {m:Nat} {T:Tr} {lo hi:Int} (h:AG (m+1) T lo hi≠0) (hl:T.leaf=false):∀i,i<T.kids.length->AG m (Bb T i) (frC T.cuts lo i) (toC T.cuts hi i)≠0:=(Bj h hl).2
theorem Ij {m:Nat} {T:Tr} {k:Int} (hl:T.leaf=false):JG (m+1) T k=Fu (JG m (Qo T k) k) (ofK T.buf k):=by
 rw[JG,Rl,NQ,if_neg (by rw[hl];simp),if_neg (by rw[hl];simp),Hz];rfl
theorem Ir {m:Nat} {T:Tr} {k:Int} (hl:T.leaf=true):JG (m+1) T k=AA T.pairs k:=by
 rw[JG,Rl,NQ,if_pos hl,if_pos hl];rfl

theorem Ik:∀ {m:Nat} {T:Tr} {lo hi:Int},AG m T lo hi≠0->CY (Ey m T)/\Gc lo hi (Ey m T)/\∀k,AA (Ey m T) k=JG m T k
 |0,_,_,_,h=>absurd rfl h
 |m+1,T,lo,hi,h=>by
  cases hl:T.leaf
  ·have hf:=(Bj h hl).1
   obtain⟨q1,q2,q3,q4,q5,q6⟩:=Bv hf
   have hk:=NK h hl
   have hb:=Gz q5
   have C:FP lo hi T.cuts (T.kids.map (Ey m)):=by
    refine FP.of (by rw[List.length_map];omega) (Ip q6) fun i hi0=> ?_
    rw[List.length_map] at hi0
    have e:(T.kids.map (Ey m)).getD i []=Ey m (Bb T i):=by simp[List.getD,Bb,hi0]
    rw[e]
    have:=Ik (hk i hi0)
    exact⟨this.1,this.2.1⟩
   obtain⟨f1,f2⟩:=C.flat
   rw[Ey,q1,List.nil_append]
   refine⟨JX f1 _,JK f2 fun x hx=>(hb x hx).2,fun k=> ?_⟩
   have hi0:=Ub hf k
   rw[JT f1,C.get k,Ij hl]
   have e:(T.kids.map (Ey m)).getD (AJ T.cuts k) []=Ey m (Qo T k):=by simp[List.getD,Bb,Qo,hi0]
   have e2:AA (Ey m (Qo T k)) k=JG m (Qo T k) k:=(Ik (hk _ hi0)).2.2 k
   rw[e,e2]
  ·obtain⟨q1,q2,q3,q4,q5,q6⟩:=Cq (Bl h hl)
   have e:Ey (m+1) T=T.pairs:=by rw[Ey,q3,q4];simp[Cg]
   rw[e]
   exact⟨q1,q6,fun k=>(Ir hl).symm⟩

theorem Hy {cs:List Int} {lo hi k:Int} {i:Nat} (hlen:i<=cs.length) (h:∀i,i<cs.length->frC cs lo i<iAt cs i/\iAt cs i<hi) (hk:lo<=k/\k<hi) (e:AJ cs k=i):frC cs lo i<=k/\k<toC cs hi i:=by
 induction cs generalizing lo i with
 |nil=>simp at hlen;subst hlen;simpa[frC,toC] using hk
 |cons c cs ih=>
  have c0:=h 0 (by simp)
  simp only[frC,if_true,iAt,List.getD_cons_zero] at c0
  have hs:∀i,i<cs.length->frC cs c i<iAt cs i/\iAt cs i<hi:=fun i hi0=>by
   have:=h (i+1) (by simpa using hi0)
   simp only[frC,iAt,Nat.add_one_ne_zero,if_false,Nat.add_sub_cancel,List.getD_cons_succ] at this ⊢
   cases i with
   |zero=>simpa using this
   |succ i=>simpa using this
  by_cases hc:c<=k
  ·rw[EZ hc] at e
   subst e;have:=ih (lo:=c) (i:=AJ cs k) (by simpa using hlen) hs ⟨hc,hk.2⟩ rfl
   simp only[frC,toC,iAt,Nat.add_one_ne_zero,if_false,Nat.add_sub_cancel,List.getD_cons_succ,List.length_cons,Nat.add_lt_add_iff_right] at this ⊢
   generalize AJ cs k=j at *
   cases j with
   |zero=>simpa using this
   |succ j=>simpa using this
  ·rw[Gi hc] at e
   subst e;simp only[frC,toC,if_true,List.length_cons,Nat.zero_lt_succ,iAt,List.getD_cons_zero]
   omega
theorem UG {cs:List Int} {k:Int} {i:Nat} (ms:ML) (e:Fa cs k cs.length=i):ofK (mineK cs i ms) k=ofK ms k:=by
 unfold ofK mineK;rw[List.filter_filter]
 refine List.filter_congr fun m _=> ?_
 by_cases hm:m.2.1=k
 ·simp[hm,e]
 ·simp[hm]

theorem Lm:∀ {m:Nat} {T:Tr} {lo hi:Int} {ab:ML},AG m T lo hi≠0->(∀x∈ab,lo<=x.2.1/\x.2.1<hi)→
  CY (C5 m T ab)/\Gc lo hi (C5 m T ab)/\∀k,AA (C5 m T ab) k=Fu (JG m T k) (ofK ab k)
 |0,_,_,_,_,h,_=>absurd rfl h
 |m+1,T,lo,hi,ab,h,hab=>by
  cases hl:T.leaf
  ·have hf:=(Bj h hl).1
   obtain⟨q1,q2,q3,q4,q5,q6⟩:=Bv hf
   have hk:=NK h hl
   have hb:=Gz q5
   have hall:∀x∈T.buf++ab,lo<=x.2.1/\x.2.1<hi:=fun x hx=>(List.mem_append.1 hx).elim (fun h=>(hb x h).2) (hab x)
   have hcp:∀k,Fa T.cuts k T.cuts.length=AJ T.cuts k:=fun k=>Om (We q6)
   have hmine:∀i,i<T.kids.length->∀x∈mineK T.cuts i (T.buf++ab),frC T.cuts lo i<=x.2.1/\x.2.1<toC T.cuts hi i:=fun i hi0 x hx=>by
    obtain⟨h1,h2⟩:=List.mem_filter.1 hx
    rw[decide_eq_true_eq,hcp] at h2
    exact Hy (by omega) (Ip q6) (hall x h1) h2
   have e:∀i,i<T.kids.length->((List.range T.kids.length).map fun i=>C5 m (Bb T i) (mineK T.cuts i (T.buf++ab))).getD i []=C5 m (Bb T i) (mineK T.cuts i (T.buf++ab)):=fun i hi0=>by simp[List.getD,hi0]
   have C:FP lo hi T.cuts ((List.range T.kids.length).map fun i=>C5 m (Bb T i) (mineK T.cuts i (T.buf++ab))):=by
    refine FP.of (by simp;omega) (Ip q6) fun i hi0=> ?_
    rw[List.length_map,List.length_range] at hi0
    rw[e i hi0]
    have:=Lm (hk i hi0) (hmine i hi0)
    exact⟨this.1,this.2.1⟩
   obtain⟨f1,f2⟩:=C.flat
   rw[C5,if_neg (by rw[hl];simp)]
   refine⟨f1,f2,fun k=> ?_⟩
   have hi0:=Ub hf k
   rw[C.get k,Ij hl,e _ hi0,(Lm (hk _ hi0) (hmine _ hi0)).2.2 k,UG _ (hcp k),LW,Hz];rfl
  ·obtain⟨q1,q2,q3,q4,q5,q6⟩:=Cq (Bl h hl)
   rw[C5,if_pos hl]
   exact⟨JX q1 _,JK q6 hab,fun k=>by rw[JT q1,Ir hl]⟩

theorem V5 {T:Tr} (h:okT T=true):C5 7 T []=Ey 7 T:=by
 have h1:=Ik (GR h)
 have h2:=Lm (ab:=[]) (GR h) (fun x hx=>by simp at hx)
 exact Ui h2.1.1 h1.1.1 fun k=>by rw[h2.2.2 k,h1.2.2 k];rfl

def Yi (l:PL) (lo hi:Int):PL:=l.filter fun p=>decide (lo<=p.1/\p.1<hi)
end
section
open Go.RowKit

theorem Ef {w w' :World} {r:Option Nat} (h:w.grownBy w' r):Chg (fun g=>r=some g) w w':=
 ⟨h.os,h.tape,h.output,h.size,fun k hk hn=>h.block k hk (fun e=>hn e.symm)⟩
theorem Hc {w w' :World} {base e size n:Nat} {v:Value} {xs:List Value} (h:w.ownsRow base e size v n xs) (hc:Chg (fun g=>v.ownBlock=some g) w w') (hb:base<=w.heap.size):Below base w w':=
 hc.below (fun g _ hg=>(h.lt g hg).1) hb

theorem BJ {P:Program} {ops:Array Oper} {rest:List Oper} {o:Oper} {a:Act} {Q:Exit->Act->World->Prop} (W:World) (hgd:o.guard=none) (s x:Operand) (t:TypeId)
  (ho:o.op= .call { callee:= .builtin .append,args:= #[s,x],argTypes:= #[t,t] })
  (base:Nat) (e:TypeId) (i:TypeInfo) (z:Value) (size bytes:Nat) (ht:P.underlying t=some (.slice e)) (hi:P.info? e=some i) (hz:i.zero=some z)
  (hsize:i.size=size) (hby:i.bytes=bytes) (hzs:z.cells.size=size) (hsz:0<size)
  (v:Value) (n:Nat) (xs:List Value) (hs:a.eval s=v) (hown:W.ownsRow base e size v n xs)
  (news:List Value) (hx:a.eval x= .slice (some ⟨W.heap.size,0,none⟩) 1 1) (hl:news.length=size) (h1:∀u∈news,u.oneCell' =true)
  (h63:n+1<=maxLen) (hbytes:(n+1)*bytes<=140737488355328) (hbase:base<=W.heap.size)
  (h:∀v' w',w'.ownsRow base e size v' (n+1) (xs++news)->Chg (fun g=>v.ownBlock=some g) W w' ->Below base W w' ->wpList P ops Q rest (a.put o.dst v') w') :
  wpList P ops Q (o::rest) a (W.alloc (.cells news.toArray e)):=by
 refine wpList_append_own _ hgd s x t ho base e i z size bytes ht hi hz hsize hby hzs hsz v n xs hs (hown.alloc _) ⟨W.heap.size,0,none⟩ 1 1 news hx (by omega) ?_ h1 h63 hbytes (by simp;omega) ?_
 ·intro j u hj;rw[Go.WideShapes.add_plain,Nat.zero_add,Ae (heap_alloc_new W _)]
  simpa using hj
 ·intro v' w' h2 h3 _;have hc:Chg (fun g=>v.ownBlock=some g) W w' :=((Chg.refl _ _).alloc _).trans (Ef h3) (fun _ _ e=>e)
  exact h v' w' h2 hc (Hc hown hc hbase)

theorem E7 {P:Program} {ops:Array Oper} {rest:List Oper} {o:Oper} {a:Act} {Q:Exit->Act->World->Prop} (W:World) (hgd:o.guard=none) (s x:Operand) (t:TypeId)
  (ho:o.op= .call { callee:= .builtin .append,args:= #[s,x],argTypes:= #[t,t] })
  (base:Nat) (e:TypeId) (i:TypeInfo) (z:Value) (size bytes:Nat) (ht:P.underlying t=some (.slice e)) (hi:P.info? e=some i) (hz:i.zero=some z)
  (hsize:i.size=size) (hby:i.bytes=bytes) (hzs:z.cells.size=size) (hsz:0<size)
  (v:Value) (n:Nat) (xs:List Value) (hs:a.eval s=v) (hown:W.ownsRow base e size v n xs)
  (u:Value) (m:Nat) (news:List Value) (hx:a.eval x=u) (hr:Row W u m news) (hl:news.length=m*size) (h1:∀y∈news,y.oneCell' =true)
  (h63:n+m<=maxLen) (hbytes:(n+m)*bytes<=140737488355328) (hbase:base<=W.heap.size)
  (h:∀v' w',w'.ownsRow base e size v' (n+m) (xs++news)->Chg (fun g=>v.ownBlock=some g) W w' ->Below base W w' ->wpList P ops Q rest (a.put o.dst v') w') :
  wpList P ops Q (o::rest) a W:=by
 obtain⟨sa,b,off,cap,rfl,hle,hmx,hsa,hcell,hnil⟩:=hr
 cases sa with
 |none=>
  have hc0:=hnil rfl
  have hm0:m=0:=by omega
  subst hc0;subst hm0;have hn0:news=[]:=List.length_eq_zero_iff.1 (by omega)
  subst hn0;refine wpList_append_own_none hgd s x t ho base e i size ht hi v n xs hs hown hx ?_
  exact h v W (by simpa using hown) (Chg.refl _ _) (Below.refl _ _)
 |some ad=>
  refine wpList_append_own _ hgd s x t ho base e i z size bytes ht hi hz hsize hby hzs hsz v n xs hs hown ad m cap news hx hl ?_ h1 h63 hbytes hbase ?_
  ·intro j y hj;have hjl:=(List.getElem?_eq_some_iff.1 hj).1
   have hm:0<m:=by
    rcases Nat.eq_zero_or_pos m with h0|h0
    ·subst h0;omega
    ·exact h0
   have:=hsa hm
   simp only[Option.some.injEq] at this
   subst this;rw[Go.WideShapes.add_plain]
   exact hcell j y hj
  ·intro v' w' h2 h3 _;have hc:=Ef h3
   exact h v' w' h2 hc (Hc hown hc hbase)

theorem DJ (l:List (Int × Int)):∀y∈Af l,y.oneCell' =true:=by
 induction l with
 |nil=>intro y hy;simp[Af] at hy
 |cons p l ih=>
  intro y hy;rw[show Af (p::l)= .int .i64 p.1:: .int .i64 p.2::Af l from rfl] at hy
  rcases List.mem_cons.1 hy with rfl|hy
  ·rfl
  ·rcases List.mem_cons.1 hy with rfl|hy
   ·rfl
   ·exact ih y hy
theorem FV (a b:Int):∀u∈[Value.int .i64 a,Value.int .i64 b],u.oneCell' =true:=by
 intro u hu;simp at hu;rcases hu with rfl|rfl<;>rfl
theorem Bn {n bytes:Nat} (h:n<=8388608) (hb:bytes<=256):n+1<=maxLen/\(n+1)*bytes<=140737488355328:=by
 refine⟨by unfold maxLen;omega, ?_⟩
 have:(n+1)*bytes<=(n+1)*256:=Nat.mul_le_mul_left _ hb
 omega
theorem DT (l:List (Int × Int)) (k v:Int):Af l++[.int .i64 k, .int .i64 v]=Af (l++[(k,v)]):=by rw[FZ];rfl

theorem Dp (W:World) (base:Nat) (e size:Nat) (hb:base<=W.heap.size):(W.alloc (.cells #[] e)).ownsRow base e size (.slice (some ⟨W.heap.size,0,none⟩) 0 0) 0 []:=
 ⟨by simp, .inr ⟨W.heap.size,0, #[],rfl,hb,heap_alloc_new _ _,Nat.le_refl _,Nat.zero_le _,by simp,by simp⟩⟩
end
section
open Go.RowKit

theorem WE (x:Int):max (-1000000000) (min 1000000000 x)=Bh x:=by
 unfold Bh;split<;>(try split)<;>omega
theorem Ht (a b:Int) (w:World) (ha0: -1000000000<=a) (ha1:a<=1000000000) (hb0: -1000000000<=b) (hb1:b<=1000000000) :
  Calls Tryz.prog 116 #[.int .i64 a, .int .i64 b] w fun e w' =>e= .returned (.int .i64 (Bh (a+b)))/\w' =w:=by
 have E:Hid (max (-1000000000) (min 1000000000 (a+b))=Bh (a+b)):=WE _
 go_enter Tryz.func116,Tryz.ntmps116
 go_wp2;go_ret;exact⟨Bd E.out,rfl⟩

def Cw (m:Int × Int × Int):Value:=
 if m.1=1 then .iface 146 (.agg #[.int .i64 m.2.1, .int .i64 m.2.2]) else if m.1=2 then .iface 148 (.agg #[.int .i64 m.2.1]) else if m.1=3 then .iface 150 (.agg #[.int .i64 m.2.1, .int .i64 m.2.2]) else .iface 152 (.agg #[.int .i64 m.2.1])
theorem IY (m:Int × Int × Int):∃t x,Cw m= .iface t x:=by unfold Cw;split<;>(try split)<;>(try split)<;>exact⟨_,_,rfl⟩
theorem V7 (m:Int × Int × Int):(Cw m).oneCell' =true:=by
 obtain⟨t,x,h⟩:=IY m;rw[h];rfl

theorem Pl (o k v:Int) (w:World) :
  Calls Tryz.prog 113 #[.agg #[.int .i64 o, .int .i64 k, .int .i64 v]] w fun e w' =>e= .returned (Cw (o,k,v))/\Below w.heap.size w w' :=by
 rcases(show o=1∨o=2∨o=3∨(o≠1/\o≠2/\o≠3) from by omega) with rfl|rfl|rfl|⟨h1,h2,h3⟩
 ·have E:Hid (Cw (1,k,v)= .iface 146 (.agg #[.int .i64 k, .int .i64 v])):=rfl
  go_enter Tryz.func113,Tryz.ntmps113
  go_wp2;go_ret;exact⟨by rw[E.out];rfl,(Below.refl _ _).alloc (Nat.le_refl _) _⟩
 ·have E:Hid (Cw (2,k,v)= .iface 148 (.agg #[.int .i64 k])):=rfl
  go_enter Tryz.func113,Tryz.ntmps113
  go_wp2;go_ret;exact⟨by rw[E.out];rfl,(Below.refl _ _).alloc (Nat.le_refl _) _⟩
 ·have E:Hid (Cw (3,k,v)= .iface 150 (.agg #[.int .i64 k, .int .i64 v])):=rfl
  go_enter Tryz.func113,Tryz.ntmps113
  go_wp2;go_ret;exact⟨by rw[E.out];rfl,(Below.refl _ _).alloc (Nat.le_refl _) _⟩
 ·have E:Hid (Cw (o,k,v)= .iface 152 (.agg #[.int .i64 k])):=by show Cw _=_;simp[Cw,h1,h2,h3]
  have q1:(o==1)=false:=by simpa using h1
  have q2:(o==2)=false:=by simpa using h2
  have q3:(o==3)=false:=by simpa using h3
  clear h1 h2 h3;go_enter Tryz.func113,Tryz.ntmps113
  go_wp2;go_ret;exact⟨by rw[E.out];rfl,(Below.refl _ _).alloc (Nat.le_refl _) _⟩

theorem LB (k v:Int) (w:World):(Instr.typeAssert (.iface 146 (.agg #[.int .i64 k, .int .i64 v])) 126 146 true).run Tryz.prog w= .ok (.tuple #[.agg #[.int .i64 k, .int .i64 v], .bool true]) w:=by kernel_rfl
theorem Uj (k v:Int) (w:World):(Instr.typeAssert (.iface 146 (.agg #[.int .i64 k, .int .i64 v])) 126 148 true).run Tryz.prog w= .ok (.tuple #[.agg #[.int .i64 0], .bool false]) w:=by kernel_rfl
theorem Vg (k v:Int) (w:World):(Instr.typeAssert (.iface 146 (.agg #[.int .i64 k, .int .i64 v])) 126 152 true).run Tryz.prog w= .ok (.tuple #[.agg #[.int .i64 0], .bool false]) w:=by kernel_rfl
theorem JV (k:Int) (w:World):(Instr.typeAssert (.iface 148 (.agg #[.int .i64 k])) 126 146 true).run Tryz.prog w= .ok (.tuple #[.agg #[.int .i64 0, .int .i64 0], .bool false]) w:=by kernel_rfl
theorem Mn (k:Int) (w:World):(Instr.typeAssert (.iface 148 (.agg #[.int .i64 k])) 126 148 true).run Tryz.prog w= .ok (.tuple #[.agg #[.int .i64 k], .bool true]) w:=by kernel_rfl
theorem SE (k:Int) (w:World):(Instr.typeAssert (.iface 148 (.agg #[.int .i64 k])) 126 150 true).run Tryz.prog w= .ok (.tuple #[.agg #[.int .i64 0, .int .i64 0], .bool false]) w:=by kernel_rfl
theorem Sf (k:Int) (w:World):(Instr.typeAssert (.iface 148 (.agg #[.int .i64 k])) 126 152 true).run Tryz.prog w= .ok (.tuple #[.agg #[.int .i64 0], .bool false]) w:=by kernel_rfl
theorem Ka (k v:Int) (w:World):(Instr.typeAssert (.iface 150 (.agg #[.int .i64 k, .int .i64 v])) 126 146 true).run Tryz.prog w= .ok (.tuple #[.agg #[.int .i64 0, .int .i64 0], .bool false]) w:=by kernel_rfl
theorem Lp (k v:Int) (w:World):(Instr.typeAssert (.iface 150 (.agg #[.int .i64 k, .int .i64 v])) 126 148 true).run Tryz.prog w= .ok (.tuple #[.agg #[.int .i64 0], .bool false]) w:=by kernel_rfl
theorem Mj (k v:Int) (w:World):(Instr.typeAssert (.iface 150 (.agg #[.int .i64 k, .int .i64 v])) 126 150 true).run Tryz.prog w= .ok (.tuple #[.agg #[.int .i64 k, .int .i64 v], .bool true]) w:=by kernel_rfl
theorem Th (k v:Int) (w:World):(Instr.typeAssert (.iface 150 (.agg #[.int .i64 k, .int .i64 v])) 126 152 true).run Tryz.prog w= .ok (.tuple #[.agg #[.int .i64 0], .bool false]) w:=by kernel_rfl
theorem JR (k:Int) (w:World):(Instr.typeAssert (.iface 152 (.agg #[.int .i64 k])) 126 146 true).run Tryz.prog w= .ok (.tuple #[.agg #[.int .i64 0, .int .i64 0], .bool false]) w:=by kernel_rfl
theorem Mc (k:Int) (w:World):(Instr.typeAssert (.iface 152 (.agg #[.int .i64 k])) 126 148 true).run Tryz.prog w= .ok (.tuple #[.agg #[.int .i64 0], .bool false]) w:=by kernel_rfl
theorem MJ (k:Int) (w:World):(Instr.typeAssert (.iface 152 (.agg #[.int .i64 k])) 126 150 true).run Tryz.prog w= .ok (.tuple #[.agg #[.int .i64 0, .int .i64 0], .bool false]) w:=by kernel_rfl
theorem Na (k:Int) (w:World):(Instr.typeAssert (.iface 152 (.agg #[.int .i64 k])) 126 152 true).run Tryz.prog w= .ok (.tuple #[.agg #[.int .i64 k], .bool true]) w:=by kernel_rfl

theorem Tryz.info126:(Tryz.prog.info? 126).map (fun i=>(i.zero,i.size,i.bytes))=some (some .nilIface,1,16):=by kernel_rfl

def okM (m:Int × Int × Int):Bool:=AO m.1 m.2.1 m.2.2
def Ca (ms:ML):ML:=ms.filter okM
theorem Up (ms:ML) (k:Nat) (h:k<ms.length):Ca (ms.take (k+1))=if AO (mO ms k) (mK ms k) (mV ms k)=true then Ca (ms.take k)++[(mO ms k,mK ms k,mV ms k)] else Ca (ms.take k):=by
 rw[DV ms k h,Ca,List.filter_append]
 by_cases hm:AO (mO ms k) (mK ms k) (mV ms k)=true
 ·simp[hm,Ca,okM]
 ·simp[hm,Ca,okM]
theorem H6 (ms:ML):(Ca ms).length<=ms.length:=List.length_filter_le _ _

theorem IE (vm:Value) (ms:ML) (w:World) (hm:Row w vm ms.length (Ag ms)) (hn:ms.length<=2097152) :
  Calls Tryz.prog 90 #[vm] w fun e w' =>∃v',e= .returned v' ∧w'.ownsRow w.heap.size 126 1 v' (Ca ms).length ((Ca ms).map Cw)/\Below w.heap.size w w' :=by
 obtain⟨i0,hi,hz0,hz1,hz2⟩:=info_parts Tryz.info126
 obtain⟨a,b,off,cap,rfl,hcap,hmax,ha,ho,hk,hv⟩:=hm.msgs
 unfold maxLen at hmax;go_enter Tryz.func90,Tryz.ntmps90
 go_wp2;go_loopw [3,8] (fun out i wr=>∃k:Nat,k<=ms.length/\i= .int .i64 k/\wr.ownsRow w.heap.size 126 1 out (Ca (ms.take k)).length ((Ca (ms.take k)).map Cw)/\Below w.heap.size w wr)
  (fun _ i _=>ms.length-(intOf i).toNat)
 case atStart=>exact⟨0,Nat.zero_le _,rfl,World.ownsRow_nil _ _ _ _,Below.refl _ _⟩
 case round=>
  obtain⟨k,hkl,rfl,hown,hb⟩:=hrel
  by_cases hlt:k<ms.length
  ·have hal:=ha (by omega)
   subst hal;have d0:=(hb.cell (by exact Aa (ho k hlt))).trans (ho k hlt)
   have d1:=(hb.cell (by exact Aa (hk k hlt))).trans (hk k hlt)
   have d2:=(hb.cell (by exact Aa (hv k hlt))).trans (hv k hlt)
   have hds:=Up ms k hlt
   have hal:=H6 (ms.take k)
   have htl:(ms.take k).length<=k:=List.length_take_le _ _
   generalize Ca (ms.take k)=A at *
   have ba:Below w.heap.size w (wr.alloc (.cells #[.int .i64 (mO ms k), .int .i64 (mK ms k), .int .i64 (mV ms k)] 44)):=hb.alloc hb.size _
   have OW:Hid (wr.ownsRow w.heap.size 126 1 u3 A.length (A.map Cw)):=hown
   clear ho hk hv hown hm
   cases hq:AO (mO ms k) (mK ms k) (mV ms k)
   ·have DS:Hid _:=hds.trans (if_neg (by rw[hq];decide))
    clear hds;go_wp2_with fail;refine(Dk _ _ _ _).mono ?_
    rw[hq]
    rintro e w1 ⟨rfl,b1⟩
    have B1:=ba.trans (b1.mono ba.size)
    have OW1:=AD (OW.out.alloc (.cells #[.int .i64 (mO ms k), .int .i64 (mK ms k), .int .i64 (mV ms k)] 44)) b1
    clear b1 ba hq;go_wp2;go_roundw
    case rel=>exact⟨k+1,by omega,by go_num,by rw[DS.out];exact OW1,B1⟩
    case measure=>simp[intOf];omega
   ·have DS:Hid _:=hds.trans (if_pos hq)
    clear hds;go_wp2_with fail;refine(Dk _ _ _ _).mono ?_
    rw[hq]
    rintro e w1 ⟨rfl,b1⟩
    have B1:=ba.trans (b1.mono ba.size)
    have OW1:=AD (OW.out.alloc (.cells #[.int .i64 (mO ms k), .int .i64 (mK ms k), .int .i64 (mV ms k)] 44)) b1
    obtain⟨hc,_⟩:=QS b1
    have b1' :Hid _:=b1
    have OW1' :Hid (w1.ownsRow w.heap.size 126 1 u3 A.length (A.map Cw)):=OW1
    clear b1 ba hq OW1 OW;go_wp2_with fail;refine(Pl _ _ _ _).mono ?_
    rintro e w2 ⟨rfl,b2⟩
    have B2:=B1.trans (b2.mono B1.size)
    have B2s:=B2.size
    have OW2:=AD OW1'.out b2
    obtain⟨t,x,hx⟩:=IY (mO ms k,mK ms k,mV ms k)
    have HX:Hid _:=hx
    have HE:Hid _:=V7 (mO ms k,mK ms k,mV ms k)
    rw[hx]
    clear hx hc b1' OW1' b2 B1;have HR:Hid _:=Bn (n:=A.length) (bytes:=16) (by omega) (by decide)
    have H1:Hid (∀u∈[Value.iface t x],u.oneCell' =true):=fun u hu=>by simp at hu;subst hu;rfl
    go_wp2_with (at_builtin;refine BJ w2 rfl _ _ 123 rfl w.heap.size 126 i0 _ 1 16 Tryz.underlying123 hi hz0 hz1 hz2 rfl (by decide) u3 _ _ rfl OW2 [.iface t x] rfl rfl H1.out HR.out.1 HR.out.2 B2s ?_)
    intro v3 w3 ho3 _ hb3;have B3:=B2.trans hb3
    clear OW2 hb3 B2;go_wp2;go_roundw
    case rel=>exact⟨k+1,by omega,by go_num,by rw[DS.out,List.length_append,List.map_append,List.map_cons,HX.out];exact ho3,B3⟩
    case measure=>simp[intOf];omega
  ·go_wp2;go_ret;have hkk:k=ms.length:=by omega
   subst hkk;rw[List.take_of_length_le (Nat.le_refl _)] at hown
   exact⟨_,rfl,hown,hb⟩
end
end Go.Proofs.YtebglpllkjgjbaaGreat
