/-
  What map a tree tells, as plain functions: kid by kid as the model says it, leaf by leaf as the program does; plain mathematics.
  Appending to a row of one's own: one element that was just laid; a whole list.
  Contracts of the program's messages behind an interface, and of its sum at the limit.
-/
import Derived.Test.YtnakaabnjelffaaGreatOfInject6
import Derived.Test.YtnakaabnjelffaaGreatOfInject1
import Derived.Laws.AppendOwnNone
import Derived.Test.YtnakaabnjelffaaGreatOfInject2
namespace Go.Proofs.YtnakaabnjelffaaGreat
set_option maxRecDepth 100000
set_option maxHeartbeats 8000000
section
theorem Ff {A B:PL} {k:Int} (h:∀p∈B,p.1≠k):AE (A++B) k=AE A k:=by
 induction A with
 |nil=>
  show AE B k=(0,false)
  induction B with
  |nil=>rfl
  |cons p B ih=>rw[AE,if_neg (h p List.mem_cons_self)];exact ih fun q hq=>h q (List.mem_cons_of_mem _ hq)
 |cons p A ih=>rw[List.cons_append,AE,AE,ih]
theorem Gx {A B:PL} {k:Int} (h:∀p∈A,p.1≠k):AE (A++B) k=AE B k:=by
 induction A with
 |nil=>rfl
 |cons p A ih=>rw[List.cons_append,AE,if_neg (h p List.mem_cons_self)];exact ih fun q hq=>h q (List.mem_cons_of_mem _ hq)
theorem Ir {l:PL} {k:Int} (h:∀p∈l,p.1≠k):AE l k=(0,false):=by
 have:=Ff (A:=[]) h
 simpa[AE] using this
theorem Tk {A B:PL} {c:Int} (hA:Asc A) (hB:Asc B) (h1:∀p∈A,p.1<c) (h2:∀p∈B,c<=p.1):Asc (A++B):=by
 show(Bn (A++B)).Pairwise (· < ·)
 rw[Bn,List.map_append]
 refine List.pairwise_append.2 ⟨hA,hB,fun a ha b hb=> ?_⟩
 obtain⟨p,hp,rfl⟩:=List.mem_map.1 ha
 obtain⟨q,hq,rfl⟩:=List.mem_map.1 hb
 have:=h1 p hp
 have:=h2 q hq
 omega
theorem Ls:∀ {l1 l2:PL},Asc l1->Asc l2->(∀k,AE l1 k=AE l2 k)->l1=l2
 |[],[],_,_,_=>rfl
 |[],q::l2,_,_,h=>by have:=h q.1;rw[AE,AE,if_pos rfl] at this;simp at this
 |p::l1,[],_,_,h=>by have:=h p.1;rw[AE,AE,if_pos rfl] at this;simp at this
 |p::l1,q::l2,h1,h2,h=>by
  obtain⟨a1,a2⟩:=h1.cons
  obtain⟨b1,b2⟩:=h2.cons
  have n1:∀j,j<=p.1->AE l1 j=(0,false):=fun j hj=>Ir fun r hr=>by have:=a1 r hr;omega
  have n2:∀j,j<=q.1->AE l2 j=(0,false):=fun j hj=>Ir fun r hr=>by have:=b1 r hr;omega
  have hk:p.1=q.1:=by
   rcases Int.lt_trichotomy p.1 q.1 with hlt|he|hgt
   ·have:=h p.1
    rw[AE,if_pos rfl,AE,if_neg (by omega),n2 _ (by omega)] at this
    simp at this
   ·exact he
   ·have:=h q.1
    rw[AE,if_neg (by omega),n1 _ (by omega),AE,if_pos rfl] at this
    simp at this
  have hv:=h p.1
  rw[AE,if_pos rfl,AE,if_pos hk.symm] at hv
  have hpq:p=q:=Prod.ext hk (by simpa using hv)
  subst hpq;rw[Ls a2 b2 fun j=> ?_]
  by_cases hj:p.1=j
  ·subst hj;rw[n1 _ (Int.le_refl _),n2 _ (Int.le_refl _)]
  ·have:=h j
   rw[AE,if_neg hj,AE,if_neg hj] at this
   exact this

theorem OS:∀ {l:PL} {lo:Int},Asc l->lo<=1000->(∀p∈l,lo<=p.1/\p.1<=999)->(l.length:Int)<=1000-lo
 |[],lo,_,h,_=>by simp;omega
 |p::l,lo,hA,hlo,h=>by
  obtain⟨h1,h2⟩:=hA.cons
  have hp:=h p List.mem_cons_self
  have:=OS (lo:=p.1+1) h2 (by omega) fun q hq=>⟨by have:=h1 q hq;omega,(h q (List.mem_cons_of_mem _ hq)).2⟩
  simp only[List.length_cons]
  omega
theorem CJ.length {l:PL} (h:CJ l):l.length<=1000:=by
 have:=OS (lo:=0) h.1 (by decide) fun p hp=>(h.2 p hp).1
 omega

def Ge (lo hi:Int) (l:PL):Prop:=∀p∈l,lo<=p.1/\p.1<hi
def FN:Int->Int->List Int->List PL->Prop
 |lo,hi,[],[M]=>CJ M/\Ge lo hi M
 |lo,hi,c::cs,M::Ms=>(CJ M/\Ge lo c M)/\lo<c/\c<hi/\FN c hi cs Ms
 |_,_,_,_=>False
theorem RX {A B:PL} {c:Int} (hA:CJ A) (hB:CJ B) (h1:∀p∈A,p.1<c) (h2:∀p∈B,c<=p.1):CJ (A++B):=
 ⟨Tk hA.1 hB.1 h1 h2,fun p hp=>(List.mem_append.1 hp).elim (hA.2 p) (hB.2 p)⟩
theorem FN.flat:∀ {cs:List Int} {lo hi:Int} {Ms:List PL},FN lo hi cs Ms->CJ Ms.flatten/\Ge lo hi Ms.flatten
 |[],_,_,[M],h=>by rw[List.flatten_cons,List.flatten_nil,List.append_nil];exact h
 |[],_,_,[],h=>h.elim
 |[],_,_,_::_::_,h=>h.elim
 |_::_,_,_,[],h=>h.elim
 |c::cs,lo,hi,M::Ms,⟨⟨h1,h2⟩,h3,h4,h5⟩=>by
  obtain⟨h6,h7⟩:=FN.flat h5
  rw[List.flatten_cons]
  refine⟨RX h1 h6 (fun p hp=>(h2 p hp).2) (fun p hp=>(h7 p hp).1),fun p hp=> ?_⟩
  rcases List.mem_append.1 hp with hp|hp
  ·have:=h2 p hp;omega
  ·have:=h7 p hp;omega
theorem E8 {c k:Int} {cs:List Int} (h:c<=k):AN (c::cs) k=AN cs k+1:=by
 simp only[AN]
 rw[List.takeWhile_cons_of_pos (by simpa using h),List.length_cons]
theorem Gk {c k:Int} {cs:List Int} (h:¬c<=k):AN (c::cs) k=0:=by simp[AN,h]
theorem FN.get:∀ {cs:List Int} {lo hi:Int} {Ms:List PL} (k:Int),FN lo hi cs Ms->AE Ms.flatten k=AE (Ms.getD (AN cs k) []) k
 |[],_,_,[M],k,_=>by simp[AN]
 |[],_,_,[],_,h=>h.elim
 |[],_,_,_::_::_,_,h=>h.elim
 |_::_,_,_,[],_,h=>h.elim
 |c::cs,lo,hi,M::Ms,k,⟨⟨h1,h2⟩,h3,h4,h5⟩=>by
  rw[List.flatten_cons]
  by_cases hc:c<=k
  ·rw[E8 hc,List.getD_cons_succ, ← FN.get k h5]
   exact Gx fun p hp=>by have:=h2 p hp;omega
  ·rw[Gk hc,List.getD_cons_zero]
   exact Ff fun p hp=>by have:=(FN.flat h5).2 p hp;omega

def frC (cs:List Int) (lo:Int) (i:Nat):Int:=if i=0 then lo else iAt cs (i-1)
def toC (cs:List Int) (hi:Int) (i:Nat):Int:=if i<cs.length then iAt cs i else hi
theorem FN.of:∀ {cs:List Int} {lo hi:Int} {Ms:List PL},Ms.length=cs.length+1->(∀i,i<cs.length->frC cs lo i<iAt cs i/\iAt cs i<hi)→
  (∀i,i<Ms.length->CJ (Ms.getD i [])/\Ge (frC cs lo i) (toC cs hi i) (Ms.getD i []))->FN lo hi cs Ms
 |[],lo,hi,[M],_,_,h=>by simpa[frC,toC,FN] using h 0 (by simp)
 |[],_,_,[],hl,_,_=>by simp at hl
 |[],_,_,_::_::_,hl,_,_=>by simp at hl
 |_::_,_,_,[],hl,_,_=>by simp at hl
 |c::cs,lo,hi,M::Ms,hl,hc,h=>by
  have h0:=h 0 (by simp)
  have c0:=hc 0 (by simp)
  simp only[frC,toC,if_true,List.length_cons,Nat.zero_lt_succ,iAt,List.getD_cons_zero] at h0 c0
  refine⟨h0,c0.1,c0.2,FN.of (by simpa using hl) (fun i hi0=> ?_) (fun i hi0=> ?_)⟩
  ·have:=hc (i+1) (by simpa using hi0)
   simp only[frC,iAt,Nat.add_one_ne_zero,if_false,Nat.add_sub_cancel,List.getD_cons_succ] at this ⊢
   cases i with
   |zero=>simpa using this
   |succ i=>simpa using this
  ·have:=h (i+1) (by simpa using hi0)
   simp only[frC,toC,iAt,Nat.add_one_ne_zero,if_false,Nat.add_sub_cancel,List.getD_cons_succ,List.length_cons,Nat.add_lt_add_iff_right] at this ⊢
   cases i with
   |zero=>simpa using this
   |succ i=>simpa using this

def ID:Nat->Tr->PL
 |0,_=>[]
 |n+1,T=>Cn (T.pairs++(T.kids.map (ID n)).flatten) T.buf
def mineK (cs:List Int) (i:Nat) (ms:ML):ML:=ms.filter fun m=>decide (EW cs m.2.1 cs.length=i)
def CP:Nat->Tr->ML->PL
 |0,_,_=>[]
 |n+1,T,ab=>if T.leaf=true then Cn T.pairs ab else ((List.range T.kids.length).map fun i=>CP n (AV T i) (mineK T.cuts i (T.buf++ab))).flatten

theorem Xj {l:PL} {m:Int × Int × Int} {p:Int × Int} (h:p∈doL l m):p∈l∨p.1=m.2.1:=by
 have hput:∀v,p∈B9 l m.2.1 v->p∈l∨p.1=m.2.1:=fun v hp=>by
  rcases List.mem_append.1 hp with h1|h1
  ·exact .inl (List.mem_filter.1 h1).1
  ·rcases List.mem_cons.1 h1 with rfl|h2
   ·exact .inr rfl
   ·exact .inl (List.mem_filter.1 h2).1
 unfold doL at h;split at h
 ·unfold doP at h;split at h
  ·exact hput _ h
  ·split at h
   ·exact .inl (List.mem_filter.1 h).1
   ·split at h
    ·exact hput _ h
    ·exact .inl h
 ·exact .inl h
theorem Kz {l:PL} {ms:ML} {lo hi:Int} (h:Ge lo hi l) (hm:∀m∈ms,lo<=m.2.1/\m.2.1<hi):Ge lo hi (Cn l ms):=by
 induction ms generalizing l with
 |nil=>exact h
 |cons m ms ih=>
  refine ih (l:=doL l m) (fun p hp=> ?_) fun x hx=>hm x (List.mem_cons_of_mem _ hx)
  rcases Xj hp with h1|h1
  ·exact h p h1
  ·rw[h1];exact hm m List.mem_cons_self

theorem In {T:Tr} {lo hi:Int} (h:Fu T lo hi=true):∀i,i<T.cuts.length->frC T.cuts lo i<iAt T.cuts i/\iAt T.cuts i<hi:=by
 intro i hi0;have:=Ey.1 (Fb h hi0)
 simp only[CM] at this
 unfold frC;omega
theorem Od {m:Nat} {T:Tr} {lo hi:Int} (h:AG (m+1) T lo hi≠0) (hl:T.leaf=false):∀i,i<T.kids.length->AG m (AV T i) (frC T.cuts lo i) (toC T.cuts hi i)≠0:=(Bm h hl).2
theorem Fg {m:Nat} {T:Tr} {k:Int} (hl:T.leaf=false):Fe (m+1) T k=Er (Fe m (Pv T k) k) (ofK T.buf k):=by
 rw[Fe,Rq,Oi,if_neg (by rw[hl];simp),if_neg (by rw[hl];simp),H5];rfl
theorem Gb {m:Nat} {T:Tr} {k:Int} (hl:T.leaf=true):Fe (m+1) T k=AE T.pairs k:=by
 rw[Fe,Rq,Oi,if_pos hl,if_pos hl];rfl

theorem Iy:∀ {m:Nat} {T:Tr} {lo hi:Int},AG m T lo hi≠0->CJ (ID m T)/\Ge lo hi (ID m T)/\∀k,AE (ID m T) k=Fe m T k
 |0,_,_,_,h=>absurd rfl h
 |m+1,T,lo,hi,h=>by
  cases hl:T.leaf
  ·have hf:=(Bm h hl).1
   obtain⟨q1,q2,q3,q4,q5,q6⟩:=AW hf
   have hk:=Od h hl
   have hb:=DU q5
   have C:FN lo hi T.cuts (T.kids.map (ID m)):=by
    refine FN.of (by rw[List.length_map];omega) (In q6) fun i hi0=> ?_
    rw[List.length_map] at hi0
    have e:(T.kids.map (ID m)).getD i []=ID m (AV T i):=by simp[List.getD,AV,hi0]
    rw[e]
    have:=Iy (hk i hi0)
    exact⟨this.1,this.2.1⟩
   obtain⟨f1,f2⟩:=C.flat
   rw[ID,q1,List.nil_append]
   refine⟨Kn f1 _,Kz f2 fun x hx=>(hb x hx).2,fun k=> ?_⟩
   have hi0:=PQ hf k
   rw[Kq f1,C.get k,Fg hl]
   have e:(T.kids.map (ID m)).getD (AN T.cuts k) []=ID m (Pv T k):=by simp[List.getD,AV,Pv,hi0]
   have e2:AE (ID m (Pv T k)) k=Fe m (Pv T k) k:=(Iy (hk _ hi0)).2.2 k
   rw[e,e2]
  ·obtain⟨q1,q2,q3,q4,q5,q6⟩:=Dz (Ce h hl)
   have e:ID (m+1) T=T.pairs:=by rw[ID,q3,q4];simp[Cn]
   rw[e]
   exact⟨q1,q6,fun k=>(Gb hl).symm⟩

theorem H3 {cs:List Int} {lo hi k:Int} {i:Nat} (hlen:i<=cs.length) (h:∀i,i<cs.length->frC cs lo i<iAt cs i/\iAt cs i<hi) (hk:lo<=k/\k<hi) (e:AN cs k=i):frC cs lo i<=k/\k<toC cs hi i:=by
 induction cs generalizing lo i with
 |nil=>simp at hlen;subst hlen;simpa[frC,toC] using hk
 |cons c cs ih=>
  have c0:=h 0 (by simp)
  simp only[frC,if_true,iAt,List.getD_cons_zero] at c0
  have hs:∀i,i<cs.length->frC cs c i<iAt cs i/\iAt cs i<hi:=fun i hi0=>by
   have:=h (i+1) (by simpa using hi0)
   simp only[frC,iAt,Nat.add_one_ne_zero,if_false,Nat.add_sub_cancel,List.getD_cons_succ] at this ⊢
   cases i with
   |zero=>simpa using this
   |succ i=>simpa using this
  by_cases hc:c<=k
  ·rw[E8 hc] at e
   subst e;have:=ih (lo:=c) (i:=AN cs k) (by simpa using hlen) hs ⟨hc,hk.2⟩ rfl
   simp only[frC,toC,iAt,Nat.add_one_ne_zero,if_false,Nat.add_sub_cancel,List.getD_cons_succ,List.length_cons,Nat.add_lt_add_iff_right] at this ⊢
   generalize AN cs k=j at *
   cases j with
   |zero=>simpa using this
   |succ j=>simpa using this
  ·rw[Gk hc] at e
   subst e;simp only[frC,toC,if_true,List.length_cons,Nat.zero_lt_succ,iAt,List.getD_cons_zero]
   omega
theorem Uu {cs:List Int} {k:Int} {i:Nat} (ms:ML) (e:EW cs k cs.length=i):ofK (mineK cs i ms) k=ofK ms k:=by
 unfold ofK mineK;rw[List.filter_filter]
 refine List.filter_congr fun m _=> ?_
 by_cases hm:m.2.1=k
 ·simp[hm,e]
 ·simp[hm]

theorem Mn:∀ {m:Nat} {T:Tr} {lo hi:Int} {ab:ML},AG m T lo hi≠0->(∀x∈ab,lo<=x.2.1/\x.2.1<hi)→
  CJ (CP m T ab)/\Ge lo hi (CP m T ab)/\∀k,AE (CP m T ab) k=Er (Fe m T k) (ofK ab k)
 |0,_,_,_,_,h,_=>absurd rfl h
 |m+1,T,lo,hi,ab,h,hab=>by
  cases hl:T.leaf
  ·have hf:=(Bm h hl).1
   obtain⟨q1,q2,q3,q4,q5,q6⟩:=AW hf
   have hk:=Od h hl
   have hb:=DU q5
   have hall:∀x∈T.buf++ab,lo<=x.2.1/\x.2.1<hi:=fun x hx=>(List.mem_append.1 hx).elim (fun h=>(hb x h).2) (hab x)
   have hcp:∀k,EW T.cuts k T.cuts.length=AN T.cuts k:=fun k=>OB (WY q6)
   have hmine:∀i,i<T.kids.length->∀x∈mineK T.cuts i (T.buf++ab),frC T.cuts lo i<=x.2.1/\x.2.1<toC T.cuts hi i:=fun i hi0 x hx=>by
    obtain⟨h1,h2⟩:=List.mem_filter.1 hx
    rw[decide_eq_true_eq,hcp] at h2
    exact H3 (by omega) (In q6) (hall x h1) h2
   have e:∀i,i<T.kids.length->((List.range T.kids.length).map fun i=>CP m (AV T i) (mineK T.cuts i (T.buf++ab))).getD i []=CP m (AV T i) (mineK T.cuts i (T.buf++ab)):=fun i hi0=>by simp[List.getD,hi0]
   have C:FN lo hi T.cuts ((List.range T.kids.length).map fun i=>CP m (AV T i) (mineK T.cuts i (T.buf++ab))):=by
    refine FN.of (by simp;omega) (In q6) fun i hi0=> ?_
    rw[List.length_map,List.length_range] at hi0
    rw[e i hi0]
    have:=Mn (hk i hi0) (hmine i hi0)
    exact⟨this.1,this.2.1⟩
   obtain⟨f1,f2⟩:=C.flat
   rw[CP,if_neg (by rw[hl];simp)]
   refine⟨f1,f2,fun k=> ?_⟩
   have hi0:=PQ hf k
   rw[C.get k,Fg hl,e _ hi0,(Mn (hk _ hi0) (hmine _ hi0)).2.2 k,Uu _ (hcp k),MW,H5];rfl
  ·obtain⟨q1,q2,q3,q4,q5,q6⟩:=Dz (Ce h hl)
   rw[CP,if_pos hl]
   exact⟨Kn q1 _,Kz q6 hab,fun k=>by rw[Kq q1,Gb hl]⟩

theorem V9 {T:Tr} (h:okT T=true):CP 7 T []=ID 7 T:=by
 have h1:=Iy (Gd h)
 have h2:=Mn (ab:=[]) (Gd h) (fun x hx=>by simp at hx)
 exact Ls h2.1.1 h1.1.1 fun k=>by rw[h2.2.2 k,h1.2.2 k];rfl

def Yu (l:PL) (lo hi:Int):PL:=l.filter fun p=>decide (lo<=p.1/\p.1<hi)
end
section
open Go.RowKit

theorem Ee {w w' :World} {r:Option Nat} (h:w.grownBy w' r):Chg (fun g=>r=some g) w w':=
 ⟨h.os,h.tape,h.output,h.size,fun k hk hn=>h.block k hk (fun e=>hn e.symm)⟩
theorem Hk {w w' :World} {base e size n:Nat} {v:Value} {xs:List Value} (h:w.ownsRow base e size v n xs) (hc:Chg (fun g=>v.ownBlock=some g) w w') (hb:base<=w.heap.size):Below base w w':=
 hc.below (fun g _ hg=>(h.lt g hg).1) hb

theorem BI {P:Program} {ops:Array Oper} {rest:List Oper} {o:Oper} {a:Act} {Q:Exit->Act->World->Prop} (W:World) (hgd:o.guard=none) (s x:Operand) (t:TypeId)
  (ho:o.op= .call { callee:= .builtin .append,args:= #[s,x],argTypes:= #[t,t] })
  (base:Nat) (e:TypeId) (i:TypeInfo) (z:Value) (size bytes:Nat) (ht:P.underlying t=some (.slice e)) (hi:P.info? e=some i) (hz:i.zero=some z)
  (hsize:i.size=size) (hby:i.bytes=bytes) (hzs:z.cells.size=size) (hsz:0<size)
  (v:Value) (n:Nat) (xs:List Value) (hs:a.eval s=v) (hown:W.ownsRow base e size v n xs)
  (news:List Value) (hx:a.eval x= .slice (some ⟨W.heap.size,0,none⟩) 1 1) (hl:news.length=size) (h1:∀u∈news,u.oneCell' =true)
  (h63:n+1<=maxLen) (hbytes:(n+1)*bytes<=140737488355328) (hbase:base<=W.heap.size)
  (h:∀v' w',w'.ownsRow base e size v' (n+1) (xs++news)->Chg (fun g=>v.ownBlock=some g) W w' ->Below base W w' ->wpList P ops Q rest (a.put o.dst v') w') :
  wpList P ops Q (o::rest) a (W.alloc (.cells news.toArray e)):=by
 refine wpList_append_own _ hgd s x t ho base e i z size bytes ht hi hz hsize hby hzs hsz v n xs hs (hown.alloc _) ⟨W.heap.size,0,none⟩ 1 1 news hx (by omega) ?_ h1 h63 hbytes (by simp;omega) ?_
 ·intro j u hj;rw[Go.WideShapes.add_plain,Nat.zero_add,Af (heap_alloc_new W _)]
  simpa using hj
 ·intro v' w' h2 h3 _;have hc:Chg (fun g=>v.ownBlock=some g) W w' :=((Chg.refl _ _).alloc _).trans (Ee h3) (fun _ _ e=>e)
  exact h v' w' h2 hc (Hk hown hc hbase)

theorem F7 {P:Program} {ops:Array Oper} {rest:List Oper} {o:Oper} {a:Act} {Q:Exit->Act->World->Prop} (W:World) (hgd:o.guard=none) (s x:Operand) (t:TypeId)
  (ho:o.op= .call { callee:= .builtin .append,args:= #[s,x],argTypes:= #[t,t] })
  (base:Nat) (e:TypeId) (i:TypeInfo) (z:Value) (size bytes:Nat) (ht:P.underlying t=some (.slice e)) (hi:P.info? e=some i) (hz:i.zero=some z)
  (hsize:i.size=size) (hby:i.bytes=bytes) (hzs:z.cells.size=size) (hsz:0<size)
  (v:Value) (n:Nat) (xs:List Value) (hs:a.eval s=v) (hown:W.ownsRow base e size v n xs)
  (u:Value) (m:Nat) (news:List Value) (hx:a.eval x=u) (hr:Row W u m news) (hl:news.length=m*size) (h1:∀y∈news,y.oneCell' =true)
  (h63:n+m<=maxLen) (hbytes:(n+m)*bytes<=140737488355328) (hbase:base<=W.heap.size)
  (h:∀v' w',w'.ownsRow base e size v' (n+m) (xs++news)->Chg (fun g=>v.ownBlock=some g) W w' ->Below base W w' ->wpList P ops Q rest (a.put o.dst v') w') :
  wpList P ops Q (o::rest) a W:=by
 obtain⟨sa,b,off,cap,rfl,hle,hmx,hsa,hcell,hnil⟩:=hr
 cases sa with
 |none=>
  have hc0:=hnil rfl
  have hm0:m=0:=by omega
  subst hc0;subst hm0;have hn0:news=[]:=List.length_eq_zero_iff.1 (by omega)
  subst hn0;refine wpList_append_own_none hgd s x t ho base e i size ht hi v n xs hs hown hx ?_
  exact h v W (by simpa using hown) (Chg.refl _ _) (Below.refl _ _)
 |some ad=>
  refine wpList_append_own _ hgd s x t ho base e i z size bytes ht hi hz hsize hby hzs hsz v n xs hs hown ad m cap news hx hl ?_ h1 h63 hbytes hbase ?_
  ·intro j y hj;have hjl:=(List.getElem?_eq_some_iff.1 hj).1
   have hm:0<m:=by
    rcases Nat.eq_zero_or_pos m with h0|h0
    ·subst h0;omega
    ·exact h0
   have:=hsa hm
   simp only[Option.some.injEq] at this
   subst this;rw[Go.WideShapes.add_plain]
   exact hcell j y hj
  ·intro v' w' h2 h3 _;have hc:=Ee h3
   exact h v' w' h2 hc (Hk hown hc hbase)

theorem Ei (l:List (Int × Int)):∀y∈Au l,y.oneCell' =true:=by
 induction l with
 |nil=>intro y hy;simp[Au] at hy
 |cons p l ih=>
  intro y hy;rw[show Au (p::l)= .int .i64 p.1:: .int .i64 p.2::Au l from rfl] at hy
  rcases List.mem_cons.1 hy with rfl|hy
  ·rfl
  ·rcases List.mem_cons.1 hy with rfl|hy
   ·rfl
   ·exact ih y hy
theorem F5 (a b:Int):∀u∈[Value.int .i64 a,Value.int .i64 b],u.oneCell' =true:=by
 intro u hu;simp at hu;rcases hu with rfl|rfl<;>rfl
theorem Bl {n bytes:Nat} (h:n<=8388608) (hb:bytes<=256):n+1<=maxLen/\(n+1)*bytes<=140737488355328:=by
 refine⟨by unfold maxLen;omega, ?_⟩
 have:(n+1)*bytes<=(n+1)*256:=Nat.mul_le_mul_left _ hb
 omega
theorem DT (l:List (Int × Int)) (k v:Int):Au l++[.int .i64 k, .int .i64 v]=Au (l++[(k,v)]):=by rw[Hq];rfl

theorem Ec (W:World) (base:Nat) (e size:Nat) (hb:base<=W.heap.size):(W.alloc (.cells #[] e)).ownsRow base e size (.slice (some ⟨W.heap.size,0,none⟩) 0 0) 0 []:=
 ⟨by simp, .inr ⟨W.heap.size,0, #[],rfl,hb,heap_alloc_new _ _,Nat.le_refl _,Nat.zero_le _,by simp,by simp⟩⟩
end
section
open Go.RowKit

theorem We (x:Int):max (-1000000000) (min 1000000000 x)=Bg x:=by
 unfold Bg;split<;>(try split)<;>omega
theorem H8 (a b:Int) (w:World) (ha0: -1000000000<=a) (ha1:a<=1000000000) (hb0: -1000000000<=b) (hb1:b<=1000000000) :
  Calls Tryz.prog 114 #[.int .i64 a, .int .i64 b] w fun e w' =>e= .returned (.int .i64 (Bg (a+b)))/\w' =w:=by
 have E:Hid (max (-1000000000) (min 1000000000 (a+b))=Bg (a+b)):=We _
 go_enter Tryz.func114,Tryz.ntmps114
 go_wp2;go_ret;exact⟨Bq E.out,rfl⟩

def Cr (m:Int × Int × Int):Value:=
 if m.1=1 then .iface 149 (.agg #[.int .i64 m.2.1, .int .i64 m.2.2]) else if m.1=2 then .iface 151 (.agg #[.int .i64 m.2.1]) else if m.1=3 then .iface 153 (.agg #[.int .i64 m.2.1, .int .i64 m.2.2]) else .iface 157 (.agg #[.int .i64 m.2.1])
theorem Jk (m:Int × Int × Int):∃t x,Cr m= .iface t x:=by unfold Cr;split<;>(try split)<;>(try split)<;>exact⟨_,_,rfl⟩
theorem VP (m:Int × Int × Int):(Cr m).oneCell' =true:=by
 obtain⟨t,x,h⟩:=Jk m;rw[h];rfl

theorem Qb (o k v:Int) (w:World) :
  Calls Tryz.prog 111 #[.agg #[.int .i64 o, .int .i64 k, .int .i64 v]] w fun e w' =>e= .returned (Cr (o,k,v))/\Below w.heap.size w w' :=by
 rcases(show o=1∨o=2∨o=3∨(o≠1/\o≠2/\o≠3) from by omega) with rfl|rfl|rfl|⟨h1,h2,h3⟩
 ·have E:Hid (Cr (1,k,v)= .iface 149 (.agg #[.int .i64 k, .int .i64 v])):=rfl
  go_enter Tryz.func111,Tryz.ntmps111
  go_wp2;go_ret;exact⟨by rw[E.out];rfl,(Below.refl _ _).alloc (Nat.le_refl _) _⟩
 ·have E:Hid (Cr (2,k,v)= .iface 151 (.agg #[.int .i64 k])):=rfl
  go_enter Tryz.func111,Tryz.ntmps111
  go_wp2;go_ret;exact⟨by rw[E.out];rfl,(Below.refl _ _).alloc (Nat.le_refl _) _⟩
 ·have E:Hid (Cr (3,k,v)= .iface 153 (.agg #[.int .i64 k, .int .i64 v])):=rfl
  go_enter Tryz.func111,Tryz.ntmps111
  go_wp2;go_ret;exact⟨by rw[E.out];rfl,(Below.refl _ _).alloc (Nat.le_refl _) _⟩
 ·have E:Hid (Cr (o,k,v)= .iface 157 (.agg #[.int .i64 k])):=by show Cr _=_;simp[Cr,h1,h2,h3]
  have q1:(o==1)=false:=by simpa using h1
  have q2:(o==2)=false:=by simpa using h2
  have q3:(o==3)=false:=by simpa using h3
  clear h1 h2 h3;go_enter Tryz.func111,Tryz.ntmps111
  go_wp2;go_ret;exact⟨by rw[E.out];rfl,(Below.refl _ _).alloc (Nat.le_refl _) _⟩

theorem LI (k v:Int) (w:World):(Instr.typeAssert (.iface 149 (.agg #[.int .i64 k, .int .i64 v])) 119 149 true).run Tryz.prog w= .ok (.tuple #[.agg #[.int .i64 k, .int .i64 v], .bool true]) w:=by kernel_rfl
theorem U9 (k v:Int) (w:World):(Instr.typeAssert (.iface 149 (.agg #[.int .i64 k, .int .i64 v])) 119 151 true).run Tryz.prog w= .ok (.tuple #[.agg #[.int .i64 0], .bool false]) w:=by kernel_rfl
theorem Uy (k v:Int) (w:World):(Instr.typeAssert (.iface 149 (.agg #[.int .i64 k, .int .i64 v])) 119 157 true).run Tryz.prog w= .ok (.tuple #[.agg #[.int .i64 0], .bool false]) w:=by kernel_rfl
theorem Ki (k:Int) (w:World):(Instr.typeAssert (.iface 151 (.agg #[.int .i64 k])) 119 149 true).run Tryz.prog w= .ok (.tuple #[.agg #[.int .i64 0, .int .i64 0], .bool false]) w:=by kernel_rfl
theorem LK (k:Int) (w:World):(Instr.typeAssert (.iface 151 (.agg #[.int .i64 k])) 119 151 true).run Tryz.prog w= .ok (.tuple #[.agg #[.int .i64 k], .bool true]) w:=by kernel_rfl
theorem Sn (k:Int) (w:World):(Instr.typeAssert (.iface 151 (.agg #[.int .i64 k])) 119 153 true).run Tryz.prog w= .ok (.tuple #[.agg #[.int .i64 0, .int .i64 0], .bool false]) w:=by kernel_rfl
theorem S6 (k:Int) (w:World):(Instr.typeAssert (.iface 151 (.agg #[.int .i64 k])) 119 157 true).run Tryz.prog w= .ok (.tuple #[.agg #[.int .i64 0], .bool false]) w:=by kernel_rfl
theorem Kf (k v:Int) (w:World):(Instr.typeAssert (.iface 153 (.agg #[.int .i64 k, .int .i64 v])) 119 149 true).run Tryz.prog w= .ok (.tuple #[.agg #[.int .i64 0, .int .i64 0], .bool false]) w:=by kernel_rfl
theorem Mu (k v:Int) (w:World):(Instr.typeAssert (.iface 153 (.agg #[.int .i64 k, .int .i64 v])) 119 151 true).run Tryz.prog w= .ok (.tuple #[.agg #[.int .i64 0], .bool false]) w:=by kernel_rfl
theorem Nb (k v:Int) (w:World):(Instr.typeAssert (.iface 153 (.agg #[.int .i64 k, .int .i64 v])) 119 153 true).run Tryz.prog w= .ok (.tuple #[.agg #[.int .i64 k, .int .i64 v], .bool true]) w:=by kernel_rfl
theorem R9 (k v:Int) (w:World):(Instr.typeAssert (.iface 153 (.agg #[.int .i64 k, .int .i64 v])) 119 157 true).run Tryz.prog w= .ok (.tuple #[.agg #[.int .i64 0], .bool false]) w:=by kernel_rfl
theorem Kj (k:Int) (w:World):(Instr.typeAssert (.iface 157 (.agg #[.int .i64 k])) 119 149 true).run Tryz.prog w= .ok (.tuple #[.agg #[.int .i64 0, .int .i64 0], .bool false]) w:=by kernel_rfl
theorem Mf (k:Int) (w:World):(Instr.typeAssert (.iface 157 (.agg #[.int .i64 k])) 119 151 true).run Tryz.prog w= .ok (.tuple #[.agg #[.int .i64 0], .bool false]) w:=by kernel_rfl
theorem Mr (k:Int) (w:World):(Instr.typeAssert (.iface 157 (.agg #[.int .i64 k])) 119 153 true).run Tryz.prog w= .ok (.tuple #[.agg #[.int .i64 0, .int .i64 0], .bool false]) w:=by kernel_rfl
theorem Nr (k:Int) (w:World):(Instr.typeAssert (.iface 157 (.agg #[.int .i64 k])) 119 157 true).run Tryz.prog w= .ok (.tuple #[.agg #[.int .i64 k], .bool true]) w:=by kernel_rfl

theorem Tryz.info119:(Tryz.prog.info? 119).map (fun i=>(i.zero,i.size,i.bytes))=some (some .nilIface,1,16):=by kernel_rfl

def okM (m:Int × Int × Int):Bool:=AK m.1 m.2.1 m.2.2
def BS (ms:ML):ML:=ms.filter okM
theorem U7 (ms:ML) (k:Nat) (h:k<ms.length):BS (ms.take (k+1))=if AK (mO ms k) (mK ms k) (mV ms k)=true then BS (ms.take k)++[(mO ms k,mK ms k,mV ms k)] else BS (ms.take k):=by
 rw[DZ ms k h,BS,List.filter_append]
 by_cases hm:AK (mO ms k) (mK ms k) (mV ms k)=true
 ·simp[hm,BS,okM]
 ·simp[hm,BS,okM]
theorem H6 (ms:ML):(BS ms).length<=ms.length:=List.length_filter_le _ _

theorem IG (vm:Value) (ms:ML) (w:World) (hm:Row w vm ms.length (Al ms)) (hn:ms.length<=2097152) :
  Calls Tryz.prog 84 #[vm] w fun e w' =>∃v',e= .returned v' ∧w'.ownsRow w.heap.size 119 1 v' (BS ms).length ((BS ms).map Cr)/\Below w.heap.size w w' :=by
 obtain⟨i0,hi,hz0,hz1,hz2⟩:=info_parts Tryz.info119
 obtain⟨a,b,off,cap,rfl,hcap,hmax,ha,ho,hk,hv⟩:=hm.msgs
 unfold maxLen at hmax;go_enter Tryz.func84,Tryz.ntmps84
 go_wp2;go_loopw [3,8] (fun out i wr=>∃k:Nat,k<=ms.length/\i= .int .i64 k/\wr.ownsRow w.heap.size 119 1 out (BS (ms.take k)).length ((BS (ms.take k)).map Cr)/\Below w.heap.size w wr)
  (fun _ i _=>ms.length-(intOf i).toNat)
 case atStart=>exact⟨0,Nat.zero_le _,rfl,World.ownsRow_nil _ _ _ _,Below.refl _ _⟩
 case round=>
  obtain⟨k,hkl,rfl,hown,hb⟩:=hrel
  by_cases hlt:k<ms.length
  ·have hal:=ha (by omega)
   subst hal;have d0:=(hb.cell (by exact Aa (ho k hlt))).trans (ho k hlt)
   have d1:=(hb.cell (by exact Aa (hk k hlt))).trans (hk k hlt)
   have d2:=(hb.cell (by exact Aa (hv k hlt))).trans (hv k hlt)
   have hds:=U7 ms k hlt
   have hal:=H6 (ms.take k)
   have htl:(ms.take k).length<=k:=List.length_take_le _ _
   generalize BS (ms.take k)=A at *
   have ba:Below w.heap.size w (wr.alloc (.cells #[.int .i64 (mO ms k), .int .i64 (mK ms k), .int .i64 (mV ms k)] 31)):=hb.alloc hb.size _
   have OW:Hid (wr.ownsRow w.heap.size 119 1 u3 A.length (A.map Cr)):=hown
   clear ho hk hv hown hm
   cases hq:AK (mO ms k) (mK ms k) (mV ms k)
   ·have DS:Hid _:=hds.trans (if_neg (by rw[hq];decide))
    clear hds;go_wp2_with fail;refine(Df _ _ _ _).mono ?_
    rw[hq]
    rintro e w1 ⟨rfl,b1⟩
    have B1:=ba.trans (b1.mono ba.size)
    have OW1:=AJ (OW.out.alloc (.cells #[.int .i64 (mO ms k), .int .i64 (mK ms k), .int .i64 (mV ms k)] 31)) b1
    clear b1 ba hq;go_wp2;go_roundw
    case rel=>exact⟨k+1,by omega,by go_num,by rw[DS.out];exact OW1,B1⟩
    case measure=>simp[intOf];omega
   ·have DS:Hid _:=hds.trans (if_pos hq)
    clear hds;go_wp2_with fail;refine(Df _ _ _ _).mono ?_
    rw[hq]
    rintro e w1 ⟨rfl,b1⟩
    have B1:=ba.trans (b1.mono ba.size)
    have OW1:=AJ (OW.out.alloc (.cells #[.int .i64 (mO ms k), .int .i64 (mK ms k), .int .i64 (mV ms k)] 31)) b1
    obtain⟨hc,_⟩:=Q6 b1
    have b1' :Hid _:=b1
    have OW1' :Hid (w1.ownsRow w.heap.size 119 1 u3 A.length (A.map Cr)):=OW1
    clear b1 ba hq OW1 OW;go_wp2_with fail;refine(Qb _ _ _ _).mono ?_
    rintro e w2 ⟨rfl,b2⟩
    have B2:=B1.trans (b2.mono B1.size)
    have B2s:=B2.size
    have OW2:=AJ OW1'.out b2
    obtain⟨t,x,hx⟩:=Jk (mO ms k,mK ms k,mV ms k)
    have HX:Hid _:=hx
    have HE:Hid _:=VP (mO ms k,mK ms k,mV ms k)
    rw[hx]
    clear hx hc b1' OW1' b2 B1;have HR:Hid _:=Bl (n:=A.length) (bytes:=16) (by omega) (by decide)
    have H1:Hid (∀u∈[Value.iface t x],u.oneCell' =true):=fun u hu=>by simp at hu;subst hu;rfl
    go_wp2_with (at_builtin;refine BI w2 rfl _ _ 116 rfl w.heap.size 119 i0 _ 1 16 Tryz.underlying116 hi hz0 hz1 hz2 rfl (by decide) u3 _ _ rfl OW2 [.iface t x] rfl rfl H1.out HR.out.1 HR.out.2 B2s ?_)
    intro v3 w3 ho3 _ hb3;have B3:=B2.trans hb3
    clear OW2 hb3 B2;go_wp2;go_roundw
    case rel=>exact⟨k+1,by omega,by go_num,by rw[DS.out,List.length_append,List.map_append,List.map_cons,HX.out];exact ho3,B3⟩
    case measure=>simp[intOf];omega
  ·go_wp2;go_ret;have hkk:k=ms.length:=by omega
   subst hkk;rw[List.take_of_length_le (Nat.le_refl _)] at hown
   exact⟨_,rfl,hown,hb⟩
end
end Go.Proofs.YtnakaabnjelffaaGreat
