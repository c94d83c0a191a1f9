/-
  What map a tree tells, as plain functions: kid by kid as the model says it, leaf by leaf as the program does; plain mathematics.
  Appending a list to a row of one's own, at a step of a region that draws its order.
  The contract of the model's l3Pending.
-/
import Derived.Test.YtadmomgdacfgpaaGreatOfBuilt7
import Derived.Test.YtadmomgdacfgpaaGreatOfBuilt1
import Derived.Test.YtadmomgdacfgpaaGreatOfBuilt3
import Derived.Deep.RegionHeld3
import Derived.Deep.AppendLies
namespace Go.Proofs.YtadmomgdacfgpaaGreat
set_option maxRecDepth 100000
set_option maxHeartbeats 8000000
section
theorem Fd {A B:PL} {k:Int} (h:∀p∈B,p.1≠k):Ay (A++B) k=Ay A k:=by
 induction A with
 |nil=>
  show Ay B k=(0,false)
  induction B with
  |nil=>rfl
  |cons p B ih=>rw[Ay,if_neg (h p List.mem_cons_self)];exact ih fun q hq=>h q (List.mem_cons_of_mem _ hq)
 |cons p A ih=>rw[List.cons_append,Ay,Ay,ih]
theorem Gt {A B:PL} {k:Int} (h:∀p∈A,p.1≠k):Ay (A++B) k=Ay B k:=by
 induction A with
 |nil=>rfl
 |cons p A ih=>rw[List.cons_append,Ay,if_neg (h p List.mem_cons_self)];exact ih fun q hq=>h q (List.mem_cons_of_mem _ hq)
theorem Sx {l:PL} {k:Int} (h:∀p∈l,p.1≠k):Ay l k=(0,false):=by
 have:=Fd (A:=[]) h
 simpa[Ay] using this
theorem Sh {A B:PL} {c:Int} (hA:Asc A) (hB:Asc B) (h1:∀p∈A,p.1<c) (h2:∀p∈B,c<=p.1):Asc (A++B):=by
 show(Bk (A++B)).Pairwise (· < ·)
 rw[Bk,List.map_append]
 refine List.pairwise_append.2 ⟨hA,hB,fun a ha b hb=> ?_⟩
 obtain⟨p,hp,rfl⟩:=List.mem_map.1 ha
 obtain⟨q,hq,rfl⟩:=List.mem_map.1 hb
 have:=h1 p hp
 have:=h2 q hq
 omega
theorem Su:∀ {l1 l2:PL},Asc l1->Asc l2->(∀k,Ay l1 k=Ay l2 k)->l1=l2
 |[],[],_,_,_=>rfl
 |[],q::l2,_,_,h=>by have:=h q.1;rw[Ay,Ay,if_pos rfl] at this;simp at this
 |p::l1,[],_,_,h=>by have:=h p.1;rw[Ay,Ay,if_pos rfl] at this;simp at this
 |p::l1,q::l2,h1,h2,h=>by
  obtain⟨a1,a2⟩:=h1.cons
  obtain⟨b1,b2⟩:=h2.cons
  have n1:∀j,j<=p.1->Ay l1 j=(0,false):=fun j hj=>Sx fun r hr=>by have:=a1 r hr;omega
  have n2:∀j,j<=q.1->Ay l2 j=(0,false):=fun j hj=>Sx fun r hr=>by have:=b1 r hr;omega
  have hk:p.1=q.1:=by
   rcases Int.lt_trichotomy p.1 q.1 with hlt|he|hgt
   ·have:=h p.1
    rw[Ay,if_pos rfl,Ay,if_neg (by omega),n2 _ (by omega)] at this
    simp at this
   ·exact he
   ·have:=h q.1
    rw[Ay,if_neg (by omega),n1 _ (by omega),Ay,if_pos rfl] at this
    simp at this
  have hv:=h p.1
  rw[Ay,if_pos rfl,Ay,if_pos hk.symm] at hv
  have hpq:p=q:=Prod.ext hk (by simpa using hv)
  subst hpq;rw[Su a2 b2 fun j=> ?_]
  by_cases hj:p.1=j
  ·subst hj;rw[n1 _ (Int.le_refl _),n2 _ (Int.le_refl _)]
  ·have:=h j
   rw[Ay,if_neg hj,Ay,if_neg hj] at this
   exact this

theorem NK:∀ {l:PL} {lo:Int},Asc l->lo<=1000->(∀p∈l,lo<=p.1/\p.1<=999)->(l.length:Int)<=1000-lo
 |[],lo,_,h,_=>by simp;omega
 |p::l,lo,hA,hlo,h=>by
  obtain⟨h1,h2⟩:=hA.cons
  have hp:=h p List.mem_cons_self
  have:=NK (lo:=p.1+1) h2 (by omega) fun q hq=>⟨by have:=h1 q hq;omega,(h q (List.mem_cons_of_mem _ hq)).2⟩
  simp only[List.length_cons]
  omega
theorem CP.length {l:PL} (h:CP l):l.length<=1000:=by
 have:=NK (lo:=0) h.1 (by decide) fun p hp=>(h.2 p hp).1
 omega

def FQ (lo hi:Int) (l:PL):Prop:=∀p∈l,lo<=p.1/\p.1<hi
def FE:Int->Int->List Int->List PL->Prop
 |lo,hi,[],[M]=>CP M/\FQ lo hi M
 |lo,hi,c::cs,M::Ms=>(CP M/\FQ lo c M)/\lo<c/\c<hi/\FE c hi cs Ms
 |_,_,_,_=>False
theorem Qn {A B:PL} {c:Int} (hA:CP A) (hB:CP B) (h1:∀p∈A,p.1<c) (h2:∀p∈B,c<=p.1):CP (A++B):=
 ⟨Sh hA.1 hB.1 h1 h2,fun p hp=>(List.mem_append.1 hp).elim (hA.2 p) (hB.2 p)⟩
theorem FE.flat:∀ {cs:List Int} {lo hi:Int} {Ms:List PL},FE lo hi cs Ms->CP Ms.flatten/\FQ lo hi Ms.flatten
 |[],_,_,[M],h=>by rw[List.flatten_cons,List.flatten_nil,List.append_nil];exact h
 |[],_,_,[],h=>h.elim
 |[],_,_,_::_::_,h=>h.elim
 |_::_,_,_,[],h=>h.elim
 |c::cs,lo,hi,M::Ms,⟨⟨h1,h2⟩,h3,h4,h5⟩=>by
  obtain⟨h6,h7⟩:=FE.flat h5
  rw[List.flatten_cons]
  refine⟨Qn h1 h6 (fun p hp=>(h2 p hp).2) (fun p hp=>(h7 p hp).1),fun p hp=> ?_⟩
  rcases List.mem_append.1 hp with hp|hp
  ·have:=h2 p hp;omega
  ·have:=h7 p hp;omega
theorem E8 {c k:Int} {cs:List Int} (h:c<=k):Ar (c::cs) k=Ar cs k+1:=by
 simp only[Ar]
 rw[List.takeWhile_cons_of_pos (by simpa using h),List.length_cons]
theorem FV {c k:Int} {cs:List Int} (h:¬c<=k):Ar (c::cs) k=0:=by simp[Ar,h]
theorem FE.get:∀ {cs:List Int} {lo hi:Int} {Ms:List PL} (k:Int),FE lo hi cs Ms->Ay Ms.flatten k=Ay (Ms.getD (Ar cs k) []) k
 |[],_,_,[M],k,_=>by simp[Ar]
 |[],_,_,[],_,h=>h.elim
 |[],_,_,_::_::_,_,h=>h.elim
 |_::_,_,_,[],_,h=>h.elim
 |c::cs,lo,hi,M::Ms,k,⟨⟨h1,h2⟩,h3,h4,h5⟩=>by
  rw[List.flatten_cons]
  by_cases hc:c<=k
  ·rw[E8 hc,List.getD_cons_succ, ← FE.get k h5]
   exact Gt fun p hp=>by have:=h2 p hp;omega
  ·rw[FV hc,List.getD_cons_zero]
   exact Fd fun p hp=>by have:=(FE.flat h5).2 p hp;omega

def frC (cs:List Int) (lo:Int) (i:Nat):Int:=if i=0 then lo else iAt cs (i-1)
def toC (cs:List Int) (hi:Int) (i:Nat):Int:=if i<cs.length then iAt cs i else hi
theorem FE.of:∀ {cs:List Int} {lo hi:Int} {Ms:List PL},Ms.length=cs.length+1->(∀i,i<cs.length->frC cs lo i<iAt cs i/\iAt cs i<hi)→
  (∀i,i<Ms.length->CP (Ms.getD i [])/\FQ (frC cs lo i) (toC cs hi i) (Ms.getD i []))->FE lo hi cs Ms
 |[],lo,hi,[M],_,_,h=>by simpa[frC,toC,FE] using h 0 (by simp)
 |[],_,_,[],hl,_,_=>by simp at hl
 |[],_,_,_::_::_,hl,_,_=>by simp at hl
 |_::_,_,_,[],hl,_,_=>by simp at hl
 |c::cs,lo,hi,M::Ms,hl,hc,h=>by
  have h0:=h 0 (by simp)
  have c0:=hc 0 (by simp)
  simp only[frC,toC,if_true,List.length_cons,Nat.zero_lt_succ,iAt,List.getD_cons_zero] at h0 c0
  refine⟨h0,c0.1,c0.2,FE.of (by simpa using hl) (fun i hi0=> ?_) (fun i hi0=> ?_)⟩
  ·have:=hc (i+1) (by simpa using hi0)
   simp only[frC,iAt,Nat.add_one_ne_zero,if_false,Nat.add_sub_cancel,List.getD_cons_succ] at this ⊢
   cases i with
   |zero=>simpa using this
   |succ i=>simpa using this
  ·have:=h (i+1) (by simpa using hi0)
   simp only[frC,toC,iAt,Nat.add_one_ne_zero,if_false,Nat.add_sub_cancel,List.getD_cons_succ,List.length_cons,Nat.add_lt_add_iff_right] at this ⊢
   cases i with
   |zero=>simpa using this
   |succ i=>simpa using this

def Ew:Nat->Tr->PL
 |0,_=>[]
 |n+1,T=>Cd (T.pairs++(T.kids.map (Ew n)).flatten) T.buf
def mineK (cs:List Int) (i:Nat) (ms:ML):ML:=ms.filter fun m=>decide (EP cs m.2.1 cs.length=i)
def Co:Nat->Tr->ML->PL
 |0,_,_=>[]
 |n+1,T,ab=>if T.leaf=true then Cd T.pairs ab else ((List.range T.kids.length).map fun i=>Co n (AQ T i) (mineK T.cuts i (T.buf++ab))).flatten

theorem Wb {l:PL} {m:Int × Int × Int} {p:Int × Int} (h:p∈doL l m):p∈l∨p.1=m.2.1:=by
 have hput:∀v,p∈B9 l m.2.1 v->p∈l∨p.1=m.2.1:=fun v hp=>by
  rcases List.mem_append.1 hp with h1|h1
  ·exact .inl (List.mem_filter.1 h1).1
  ·rcases List.mem_cons.1 h1 with rfl|h2
   ·exact .inr rfl
   ·exact .inl (List.mem_filter.1 h2).1
 unfold doL at h;split at h
 ·unfold doP at h;split at h
  ·exact hput _ h
  ·split at h
   ·exact .inl (List.mem_filter.1 h).1
   ·split at h
    ·exact hput _ h
    ·exact .inl h
 ·exact .inl h
theorem JA {l:PL} {ms:ML} {lo hi:Int} (h:FQ lo hi l) (hm:∀m∈ms,lo<=m.2.1/\m.2.1<hi):FQ lo hi (Cd l ms):=by
 induction ms generalizing l with
 |nil=>exact h
 |cons m ms ih=>
  refine ih (l:=doL l m) (fun p hp=> ?_) fun x hx=>hm x (List.mem_cons_of_mem _ hx)
  rcases Wb hp with h1|h1
  ·exact h p h1
  ·rw[h1];exact hm m List.mem_cons_self

theorem Ig {T:Tr} {lo hi:Int} (h:Fp T lo hi=true):∀i,i<T.cuts.length->frC T.cuts lo i<iAt T.cuts i/\iAt T.cuts i<hi:=by
 intro i hi0;have:=Ep.1 (GX h hi0)
 simp only[Dl] at this
 unfold frC;omega
theorem Nk {m:Nat} {T:Tr} {lo hi:Int} (h:AK (m+1) T lo hi≠0) (hl:T.leaf=false):∀i,i<T.kids.length->AK m (AQ T i) (frC T.cuts lo i) (toC T.cuts hi i)≠0:=(A0 h hl).2
theorem Ik {m:Nat} {T:Tr} {k:Int} (hl:T.leaf=false):Je (m+1) T k=Fr (Je m (QA T k) k) (ofK T.buf k):=by
 rw[Je,DO,Dq,if_neg (by rw[hl];simp),if_neg (by rw[hl];simp),Hj];rfl
theorem In {m:Nat} {T:Tr} {k:Int} (hl:T.leaf=true):Je (m+1) T k=Ay T.pairs k:=by
 rw[Je,DO,Dq,if_pos hl,if_pos hl];rfl

theorem GU:∀ {m:Nat} {T:Tr} {lo hi:Int},AK m T lo hi≠0->CP (Ew m T)/\FQ lo hi (Ew m T)/\∀k,Ay (Ew m T) k=Je m T k
 |0,_,_,_,h=>absurd rfl h
 |m+1,T,lo,hi,h=>by
  cases hl:T.leaf
  ·have hf:=(A0 h hl).1
   obtain⟨q1,q2,q3,q4,q5,q6⟩:=Be hf
   have hk:=Nk h hl
   have hb:=Gm q5
   have C:FE lo hi T.cuts (T.kids.map (Ew m)):=by
    refine FE.of (by rw[List.length_map];omega) (Ig q6) fun i hi0=> ?_
    rw[List.length_map] at hi0
    have e:(T.kids.map (Ew m)).getD i []=Ew m (AQ T i):=by simp[List.getD,AQ,hi0]
    rw[e]
    have:=GU (hk i hi0)
    exact⟨this.1,this.2.1⟩
   obtain⟨f1,f2⟩:=C.flat
   rw[Ew,q1,List.nil_append]
   refine⟨JV f1 _,JA f2 fun x hx=>(hb x hx).2,fun k=> ?_⟩
   have hi0:=I9 hf k
   rw[Im f1,C.get k,Ik hl]
   have e:(T.kids.map (Ew m)).getD (Ar T.cuts k) []=Ew m (QA T k):=by simp[List.getD,AQ,QA,hi0]
   have e2:Ay (Ew m (QA T k)) k=Je m (QA T k) k:=(GU (hk _ hi0)).2.2 k
   rw[e,e2]
  ·obtain⟨q1,q2,q3,q4,q5,q6⟩:=Cb (Bf h hl)
   have e:Ew (m+1) T=T.pairs:=by rw[Ew,q3,q4];simp[Cd]
   rw[e]
   exact⟨q1,q6,fun k=>(In hl).symm⟩

theorem Hn {cs:List Int} {lo hi k:Int} {i:Nat} (hlen:i<=cs.length) (h:∀i,i<cs.length->frC cs lo i<iAt cs i/\iAt cs i<hi) (hk:lo<=k/\k<hi) (e:Ar cs k=i):frC cs lo i<=k/\k<toC cs hi i:=by
 induction cs generalizing lo i with
 |nil=>simp at hlen;subst hlen;simpa[frC,toC] using hk
 |cons c cs ih=>
  have c0:=h 0 (by simp)
  simp only[frC,if_true,iAt,List.getD_cons_zero] at c0
  have hs:∀i,i<cs.length->frC cs c i<iAt cs i/\iAt cs i<hi:=fun i hi0=>by
   have:=h (i+1) (by simpa using hi0)
   simp only[frC,iAt,Nat.add_one_ne_zero,if_false,Nat.add_sub_cancel,List.getD_cons_succ] at this ⊢
   cases i with
   |zero=>simpa using this
   |succ i=>simpa using this
  by_cases hc:c<=k
  ·rw[E8 hc] at e
   subst e;have:=ih (lo:=c) (i:=Ar cs k) (by simpa using hlen) hs ⟨hc,hk.2⟩ rfl
   simp only[frC,toC,iAt,Nat.add_one_ne_zero,if_false,Nat.add_sub_cancel,List.getD_cons_succ,List.length_cons,Nat.add_lt_add_iff_right] at this ⊢
   generalize Ar cs k=j at *
   cases j with
   |zero=>simpa using this
   |succ j=>simpa using this
  ·rw[FV hc] at e
   subst e;simp only[frC,toC,if_true,List.length_cons,Nat.zero_lt_succ,iAt,List.getD_cons_zero]
   omega
theorem TI {cs:List Int} {k:Int} {i:Nat} (ms:ML) (e:EP cs k cs.length=i):ofK (mineK cs i ms) k=ofK ms k:=by
 unfold ofK mineK;rw[List.filter_filter]
 refine List.filter_congr fun m _=> ?_
 by_cases hm:m.2.1=k
 ·simp[hm,e]
 ·simp[hm]

theorem Jk:∀ {m:Nat} {T:Tr} {lo hi:Int} {ab:ML},AK m T lo hi≠0->(∀x∈ab,lo<=x.2.1/\x.2.1<hi)→
  CP (Co m T ab)/\FQ lo hi (Co m T ab)/\∀k,Ay (Co m T ab) k=Fr (Je m T k) (ofK ab k)
 |0,_,_,_,_,h,_=>absurd rfl h
 |m+1,T,lo,hi,ab,h,hab=>by
  cases hl:T.leaf
  ·have hf:=(A0 h hl).1
   obtain⟨q1,q2,q3,q4,q5,q6⟩:=Be hf
   have hk:=Nk h hl
   have hb:=Gm q5
   have hall:∀x∈T.buf++ab,lo<=x.2.1/\x.2.1<hi:=fun x hx=>(List.mem_append.1 hx).elim (fun h=>(hb x h).2) (hab x)
   have hcp:∀k,EP T.cuts k T.cuts.length=Ar T.cuts k:=fun k=>JH (Qz q6)
   have hmine:∀i,i<T.kids.length->∀x∈mineK T.cuts i (T.buf++ab),frC T.cuts lo i<=x.2.1/\x.2.1<toC T.cuts hi i:=fun i hi0 x hx=>by
    obtain⟨h1,h2⟩:=List.mem_filter.1 hx
    rw[decide_eq_true_eq,hcp] at h2
    exact Hn (by omega) (Ig q6) (hall x h1) h2
   have e:∀i,i<T.kids.length->((List.range T.kids.length).map fun i=>Co m (AQ T i) (mineK T.cuts i (T.buf++ab))).getD i []=Co m (AQ T i) (mineK T.cuts i (T.buf++ab)):=fun i hi0=>by simp[List.getD,hi0]
   have C:FE lo hi T.cuts ((List.range T.kids.length).map fun i=>Co m (AQ T i) (mineK T.cuts i (T.buf++ab))):=by
    refine FE.of (by simp;omega) (Ig q6) fun i hi0=> ?_
    rw[List.length_map,List.length_range] at hi0
    rw[e i hi0]
    have:=Jk (hk i hi0) (hmine i hi0)
    exact⟨this.1,this.2.1⟩
   obtain⟨f1,f2⟩:=C.flat
   rw[Co,if_neg (by rw[hl];simp)]
   refine⟨f1,f2,fun k=> ?_⟩
   have hi0:=I9 hf k
   rw[C.get k,Ik hl,e _ hi0,(Jk (hk _ hi0) (hmine _ hi0)).2.2 k,TI _ (hcp k),IL,Hj];rfl
  ·obtain⟨q1,q2,q3,q4,q5,q6⟩:=Cb (Bf h hl)
   rw[Co,if_pos hl]
   exact⟨JV q1 _,JA q6 hab,fun k=>by rw[Im q1,In hl]⟩

theorem Mw {T:Tr} (h:okT T=true):Co 7 T []=Ew 7 T:=by
 have h1:=GU (C9 h)
 have h2:=Jk (ab:=[]) (C9 h) (fun x hx=>by simp at hx)
 exact Su h2.1.1 h1.1.1 fun k=>by rw[h2.2.2 k,h1.2.2 k];rfl

def A8 (l:PL) (lo hi:Int):PL:=l.filter fun p=>decide (lo<=p.1/\p.1<hi)
theorem MZ (l:PL) (lo hi:Int):(A8 l lo hi).length<=l.length:=List.length_filter_le _ _
theorem Kq (l:PL) (p:Int × Int) (lo hi:Int):A8 (l++[p]) lo hi=if lo<=p.1/\p.1<hi then A8 l lo hi++[p] else A8 l lo hi:=by
 unfold A8;rw[List.filter_append]
 by_cases h:lo<=p.1/\p.1<hi
 ·simp[h]
 ·simp[h]
theorem QF {A B:PL} {p:Int × Int} {lo hi:Int} (h:Asc (A++p::B)) (hp:hi<=p.1):A8 (A++p::B) lo hi=A8 A lo hi:=by
 have hB:∀q∈p::B,¬(lo<=q.1/\q.1<hi):=by
  have h2:Asc (p::B):=by
   have:=List.pairwise_append.1 (show(Bk A++Bk (p::B)).Pairwise (· < ·) by rw[Bk,Bk, ← List.map_append];exact h)
   exact this.2.1
  intro q hq;rcases List.mem_cons.1 hq with rfl|hq
  ·omega
  ·have:=h2.cons.1 q hq;omega
 unfold A8;have e:List.filter (fun p=>decide (lo<=p.1/\p.1<hi)) (p::B)=[]:=List.filter_eq_nil_iff.2 (fun q hq=>by simpa using hB q hq)
 rw[List.filter_append,e,List.append_nil]
end
section
open Go.RowKit

theorem Rz {P:Program} {o:Oper} {a:Act} {K:Act->World->Prop} {Q:Exit->Act->World->Prop} (W:World) (s x:Operand) (t:TypeId)
  (ho:o.op= .call { callee:= .builtin .append,args:= #[s,x],argTypes:= #[t,t] })
  (base:Nat) (e:TypeId) (i:TypeInfo) (z:Value) (size bytes:Nat) (ht:P.underlying t=some (.slice e)) (hi:P.info? e=some i) (hz:i.zero=some z)
  (hsize:i.size=size) (hby:i.bytes=bytes) (hzs:z.cells.size=size) (hsz:0<size)
  (v:Value) (n:Nat) (xs:List Value) (hs:a.eval s=v) (hown:W.ownsRow base e size v n xs)
  (u:Value) (m:Nat) (news:List Value) (hx:a.eval x=u) (hr:Row W u m news) (hl:news.length=m*size) (h1:∀y∈news,y.oneCell' =true)
  (h63:n+m<=maxLen) (hbytes:(n+m)*bytes<=140737488355328) (hbase:base<=W.heap.size)
  (h:∀v' w',w'.ownsRow base e size v' (n+m) (xs++news)->Chg (fun g=>v.ownBlock=some g) W w' ->Below base W w' ->K (a.put o.dst v') w'):o.wp P a W K Q:=by
 obtain⟨sa,b,off,cap,rfl,hle,hmx,hsa,hcell,hnil⟩:=hr
 by_cases hm:0<m
 ·obtain rfl:=hsa hm
  refine wp_append_lies W s x t ho base e i z size bytes ht hi hz hsize hby hzs hsz v n xs hs hown ⟨b,off,none⟩ m cap news hx hl ?_ h1 hm h63 hbytes hbase _ rfl ?_
  ·intro j y hj;rw[Go.WideShapes.add_plain]
   exact hcell j y hj
  ·intro g cap' w' h2 h3 _ _;have hc:=Df h3
   exact h _ w' h2 hc (EZ hown hc hbase)
 ·have hm0:m=0:=by omega
  subst hm0;have hn0:news=[]:=List.length_eq_zero_iff.1 (by omega)
  subst hn0
  cases sa with
  |none=>
   have hc0:=hnil rfl
   subst hc0;have hrun:=run_append_owned_none (P:=P) (w:=W) base t o.type e i size ht hi v n xs hown
   unfold Oper.wp
   simp[execOp,ho,resolve,invoke,builtin,hs,hx,hrun,Result.andThen]
   exact h v W (by simpa using hown) (Chg.refl _ _) (Below.refl _ _)
  |some ad=>
   obtain⟨v',w',hr,h2,h3,_⟩:=run_append_own_at (P:=P) W base t o.type e i z size bytes ht hi hz hsize hby hzs hsz v n xs hown ad 0 cap [] (by simp) (by intro j y hj;simp at hj) h1 h63 hbytes hbase
   unfold Oper.wp
   simp[execOp,ho,resolve,invoke,builtin,hs,hx,hr,Result.andThen]
   have hc:=Df h3
   exact h _ w' h2 hc (EZ hown hc hbase)

theorem FP (l:ML):∀y∈Af l,y.oneCell' =true:=by
 induction l with
 |nil=>intro y hy;simp[Af] at hy
 |cons p l ih=>
  intro y hy;rw[Es] at hy
  rcases List.mem_cons.1 hy with rfl|hy
  ·rfl
  ·rcases List.mem_cons.1 hy with rfl|hy
   ·rfl
   ·rcases List.mem_cons.1 hy with rfl|hy
    ·rfl
    ·exact ih y hy
theorem Ia (a b c:Int):∀u∈[Value.int .i64 a,Value.int .i64 b,Value.int .i64 c],u.oneCell' =true:=by
 intro u hu;simp at hu;rcases hu with rfl|rfl|rfl<;>rfl
end
section
open Go.RowKit

theorem AB {u:World} {B:Nat} {x0 x1 x2 x3 x4:Value} (h:Ak u B #[x0,x1,x2,x3,x4]) :
  u.cell? ⟨B,0,none⟩=some x0/\u.cell? ⟨B,1,none⟩=some x1/\u.cell? ⟨B,2,none⟩=some x2/\u.cell? ⟨B,3,none⟩=some x3/\u.cell? ⟨B,4,none⟩=some x4:=by
 have:=h.cells
 exact⟨by rw[this];rfl,by rw[this];rfl,by rw[this];rfl,by rw[this];rfl,by rw[this];rfl⟩
theorem Ak.stepB {u w' :World} {B N:Nat} {A:Array Value} (h:Ak u B A) (hb:Below N u w') (hN:B<N):Ak w' B A:=(hb.block B hN).trans h
theorem Ab {w w' :World} {N b o:Nat} {v:Value} (hb:Below N w w') (hN:b<N) (h:w.cell? ⟨b,o,none⟩=some v):w'.cell? ⟨b,o,none⟩=some v:=(hb.cell (p:=⟨b,o,none⟩) hN).trans h
end
end Go.Proofs.YtadmomgdacfgpaaGreat
