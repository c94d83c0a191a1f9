/-
  What map a tree tells, as plain functions: kid by kid as the model says it, leaf by leaf as the program does; plain mathematics.
  Contracts of the program's messages behind an interface, and of its sum at the limit.
  Shrinking messages, as the model and as the program do it; plain mathematics: both come to one.
-/
import Derived.Test.YtadmomgdacfgpaaGreatOfInjd7
import Derived.Test.YtadmomgdacfgpaaGreatOfInjd3
import Derived.Test.YtadmomgdacfgpaaGreatOfInjd1
namespace Go.Proofs.YtadmomgdacfgpaaGreat
set_option maxRecDepth 100000
set_option maxHeartbeats 8000000
section
theorem EV {A B:PL} {k:Int} (h:∀p∈B,p.1≠k):Aw (A++B) k=Aw A k:=by
 induction A with
 |nil=>
  show Aw B k=(0,false)
  induction B with
  |nil=>rfl
  |cons p B ih=>rw[Aw,if_neg (h p List.mem_cons_self)];exact ih fun q hq=>h q (List.mem_cons_of_mem _ hq)
 |cons p A ih=>rw[List.cons_append,Aw,Aw,ih]
theorem F9 {A B:PL} {k:Int} (h:∀p∈A,p.1≠k):Aw (A++B) k=Aw B k:=by
 induction A with
 |nil=>rfl
 |cons p A ih=>rw[List.cons_append,Aw,if_neg (h p List.mem_cons_self)];exact ih fun q hq=>h q (List.mem_cons_of_mem _ hq)
theorem Kg {l:PL} {k:Int} (h:∀p∈l,p.1≠k):Aw l k=(0,false):=by
 have:=EV (A:=[]) h
 simpa[Aw] using this
theorem QD {A B:PL} {c:Int} (hA:Asc A) (hB:Asc B) (h1:∀p∈A,p.1<c) (h2:∀p∈B,c<=p.1):Asc (A++B):=by
 show(Be (A++B)).Pairwise (· < ·)
 rw[Be,List.map_append]
 refine List.pairwise_append.2 ⟨hA,hB,fun a ha b hb=> ?_⟩
 obtain⟨p,hp,rfl⟩:=List.mem_map.1 ha
 obtain⟨q,hq,rfl⟩:=List.mem_map.1 hb
 have:=h1 p hp
 have:=h2 q hq
 omega
theorem Np:∀ {l1 l2:PL},Asc l1->Asc l2->(∀k,Aw l1 k=Aw l2 k)->l1=l2
 |[],[],_,_,_=>rfl
 |[],q::l2,_,_,h=>by have:=h q.1;rw[Aw,Aw,if_pos rfl] at this;simp at this
 |p::l1,[],_,_,h=>by have:=h p.1;rw[Aw,Aw,if_pos rfl] at this;simp at this
 |p::l1,q::l2,h1,h2,h=>by
  obtain⟨a1,a2⟩:=h1.cons
  obtain⟨b1,b2⟩:=h2.cons
  have n1:∀j,j<=p.1->Aw l1 j=(0,false):=fun j hj=>Kg fun r hr=>by have:=a1 r hr;omega
  have n2:∀j,j<=q.1->Aw l2 j=(0,false):=fun j hj=>Kg fun r hr=>by have:=b1 r hr;omega
  have hk:p.1=q.1:=by
   rcases Int.lt_trichotomy p.1 q.1 with hlt|he|hgt
   ·have:=h p.1
    rw[Aw,if_pos rfl,Aw,if_neg (by omega),n2 _ (by omega)] at this
    simp at this
   ·exact he
   ·have:=h q.1
    rw[Aw,if_neg (by omega),n1 _ (by omega),Aw,if_pos rfl] at this
    simp at this
  have hv:=h p.1
  rw[Aw,if_pos rfl,Aw,if_pos hk.symm] at hv
  have hpq:p=q:=Prod.ext hk (by simpa using hv)
  subst hpq;rw[Np a2 b2 fun j=> ?_]
  by_cases hj:p.1=j
  ·subst hj;rw[n1 _ (Int.le_refl _),n2 _ (Int.le_refl _)]
  ·have:=h j
   rw[Aw,if_neg hj,Aw,if_neg hj] at this
   exact this

theorem Nc:∀ {l:PL} {lo:Int},Asc l->lo<=1000->(∀p∈l,lo<=p.1/\p.1<=999)->(l.length:Int)<=1000-lo
 |[],lo,_,h,_=>by simp;omega
 |p::l,lo,hA,hlo,h=>by
  obtain⟨h1,h2⟩:=hA.cons
  have hp:=h p List.mem_cons_self
  have:=Nc (lo:=p.1+1) h2 (by omega) fun q hq=>⟨by have:=h1 q hq;omega,(h q (List.mem_cons_of_mem _ hq)).2⟩
  simp only[List.length_cons]
  omega
theorem Cy.length {l:PL} (h:Cy l):l.length<=1000:=by
 have:=Nc (lo:=0) h.1 (by decide) fun p hp=>(h.2 p hp).1
 omega

def FK (lo hi:Int) (l:PL):Prop:=∀p∈l,lo<=p.1/\p.1<hi
def Fh:Int->Int->List Int->List PL->Prop
 |lo,hi,[],[M]=>Cy M/\FK lo hi M
 |lo,hi,c::cs,M::Ms=>(Cy M/\FK lo c M)/\lo<c/\c<hi/\Fh c hi cs Ms
 |_,_,_,_=>False
theorem PU {A B:PL} {c:Int} (hA:Cy A) (hB:Cy B) (h1:∀p∈A,p.1<c) (h2:∀p∈B,c<=p.1):Cy (A++B):=
 ⟨QD hA.1 hB.1 h1 h2,fun p hp=>(List.mem_append.1 hp).elim (hA.2 p) (hB.2 p)⟩
theorem Fh.flat:∀ {cs:List Int} {lo hi:Int} {Ms:List PL},Fh lo hi cs Ms->Cy Ms.flatten/\FK lo hi Ms.flatten
 |[],_,_,[M],h=>by rw[List.flatten_cons,List.flatten_nil,List.append_nil];exact h
 |[],_,_,[],h=>h.elim
 |[],_,_,_::_::_,h=>h.elim
 |_::_,_,_,[],h=>h.elim
 |c::cs,lo,hi,M::Ms,⟨⟨h1,h2⟩,h3,h4,h5⟩=>by
  obtain⟨h6,h7⟩:=Fh.flat h5
  rw[List.flatten_cons]
  refine⟨PU h1 h6 (fun p hp=>(h2 p hp).2) (fun p hp=>(h7 p hp).1),fun p hp=> ?_⟩
  rcases List.mem_append.1 hp with hp|hp
  ·have:=h2 p hp;omega
  ·have:=h7 p hp;omega
theorem EB {c k:Int} {cs:List Int} (h:c<=k):AH (c::cs) k=AH cs k+1:=by
 simp only[AH]
 rw[List.takeWhile_cons_of_pos (by simpa using h),List.length_cons]
theorem FM {c k:Int} {cs:List Int} (h:¬c<=k):AH (c::cs) k=0:=by simp[AH,h]
theorem Fh.get:∀ {cs:List Int} {lo hi:Int} {Ms:List PL} (k:Int),Fh lo hi cs Ms->Aw Ms.flatten k=Aw (Ms.getD (AH cs k) []) k
 |[],_,_,[M],k,_=>by simp[AH]
 |[],_,_,[],_,h=>h.elim
 |[],_,_,_::_::_,_,h=>h.elim
 |_::_,_,_,[],_,h=>h.elim
 |c::cs,lo,hi,M::Ms,k,⟨⟨h1,h2⟩,h3,h4,h5⟩=>by
  rw[List.flatten_cons]
  by_cases hc:c<=k
  ·rw[EB hc,List.getD_cons_succ, ← Fh.get k h5]
   exact F9 fun p hp=>by have:=h2 p hp;omega
  ·rw[FM hc,List.getD_cons_zero]
   exact EV fun p hp=>by have:=(Fh.flat h5).2 p hp;omega

def frC (cs:List Int) (lo:Int) (i:Nat):Int:=if i=0 then lo else iAt cs (i-1)
def toC (cs:List Int) (hi:Int) (i:Nat):Int:=if i<cs.length then iAt cs i else hi
theorem Fh.of:∀ {cs:List Int} {lo hi:Int} {Ms:List PL},Ms.length=cs.length+1->(∀i,i<cs.length->frC cs lo i<iAt cs i/\iAt cs i<hi)→
  (∀i,i<Ms.length->Cy (Ms.getD i [])/\FK (frC cs lo i) (toC cs hi i) (Ms.getD i []))->Fh lo hi cs Ms
 |[],lo,hi,[M],_,_,h=>by simpa[frC,toC,Fh] using h 0 (by simp)
 |[],_,_,[],hl,_,_=>by simp at hl
 |[],_,_,_::_::_,hl,_,_=>by simp at hl
 |_::_,_,_,[],hl,_,_=>by simp at hl
 |c::cs,lo,hi,M::Ms,hl,hc,h=>by
  have h0:=h 0 (by simp)
  have c0:=hc 0 (by simp)
  simp only[frC,toC,if_true,List.length_cons,Nat.zero_lt_succ,iAt,List.getD_cons_zero] at h0 c0
  refine⟨h0,c0.1,c0.2,Fh.of (by simpa using hl) (fun i hi0=> ?_) (fun i hi0=> ?_)⟩
  ·have:=hc (i+1) (by simpa using hi0)
   simp only[frC,iAt,Nat.add_one_ne_zero,if_false,Nat.add_sub_cancel,List.getD_cons_succ] at this ⊢
   cases i with
   |zero=>simpa using this
   |succ i=>simpa using this
  ·have:=h (i+1) (by simpa using hi0)
   simp only[frC,toC,iAt,Nat.add_one_ne_zero,if_false,Nat.add_sub_cancel,List.getD_cons_succ,List.length_cons,Nat.add_lt_add_iff_right] at this ⊢
   cases i with
   |zero=>simpa using this
   |succ i=>simpa using this

def GZ:Nat->Tr->PL
 |0,_=>[]
 |n+1,T=>Cb (T.pairs++(T.kids.map (GZ n)).flatten) T.buf
def mineK (cs:List Int) (i:Nat) (ms:ML):ML:=ms.filter fun m=>decide (EA cs m.2.1 cs.length=i)
def Cz:Nat->Tr->ML->PL
 |0,_,_=>[]
 |n+1,T,ab=>if T.leaf=true then Cb T.pairs ab else ((List.range T.kids.length).map fun i=>Cz n (Ba T i) (mineK T.cuts i (T.buf++ab))).flatten

theorem VM {l:PL} {m:Int × Int × Int} {p:Int × Int} (h:p∈doL l m):p∈l∨p.1=m.2.1:=by
 have hput:∀v,p∈BH l m.2.1 v->p∈l∨p.1=m.2.1:=fun v hp=>by
  rcases List.mem_append.1 hp with h1|h1
  ·exact .inl (List.mem_filter.1 h1).1
  ·rcases List.mem_cons.1 h1 with rfl|h2
   ·exact .inr rfl
   ·exact .inl (List.mem_filter.1 h2).1
 unfold doL at h;split at h
 ·unfold doP at h;split at h
  ·exact hput _ h
  ·split at h
   ·exact .inl (List.mem_filter.1 h).1
   ·split at h
    ·exact hput _ h
    ·exact .inl h
 ·exact .inl h
theorem I5 {l:PL} {ms:ML} {lo hi:Int} (h:FK lo hi l) (hm:∀m∈ms,lo<=m.2.1/\m.2.1<hi):FK lo hi (Cb l ms):=by
 induction ms generalizing l with
 |nil=>exact h
 |cons m ms ih=>
  refine ih (l:=doL l m) (fun p hp=> ?_) fun x hx=>hm x (List.mem_cons_of_mem _ hx)
  rcases VM hp with h1|h1
  ·exact h p h1
  ·rw[h1];exact hm m List.mem_cons_self

theorem Ht {T:Tr} {lo hi:Int} (h:E8 T lo hi=true):∀i,i<T.cuts.length->frC T.cuts lo i<iAt T.cuts i/\iAt T.cuts i<hi:=by
 intro i hi0;have:=Ec.1 (GP h hi0)
 simp only[Da] at this
 unfold frC;omega
theorem Ni {m:Nat} {T:Tr} {lo hi:Int} (h:AE (m+1) T lo hi≠0) (hl:T.leaf=false):∀i,i<T.kids.length->AE m (Ba T i) (frC T.cuts lo i) (toC T.cuts hi i)≠0:=(BJ h hl).2
theorem Fr {m:Nat} {T:Tr} {k:Int} (hl:T.leaf=false):FW (m+1) T k=Eh (FW m (Qp T k) k) (ofK T.buf k):=by
 rw[FW,Mv,J3,if_neg (by rw[hl];simp),if_neg (by rw[hl];simp),G6];rfl
theorem Fs {m:Nat} {T:Tr} {k:Int} (hl:T.leaf=true):FW (m+1) T k=Aw T.pairs k:=by
 rw[FW,Mv,J3,if_pos hl,if_pos hl];rfl

theorem IL:∀ {m:Nat} {T:Tr} {lo hi:Int},AE m T lo hi≠0->Cy (GZ m T)/\FK lo hi (GZ m T)/\∀k,Aw (GZ m T) k=FW m T k
 |0,_,_,_,h=>absurd rfl h
 |m+1,T,lo,hi,h=>by
  cases hl:T.leaf
  ·have hf:=(BJ h hl).1
   obtain⟨q1,q2,q3,q4,q5,q6⟩:=Br hf
   have hk:=Ni h hl
   have hb:=Gc q5
   have C:Fh lo hi T.cuts (T.kids.map (GZ m)):=by
    refine Fh.of (by rw[List.length_map];omega) (Ht q6) fun i hi0=> ?_
    rw[List.length_map] at hi0
    have e:(T.kids.map (GZ m)).getD i []=GZ m (Ba T i):=by simp[List.getD,Ba,hi0]
    rw[e]
    have:=IL (hk i hi0)
    exact⟨this.1,this.2.1⟩
   obtain⟨f1,f2⟩:=C.flat
   rw[GZ,q1,List.nil_append]
   refine⟨Jj f1 _,I5 f2 fun x hx=>(hb x hx).2,fun k=> ?_⟩
   have hi0:=NP hf k
   rw[I8 f1,C.get k,Fr hl]
   have e:(T.kids.map (GZ m)).getD (AH T.cuts k) []=GZ m (Qp T k):=by simp[List.getD,Ba,Qp,hi0]
   have e2:Aw (GZ m (Qp T k)) k=FW m (Qp T k) k:=(IL (hk _ hi0)).2.2 k
   rw[e,e2]
  ·obtain⟨q1,q2,q3,q4,q5,q6⟩:=DF (Cc h hl)
   have e:GZ (m+1) T=T.pairs:=by rw[GZ,q3,q4];simp[Cb]
   rw[e]
   exact⟨q1,q6,fun k=>(Fs hl).symm⟩

theorem Hj {cs:List Int} {lo hi k:Int} {i:Nat} (hlen:i<=cs.length) (h:∀i,i<cs.length->frC cs lo i<iAt cs i/\iAt cs i<hi) (hk:lo<=k/\k<hi) (e:AH cs k=i):frC cs lo i<=k/\k<toC cs hi i:=by
 induction cs generalizing lo i with
 |nil=>simp at hlen;subst hlen;simpa[frC,toC] using hk
 |cons c cs ih=>
  have c0:=h 0 (by simp)
  simp only[frC,if_true,iAt,List.getD_cons_zero] at c0
  have hs:∀i,i<cs.length->frC cs c i<iAt cs i/\iAt cs i<hi:=fun i hi0=>by
   have:=h (i+1) (by simpa using hi0)
   simp only[frC,iAt,Nat.add_one_ne_zero,if_false,Nat.add_sub_cancel,List.getD_cons_succ] at this ⊢
   cases i with
   |zero=>simpa using this
   |succ i=>simpa using this
  by_cases hc:c<=k
  ·rw[EB hc] at e
   subst e;have:=ih (lo:=c) (i:=AH cs k) (by simpa using hlen) hs ⟨hc,hk.2⟩ rfl
   simp only[frC,toC,iAt,Nat.add_one_ne_zero,if_false,Nat.add_sub_cancel,List.getD_cons_succ,List.length_cons,Nat.add_lt_add_iff_right] at this ⊢
   generalize AH cs k=j at *
   cases j with
   |zero=>simpa using this
   |succ j=>simpa using this
  ·rw[FM hc] at e
   subst e;simp only[frC,toC,if_true,List.length_cons,Nat.zero_lt_succ,iAt,List.getD_cons_zero]
   omega
theorem Sy {cs:List Int} {k:Int} {i:Nat} (ms:ML) (e:EA cs k cs.length=i):ofK (mineK cs i ms) k=ofK ms k:=by
 unfold ofK mineK;rw[List.filter_filter]
 refine List.filter_congr fun m _=> ?_
 by_cases hm:m.2.1=k
 ·simp[hm,e]
 ·simp[hm]

theorem Li:∀ {m:Nat} {T:Tr} {lo hi:Int} {ab:ML},AE m T lo hi≠0->(∀x∈ab,lo<=x.2.1/\x.2.1<hi)→
  Cy (Cz m T ab)/\FK lo hi (Cz m T ab)/\∀k,Aw (Cz m T ab) k=Eh (FW m T k) (ofK ab k)
 |0,_,_,_,_,h,_=>absurd rfl h
 |m+1,T,lo,hi,ab,h,hab=>by
  cases hl:T.leaf
  ·have hf:=(BJ h hl).1
   obtain⟨q1,q2,q3,q4,q5,q6⟩:=Br hf
   have hk:=Ni h hl
   have hb:=Gc q5
   have hall:∀x∈T.buf++ab,lo<=x.2.1/\x.2.1<hi:=fun x hx=>(List.mem_append.1 hx).elim (fun h=>(hb x h).2) (hab x)
   have hcp:∀k,EA T.cuts k T.cuts.length=AH T.cuts k:=fun k=>Mx (UK q6)
   have hmine:∀i,i<T.kids.length->∀x∈mineK T.cuts i (T.buf++ab),frC T.cuts lo i<=x.2.1/\x.2.1<toC T.cuts hi i:=fun i hi0 x hx=>by
    obtain⟨h1,h2⟩:=List.mem_filter.1 hx
    rw[decide_eq_true_eq,hcp] at h2
    exact Hj (by omega) (Ht q6) (hall x h1) h2
   have e:∀i,i<T.kids.length->((List.range T.kids.length).map fun i=>Cz m (Ba T i) (mineK T.cuts i (T.buf++ab))).getD i []=Cz m (Ba T i) (mineK T.cuts i (T.buf++ab)):=fun i hi0=>by simp[List.getD,hi0]
   have C:Fh lo hi T.cuts ((List.range T.kids.length).map fun i=>Cz m (Ba T i) (mineK T.cuts i (T.buf++ab))):=by
    refine Fh.of (by simp;omega) (Ht q6) fun i hi0=> ?_
    rw[List.length_map,List.length_range] at hi0
    rw[e i hi0]
    have:=Li (hk i hi0) (hmine i hi0)
    exact⟨this.1,this.2.1⟩
   obtain⟨f1,f2⟩:=C.flat
   rw[Cz,if_neg (by rw[hl];simp)]
   refine⟨f1,f2,fun k=> ?_⟩
   have hi0:=NP hf k
   rw[C.get k,Fr hl,e _ hi0,(Li (hk _ hi0) (hmine _ hi0)).2.2 k,Sy _ (hcp k),Ko,G6];rfl
  ·obtain⟨q1,q2,q3,q4,q5,q6⟩:=DF (Cc h hl)
   rw[Cz,if_pos hl]
   exact⟨Jj q1 _,I5 q6 hab,fun k=>by rw[I8 q1,Fs hl]⟩

theorem Uy {T:Tr} (h:okT T=true):Cz 7 T []=GZ 7 T:=by
 have h1:=IL (Gp h)
 have h2:=Li (ab:=[]) (Gp h) (fun x hx=>by simp at hx)
 exact Np h2.1.1 h1.1.1 fun k=>by rw[h2.2.2 k,h1.2.2 k];rfl

def Wk (l:PL) (lo hi:Int):PL:=l.filter fun p=>decide (lo<=p.1/\p.1<hi)
end
section
open Go.RowKit

theorem Ux (x:Int):max (-1000000000) (min 1000000000 x)=A0 x:=by
 unfold A0;split<;>(try split)<;>omega
theorem Hf (a b:Int) (w:World) (ha0: -1000000000<=a) (ha1:a<=1000000000) (hb0: -1000000000<=b) (hb1:b<=1000000000) :
  Calls Tryz.prog 106 #[.int .i64 a, .int .i64 b] w fun e w' =>e= .returned (.int .i64 (A0 (a+b)))/\w' =w:=by
 have E:Hid (max (-1000000000) (min 1000000000 (a+b))=A0 (a+b)):=Ux _
 go_enter Tryz.func106,Tryz.ntmps106
 go_wp2;go_ret;exact⟨Bg E.out,rfl⟩

def Cj (m:Int × Int × Int):Value:=
 if m.1=1 then .iface 142 (.agg #[.int .i64 m.2.1, .int .i64 m.2.2]) else if m.1=2 then .iface 144 (.agg #[.int .i64 m.2.1]) else if m.1=3 then .iface 146 (.agg #[.int .i64 m.2.1, .int .i64 m.2.2]) else .iface 149 (.agg #[.int .i64 m.2.1])
theorem Ip (m:Int × Int × Int):∃t x,Cj m= .iface t x:=by unfold Cj;split<;>(try split)<;>(try split)<;>exact⟨_,_,rfl⟩
theorem UF (m:Int × Int × Int):(Cj m).oneCell' =true:=by
 obtain⟨t,x,h⟩:=Ip m;rw[h];rfl

theorem Om (o k v:Int) (w:World) :
  Calls Tryz.prog 103 #[.agg #[.int .i64 o, .int .i64 k, .int .i64 v]] w fun e w' =>e= .returned (Cj (o,k,v))/\Below w.heap.size w w' :=by
 rcases(show o=1∨o=2∨o=3∨(o≠1/\o≠2/\o≠3) from by omega) with rfl|rfl|rfl|⟨h1,h2,h3⟩
 ·have E:Hid (Cj (1,k,v)= .iface 142 (.agg #[.int .i64 k, .int .i64 v])):=rfl
  go_enter Tryz.func103,Tryz.ntmps103
  go_wp2;go_ret;exact⟨by rw[E.out];rfl,(Below.refl _ _).alloc (Nat.le_refl _) _⟩
 ·have E:Hid (Cj (2,k,v)= .iface 144 (.agg #[.int .i64 k])):=rfl
  go_enter Tryz.func103,Tryz.ntmps103
  go_wp2;go_ret;exact⟨by rw[E.out];rfl,(Below.refl _ _).alloc (Nat.le_refl _) _⟩
 ·have E:Hid (Cj (3,k,v)= .iface 146 (.agg #[.int .i64 k, .int .i64 v])):=rfl
  go_enter Tryz.func103,Tryz.ntmps103
  go_wp2;go_ret;exact⟨by rw[E.out];rfl,(Below.refl _ _).alloc (Nat.le_refl _) _⟩
 ·have E:Hid (Cj (o,k,v)= .iface 149 (.agg #[.int .i64 k])):=by show Cj _=_;simp[Cj,h1,h2,h3]
  have q1:(o==1)=false:=by simpa using h1
  have q2:(o==2)=false:=by simpa using h2
  have q3:(o==3)=false:=by simpa using h3
  clear h1 h2 h3;go_enter Tryz.func103,Tryz.ntmps103
  go_wp2;go_ret;exact⟨by rw[E.out];rfl,(Below.refl _ _).alloc (Nat.le_refl _) _⟩

theorem LX (k v:Int) (w:World):(Instr.typeAssert (.iface 142 (.agg #[.int .i64 k, .int .i64 v])) 107 142 true).run Tryz.prog w= .ok (.tuple #[.agg #[.int .i64 k, .int .i64 v], .bool true]) w:=by kernel_rfl
theorem Si (k v:Int) (w:World):(Instr.typeAssert (.iface 142 (.agg #[.int .i64 k, .int .i64 v])) 107 144 true).run Tryz.prog w= .ok (.tuple #[.agg #[.int .i64 0], .bool false]) w:=by kernel_rfl
theorem Tp (k v:Int) (w:World):(Instr.typeAssert (.iface 142 (.agg #[.int .i64 k, .int .i64 v])) 107 149 true).run Tryz.prog w= .ok (.tuple #[.agg #[.int .i64 0], .bool false]) w:=by kernel_rfl
theorem Jt (k:Int) (w:World):(Instr.typeAssert (.iface 144 (.agg #[.int .i64 k])) 107 142 true).run Tryz.prog w= .ok (.tuple #[.agg #[.int .i64 0, .int .i64 0], .bool false]) w:=by kernel_rfl
theorem Mb (k:Int) (w:World):(Instr.typeAssert (.iface 144 (.agg #[.int .i64 k])) 107 144 true).run Tryz.prog w= .ok (.tuple #[.agg #[.int .i64 k], .bool true]) w:=by kernel_rfl
theorem QZ (k:Int) (w:World):(Instr.typeAssert (.iface 144 (.agg #[.int .i64 k])) 107 146 true).run Tryz.prog w= .ok (.tuple #[.agg #[.int .i64 0, .int .i64 0], .bool false]) w:=by kernel_rfl
theorem Q1 (k:Int) (w:World):(Instr.typeAssert (.iface 144 (.agg #[.int .i64 k])) 107 149 true).run Tryz.prog w= .ok (.tuple #[.agg #[.int .i64 0], .bool false]) w:=by kernel_rfl
theorem Js (k v:Int) (w:World):(Instr.typeAssert (.iface 146 (.agg #[.int .i64 k, .int .i64 v])) 107 142 true).run Tryz.prog w= .ok (.tuple #[.agg #[.int .i64 0, .int .i64 0], .bool false]) w:=by kernel_rfl
theorem LF (k v:Int) (w:World):(Instr.typeAssert (.iface 146 (.agg #[.int .i64 k, .int .i64 v])) 107 144 true).run Tryz.prog w= .ok (.tuple #[.agg #[.int .i64 0], .bool false]) w:=by kernel_rfl
theorem Lz (k v:Int) (w:World):(Instr.typeAssert (.iface 146 (.agg #[.int .i64 k, .int .i64 v])) 107 146 true).run Tryz.prog w= .ok (.tuple #[.agg #[.int .i64 k, .int .i64 v], .bool true]) w:=by kernel_rfl
theorem Q3 (k v:Int) (w:World):(Instr.typeAssert (.iface 146 (.agg #[.int .i64 k, .int .i64 v])) 107 149 true).run Tryz.prog w= .ok (.tuple #[.agg #[.int .i64 0], .bool false]) w:=by kernel_rfl
theorem Jc (k:Int) (w:World):(Instr.typeAssert (.iface 149 (.agg #[.int .i64 k])) 107 142 true).run Tryz.prog w= .ok (.tuple #[.agg #[.int .i64 0, .int .i64 0], .bool false]) w:=by kernel_rfl
theorem Le (k:Int) (w:World):(Instr.typeAssert (.iface 149 (.agg #[.int .i64 k])) 107 144 true).run Tryz.prog w= .ok (.tuple #[.agg #[.int .i64 0], .bool false]) w:=by kernel_rfl
theorem LI (k:Int) (w:World):(Instr.typeAssert (.iface 149 (.agg #[.int .i64 k])) 107 146 true).run Tryz.prog w= .ok (.tuple #[.agg #[.int .i64 0, .int .i64 0], .bool false]) w:=by kernel_rfl
theorem Ku (k:Int) (w:World):(Instr.typeAssert (.iface 149 (.agg #[.int .i64 k])) 107 149 true).run Tryz.prog w= .ok (.tuple #[.agg #[.int .i64 k], .bool true]) w:=by kernel_rfl

theorem Tryz.info107:(Tryz.prog.info? 107).map (fun i=>(i.zero,i.size,i.bytes))=some (some .nilIface,1,16):=by kernel_rfl

def okM (m:Int × Int × Int):Bool:=AJ m.1 m.2.1 m.2.2
def BG (ms:ML):ML:=ms.filter okM
theorem Tj (ms:ML) (k:Nat) (h:k<ms.length):BG (ms.take (k+1))=if AJ (mO ms k) (mK ms k) (mV ms k)=true then BG (ms.take k)++[(mO ms k,mK ms k,mV ms k)] else BG (ms.take k):=by
 rw[DA ms k h,BG,List.filter_append]
 by_cases hm:AJ (mO ms k) (mK ms k) (mV ms k)=true
 ·simp[hm,BG,okM]
 ·simp[hm,BG,okM]
theorem G5 (ms:ML):(BG ms).length<=ms.length:=List.length_filter_le _ _

theorem H4 (vm:Value) (ms:ML) (w:World) (hm:Row w vm ms.length (Af ms)) (hn:ms.length<=2097152) :
  Calls Tryz.prog 68 #[vm] w fun e w' =>∃v',e= .returned v' ∧w'.ownsRow w.heap.size 107 1 v' (BG ms).length ((BG ms).map Cj)/\Below w.heap.size w w' :=by
 obtain⟨i0,hi,hz0,hz1,hz2⟩:=info_parts Tryz.info107
 obtain⟨a,b,off,cap,rfl,hcap,hmax,ha,ho,hk,hv⟩:=hm.msgs
 unfold maxLen at hmax;go_enter Tryz.func68,Tryz.ntmps68
 go_wp2;go_loopw [3,8] (fun out i wr=>∃k:Nat,k<=ms.length/\i= .int .i64 k/\wr.ownsRow w.heap.size 107 1 out (BG (ms.take k)).length ((BG (ms.take k)).map Cj)/\Below w.heap.size w wr)
  (fun _ i _=>ms.length-(intOf i).toNat)
 case atStart=>exact⟨0,Nat.zero_le _,rfl,World.ownsRow_nil _ _ _ _,Below.refl _ _⟩
 case round=>
  obtain⟨k,hkl,rfl,hown,hb⟩:=hrel
  by_cases hlt:k<ms.length
  ·have hal:=ha (by omega)
   subst hal;have d0:=(hb.cell (by exact Aa (ho k hlt))).trans (ho k hlt)
   have d1:=(hb.cell (by exact Aa (hk k hlt))).trans (hk k hlt)
   have d2:=(hb.cell (by exact Aa (hv k hlt))).trans (hv k hlt)
   have hds:=Tj ms k hlt
   have hal:=G5 (ms.take k)
   have htl:(ms.take k).length<=k:=List.length_take_le _ _
   generalize BG (ms.take k)=A at *
   have ba:Below w.heap.size w (wr.alloc (.cells #[.int .i64 (mO ms k), .int .i64 (mK ms k), .int .i64 (mV ms k)] 35)):=hb.alloc hb.size _
   have OW:Hid (wr.ownsRow w.heap.size 107 1 u3 A.length (A.map Cj)):=hown
   clear ho hk hv hown hm
   cases hq:AJ (mO ms k) (mK ms k) (mV ms k)
   ·have DS:Hid _:=hds.trans (if_neg (by rw[hq];decide))
    clear hds;go_wp2_with fail;refine(CQ _ _ _ _).mono ?_
    rw[hq]
    rintro e w1 ⟨rfl,b1⟩
    have B1:=ba.trans (b1.mono ba.size)
    have OW1:=AF (OW.out.alloc (.cells #[.int .i64 (mO ms k), .int .i64 (mK ms k), .int .i64 (mV ms k)] 35)) b1
    clear b1 ba hq;go_wp2;go_roundw
    case rel=>exact⟨k+1,by omega,by go_num,by rw[DS.out];exact OW1,B1⟩
    case measure=>simp[intOf];omega
   ·have DS:Hid _:=hds.trans (if_pos hq)
    clear hds;go_wp2_with fail;refine(CQ _ _ _ _).mono ?_
    rw[hq]
    rintro e w1 ⟨rfl,b1⟩
    have B1:=ba.trans (b1.mono ba.size)
    have OW1:=AF (OW.out.alloc (.cells #[.int .i64 (mO ms k), .int .i64 (mK ms k), .int .i64 (mV ms k)] 35)) b1
    obtain⟨hc,_⟩:=Pq b1
    have b1' :Hid _:=b1
    have OW1' :Hid (w1.ownsRow w.heap.size 107 1 u3 A.length (A.map Cj)):=OW1
    clear b1 ba hq OW1 OW;go_wp2_with fail;refine(Om _ _ _ _).mono ?_
    rintro e w2 ⟨rfl,b2⟩
    have B2:=B1.trans (b2.mono B1.size)
    have B2s:=B2.size
    have OW2:=AF OW1'.out b2
    obtain⟨t,x,hx⟩:=Ip (mO ms k,mK ms k,mV ms k)
    have HX:Hid _:=hx
    have HE:Hid _:=UF (mO ms k,mK ms k,mV ms k)
    rw[hx]
    clear hx hc b1' OW1' b2 B1;have HR:Hid _:=Bb (n:=A.length) (bytes:=16) (by omega) (by decide)
    have H1:Hid (∀u∈[Value.iface t x],u.oneCell' =true):=fun u hu=>by simp at hu;subst hu;rfl
    go_wp2_with (at_builtin;refine Bm w2 rfl _ _ 104 rfl w.heap.size 107 i0 _ 1 16 Tryz.underlying104 hi hz0 hz1 hz2 rfl (by decide) u3 _ _ rfl OW2 [.iface t x] rfl rfl H1.out HR.out.1 HR.out.2 B2s ?_)
    intro v3 w3 ho3 _ hb3;have B3:=B2.trans hb3
    clear OW2 hb3 B2;go_wp2;go_roundw
    case rel=>exact⟨k+1,by omega,by go_num,by rw[DS.out,List.length_append,List.map_append,List.map_cons,HX.out];exact ho3,B3⟩
    case measure=>simp[intOf];omega
  ·go_wp2;go_ret;have hkk:k=ms.length:=by omega
   subst hkk;rw[List.take_of_length_le (Nat.le_refl _)] at hown
   exact⟨_,rfl,hown,hb⟩
end
section
def Gf (m:Int × Int × Int):Bool:=(m.1==1)||(m.1==2)
def Gv (l:ML) (k:Int):Bool:=l.any fun m=>(m.2.1==k)&&Gf m
def D0 (l:ML) (k:Int):Bool:=l.any fun m=>okM m&&((m.2.1==k)&&Gf m)
def Do:ML->ML
 |[]=>[]
 |m::l=>if okM m=true/\m.1≠4/\D0 l m.2.1=false then m::Do l else Do l
def AQ:ML->Int->Int
 |[],_=> -1
 |m::l,k=>if m.2.1=k then 0 else if AQ l k<0 then -1 else AQ l k+1
def CD (A:ML) (m:Int × Int × Int):Bool:=decide (0<=AQ A m.2.1)&&((mO A (AQ A m.2.1).toNat==1)&&(m.1==3))
def BD (A:ML) (m:Int × Int × Int):ML:=
 if CD A m=true then A.set (AQ A m.2.1).toNat (mO A (AQ A m.2.1).toNat,mK A (AQ A m.2.1).toNat,A0 (mV A (AQ A m.2.1).toNat+m.2.2)) else A++[m]
def At (ms:ML):ML:=(Do ms).foldl BD []

theorem Di (A:ML) (k:Int):(AQ A k= -1/\∀m∈A,m.2.1≠k)∨∃n,AQ A k=(n:Nat)/\n<A.length/\mK A n=k/\∀j,j<n->mK A j≠k:=by
 induction A with
 |nil=>left;exact⟨rfl,fun m hm=>by simp at hm⟩
 |cons m l ih=>
  rw[AQ]
  by_cases h:m.2.1=k
  ·rw[if_pos h];right;exact⟨0,rfl,by simp,by simp[mK,h],fun j hj=>by omega⟩
  ·rw[if_neg h]
   rcases ih with⟨h1,h2⟩|⟨n,h1,h2,h3,h4⟩
   ·left
    rw[h1]
    exact⟨by simp,fun q hq=>by rcases List.mem_cons.1 hq with rfl|hq;exact h;exact h2 q hq⟩
   ·right
    rw[h1,if_neg (by omega)]
    refine⟨n+1,by simp,by simp;omega,by simpa[mK] using h3,fun j hj=> ?_⟩
    cases j with
    |zero=>simpa[mK] using h
    |succ j=>have:=h4 j (by omega);simpa[mK] using this
theorem FJ (A:ML) (k:Int):AQ A k<A.length:=by
 rcases Di A k with⟨h,_⟩|⟨n,h,h2,_⟩<;>omega
theorem Tm (A:ML) (k:Int): -1<=AQ A k:=by
 rcases Di A k with⟨h,_⟩|⟨n,h,h2,_⟩<;>omega
theorem Sh {A:ML} {k:Int} {n:Nat} (h1:n<A.length) (h2:mK A n=k) (h3:∀j,j<n->mK A j≠k):AQ A k=n:=by
 rcases Di A k with⟨_,h⟩|⟨n',h,h4,h5,h6⟩
 ·exact absurd h2 (by have:=h A[n] (List.getElem_mem h1);rw[D7 A n h1] at this;exact this)
 ·rw[h]
  by_cases hlt:n' < n
  ·exact absurd h5 (h3 n' hlt)
  ·by_cases hgt:n<n'
   ·exact absurd h2 (h6 n hgt)
   ·omega
theorem JT {A:ML} {k:Int} (h:∀m∈A,m.2.1≠k):AQ A k= -1:=by
 rcases Di A k with⟨h,_⟩|⟨n,h1,h2,h3,_⟩
 ·exact h
 ·exact absurd h3 (by have:=h A[n] (List.getElem_mem h2);rw[D7 A n h2] at this;exact this)

def wgF (l:ML):ML:=l.filter fun m=>m.1 != 4
def woF:ML->ML
 |[]=>[]
 |m::l=>if Gv l m.2.1=true then woF l else m::woF l
def Dp (s:ML × PL) (m:Int × Int × Int):ML × PL:=
 if m.1=1 then (s.1++[m],BH s.2 m.2.1 s.1.length)
 else if m.1=3/\(Aw s.2 m.2.1).2=true then (s.1.set (Aw s.2 m.2.1).1.toNat (1,m.2.1,A0 (mV s.1 (Aw s.2 m.2.1).1.toNat+m.2.2)),s.2)
 else (s.1++[m],s.2)
def JU (l:ML):ML:=(l.foldl Dp ([],[])).1

theorem Vy (l:ML) (k:Int):Gv (wgF (BG l)) k=D0 l k:=by
 induction l with
 |nil=>rfl
 |cons m l ih=>
  rw[D0,List.any_cons, ← D0, ← ih]
  by_cases h1:okM m=true
  ·by_cases h2:m.1=4
   ·rw[BG,List.filter_cons_of_pos h1,wgF,List.filter_cons_of_neg (by simp[h2])]
    simp[Gf,h2,wgF,BG]
   ·rw[BG,List.filter_cons_of_pos h1,wgF,List.filter_cons_of_pos (by simp[h2]),Gv,List.any_cons]
    simp[h1,wgF,BG,Gv]
  ·rw[BG,List.filter_cons_of_neg h1]
   simp[h1,wgF,BG]
theorem Vs (ms:ML):woF (wgF (BG ms))=Do ms:=by
 induction ms with
 |nil=>rfl
 |cons m l ih=>
  have ho:=Vy l m.2.1
  rw[Do]
  by_cases h1:okM m=true
  ·by_cases h2:m.1=4
   ·rw[if_neg (by simp[h2]),BG,List.filter_cons_of_pos h1,wgF,List.filter_cons_of_neg (by simp[h2])]
    exact ih
   ·rw[BG,List.filter_cons_of_pos h1,wgF,List.filter_cons_of_pos (by simp[h2]),woF]
    have ho' :Gv (List.filter (fun m=>m.1 != 4) (List.filter okM l)) m.2.1=D0 l m.2.1:=ho
    have ih' :woF (List.filter (fun m=>m.1 != 4) (List.filter okM l))=Do l:=ih
    rw[ho',ih']
    cases hb:D0 l m.2.1
    ·rw[if_neg (by decide),if_pos ⟨h1,h2,rfl⟩]
    ·rw[if_pos rfl,if_neg (by simp)]
  ·rw[if_neg (by simp[h1]),BG,List.filter_cons_of_neg h1]
   exact ih

theorem IC (l:ML):∀m∈Do l,m∈l/\okM m=true/\m.1≠4:=by
 induction l with
 |nil=>intro m hm;simp[Do] at hm
 |cons p l ih=>
  intro m hm;rw[Do] at hm
  split at hm
  ·rename_i h
   rcases List.mem_cons.1 hm with rfl|hm
   ·exact⟨by simp,h.1,h.2.1⟩
   ·have:=ih m hm;exact⟨by simp[this.1],this.2⟩
  ·have:=ih m hm;exact⟨by simp[this.1],this.2⟩
def UU (l:ML):Prop:=l.Pairwise fun a b=>a.2.1=b.2.1->Gf b=false
theorem LU (l:ML):UU (Do l):=by
 induction l with
 |nil=>exact List.Pairwise.nil
 |cons p l ih=>
  rw[Do]
  split
  ·rename_i h
   refine List.pairwise_cons.2 ⟨fun b hb he=> ?_,ih⟩
   obtain⟨hb1,hb2,_⟩:=IC l b hb
   have h2:=h.2.2
   rw[D0,List.any_eq_false] at h2
   have:=h2 b hb1
   simpa[hb2,he] using this
  ·exact ih

structure Wp (A:ML) (P:PL):Prop where
 asc:Asc P
 has:∀k,(Aw P k).2=true->∃n:Nat,(Aw P k).1=n/\AQ A k=n/\n<A.length/\mO A n=1
 hasnt:∀k,(Aw P k).2=false->0<=AQ A k->mO A (AQ A k).toNat≠1

theorem Eb (A:ML) (m:Int × Int × Int) (k:Int):AQ (A++[m]) k=if 0<=AQ A k then AQ A k else if m.2.1=k then (A.length:Int) else -1:=by
 induction A with
 |nil=>by_cases h:m.2.1=k<;>simp[AQ,h]
 |cons p l ih=>
  have hl:=FJ l k
  have hg:=Tm l k
  rw[List.cons_append,AQ,AQ,ih]
  by_cases h:p.2.1=k
  ·simp[h]
  ·rw[if_neg h,if_neg h]
   simp only[List.length_cons]
   generalize AQ l k=x at *
   by_cases hm:m.2.1=k
   ·simp only[hm,if_true];(repeat' split)<;>omega
   ·simp only[hm,if_false];(repeat' split)<;>omega
theorem DB {A:ML} {m:Int × Int × Int} {n:Nat} (h:n<A.length):mO (A++[m]) n=mO A n:=by simp[mO,List.getD,List.getElem?_append_left h]
theorem GU {A:ML} {m:Int × Int × Int}:mO (A++[m]) A.length=m.1:=by simp[mO,List.getD]
theorem Q0 {A:ML} {n:Nat} {x:Int × Int × Int} (hx:n<A.length->x.2.1=mK A n) (k:Int):AQ (A.set n x) k=AQ A k:=by
 induction A generalizing n with
 |nil=>simp
 |cons p l ih=>
  cases n with
  |zero=>
   rw[List.set_cons_zero,AQ,AQ,hx (by simp)]
   simp[mK]
  |succ n=>
   rw[List.set_cons_succ,AQ,AQ,ih (fun h=>by have:=hx (by simpa using h);simpa[mK] using this)]

theorem SX {A:ML} {P:PL} (h:Wp A P) (m:Int × Int × Int) (hr:Gf m=true->∀a∈A,a.2.1≠m.2.1) :
  (Dp (A,P) m).1=BD A m/\Wp (Dp (A,P) m).1 (Dp (A,P) m).2:=by
 by_cases h1:m.1=1
 ·have hn:=JT (hr (by simp[Gf,h1]))
  have e1:Dp (A,P) m=(A++[m],BH P m.2.1 A.length):=by simp[Dp,h1]
  have e2:BD A m=A++[m]:=by rw[BD,if_neg (by simp[CD,hn])]
  rw[e1,e2]
  refine⟨rfl,L7 h.asc _ _,fun k hk=> ?_,fun k hk h0=> ?_⟩
  ·by_cases hkm:k=m.2.1
   ·subst hkm;rw[Dd h.asc]
    refine⟨A.length,rfl, ?_,by simp,by rw[GU];exact h1⟩
    show AQ (A++[m]) m.2.1=_
    rw[Eb,hn];simp
   ·have hk' :(Aw P k).2=true:=by rw[←Ch h.asc (v:=A.length) hkm];exact hk
    obtain⟨n,g1,g2,g3,g4⟩:=h.has k hk'
    refine⟨n,by rw[Ch h.asc hkm];exact g1, ?_,by simp;omega,by show mO (A++[m]) n=1;rw[DB g3];exact g4⟩
    show AQ (A++[m]) k=_
    rw[Eb,g2,if_pos (by omega)]
  ·by_cases hkm:k=m.2.1
   ·subst hkm;rw[Dd h.asc] at hk;cases hk
   ·have hk' :(Aw P k).2=false:=by rw[←Ch h.asc (v:=A.length) hkm];exact hk
    have h0' :0<=AQ (A++[m]) k:=h0
    show mO (A++[m]) (AQ (A++[m]) k).toNat≠1
    rw[Eb] at h0' ⊢
    have hl:=FJ A k
    by_cases hp:0<=AQ A k
    ·rw[if_pos hp,DB (by omega)]
     exact h.hasnt k hk' hp
    ·rw[if_neg hp,if_neg (fun e=>hkm e.symm)] at h0'
     omega
 ·by_cases h3:m.1=3/\(Aw P m.2.1).2=true
  ·obtain⟨n,g1,g2,g3,g4⟩:=h.has _ h3.2
   have hk:mK A n=m.2.1:=by
    rcases Di A m.2.1 with⟨q,_⟩|⟨n',q,_,q3,_⟩
    ·omega
    ·have:n=n' :=by omega
     subst this;exact q3
   have e1:Dp (A,P) m=(A.set n (1,m.2.1,A0 (mV A n+m.2.2)),P):=by simp[Dp,h3.1,h3.2,g1]
   have e2:BD A m=A.set n (1,m.2.1,A0 (mV A n+m.2.2)):=by
    rw[BD,if_pos (by simp[CD,g2,g4,h3.1])]
    simp[g2,g4,hk]
   rw[e1,e2]
   have hf:∀k,AQ (A.set n (1,m.2.1,A0 (mV A n+m.2.2))) k=AQ A k:=fun k=>Q0 (x:=(1,m.2.1,A0 (mV A n+m.2.2))) (fun _=>hk.symm) k
   have ho:∀j,mO (A.set n (1,m.2.1,A0 (mV A n+m.2.2))) j=mO A j:=by
    intro j;by_cases hj:j=n
    ·subst hj;rw[g4];simp[mO,List.getD,g3]
    ·simp[mO,List.getD,List.getElem?_set_ne (fun e=>hj e.symm)]
   refine⟨rfl,h.asc,fun k hk=> ?_,fun k hk h0=> ?_⟩
   ·obtain⟨n',q1,q2,q3,q4⟩:=h.has k hk
    exact⟨n',q1,by rw[hf];exact q2,by simpa using q3,by rw[ho];exact q4⟩
   ·rw[hf] at h0 ⊢
    rw[ho]
    exact h.hasnt k hk h0
  ·have e1:Dp (A,P) m=(A++[m],P):=by simp[Dp,h1,h3]
   have hj:CD A m=false:=by
    rw[Bool.eq_false_iff]
    intro hj;simp only[CD,Bool.and_eq_true,decide_eq_true_eq,beq_iff_eq] at hj
    obtain⟨j1,j2,j3⟩:=hj
    cases hp:(Aw P m.2.1).2
    ·exact h.hasnt _ hp j1 j2
    ·exact h3 ⟨j3,hp⟩
   have e2:BD A m=A++[m]:=by rw[BD,hj];rfl
   rw[e1,e2]
   refine⟨rfl,h.asc,fun k hk=> ?_,fun k hk h0=> ?_⟩
   ·obtain⟨n,g1,g2,g3,g4⟩:=h.has k hk
    refine⟨n,g1, ?_,by simp;omega,by show mO (A++[m]) n=1;rw[DB g3];exact g4⟩
    show AQ (A++[m]) k=_
    rw[Eb,g2,if_pos (by omega)]
   ·have h0' :0<=AQ (A++[m]) k:=h0
    show mO (A++[m]) (AQ (A++[m]) k).toNat≠1
    rw[Eb] at h0' ⊢
    have hl:=FJ A k
    by_cases hp:0<=AQ A k
    ·rw[if_pos hp,DB (by omega)]
     exact h.hasnt k hk hp
    ·rw[if_neg hp] at h0' ⊢
     by_cases hm:m.2.1=k
     ·rw[if_pos hm,Int.toNat_natCast,GU];exact h1
     ·rw[if_neg hm] at h0';omega

theorem Jn (A:ML) (m:Int × Int × Int) (k:Int) (hA:∀a∈A,a.2.1≠k) (hm:m.2.1≠k):∀a∈BD A m,a.2.1≠k:=by
 unfold BD;split
 ·rename_i hj
  intro a ha;rcases List.mem_or_eq_of_mem_set ha with h|h
  ·exact hA a h
  ·subst h;have hl:=FJ A m.2.1
   simp only[CD,Bool.and_eq_true,decide_eq_true_eq] at hj
   have hi:(AQ A m.2.1).toNat<A.length:=by omega
   have:=hA A[(AQ A m.2.1).toNat] (List.getElem_mem hi)
   rw[D7 A _ hi] at this
   exact this
 ·intro a ha;rcases List.mem_append.1 ha with h|h
  ·exact hA a h
  ·simp at h;subst h;exact hm

theorem Ua (l:ML) (hl:UU l) (A:ML) (P:PL) (h:Wp A P) (hA:∀m∈l,Gf m=true->∀a∈A,a.2.1≠m.2.1):(l.foldl Dp (A,P)).1=l.foldl BD A:=by
 induction l generalizing A P with
 |nil=>rfl
 |cons m l ih=>
  obtain⟨hl1,hl2⟩:=List.pairwise_cons.1 hl
  obtain⟨e,hs⟩:=SX h m (hA m (by simp))
  rw[List.foldl_cons,List.foldl_cons, ← e]
  refine ih hl2 (Dp (A,P) m).1 (Dp (A,P) m).2 hs (fun q hq hr=> ?_)
  rw[e]
  refine Jn A m q.2.1 (hA q (by simp[hq]) hr) (fun he=> ?_)
  have:=hl1 q hq he
  rw[hr] at this;cases this

theorem Ti (ms:ML):JU (woF (wgF (BG ms)))=At ms:=by
 rw[Vs,JU,At]
 refine Ua _ (LU ms) [] [] ⟨List.Pairwise.nil,fun k hk=>by simp[Aw] at hk,fun k _ h0=>by simp[AQ] at h0⟩ (fun m _ _ a ha=>by simp at ha)

def okN (m:Int × Int × Int):Prop:=okM m=true/\m.1≠4
theorem R9 (k v:Int) (hk:0<=k/\k<=999) (hv: -1000000000<=v/\v<=1000000000):okM (1,k,v)=true:=by
 show AJ 1 k v=true
 simp[AJ,inB,hk,hv]
theorem QE {A:ML} {n:Nat} (h:n<A.length):(mO A n,mK A n,mV A n)∈A:=by rw[←D7 A n h];exact List.getElem_mem h
theorem Ql {A:ML} (hA:∀a∈A,okN a) {m:Int × Int × Int} (hm:okN m):∀a∈BD A m,okN a:=by
 unfold BD;split
 ·rename_i hj
  intro a ha;rcases List.mem_or_eq_of_mem_set ha with h|h
  ·exact hA a h
  ·subst h;have hl:=FJ A m.2.1
   simp only[CD,Bool.and_eq_true,decide_eq_true_eq,beq_iff_eq] at hj
   have hi:(AQ A m.2.1).toNat<A.length:=by omega
   have h1:=hA _ (QE hi)
   rw[hj.2.1] at h1 ⊢
   exact⟨R9 _ _ (Cw h1.1).2.1 (Jw _),by simp⟩
 ·intro a ha;rcases List.mem_append.1 ha with h|h
  ·exact hA a h
  ·simp at h;subst h;exact hm
theorem Ol (A:ML) (m:Int × Int × Int):(BD A m).length<=A.length+1:=by
 unfold BD;split<;>simp
theorem Uk (l:ML) (hl:∀m∈l,okN m) (A:ML) (hA:∀a∈A,okN a):∀a∈l.foldl BD A,okN a:=by
 induction l generalizing A with
 |nil=>exact hA
 |cons m l ih=>exact ih (fun q hq=>hl q (by simp[hq])) _ (Ql hA (hl m (by simp)))
theorem NI (l:ML) (A:ML):(l.foldl BD A).length<=A.length+l.length:=by
 induction l generalizing A with
 |nil=>simp
 |cons m l ih=>
  have h1:=ih (BD A m)
  have h2:=Ol A m
  rw[List.foldl_cons];simp only[List.length_cons];omega
theorem Qb (l:ML):(Do l).length<=l.length:=by
 induction l with
 |nil=>simp[Do]
 |cons m l ih=>rw[Do];split<;>simp<;>omega
theorem LH (ms:ML):∀a∈At ms,okN a:=Uk _ (fun m hm=>(IC ms m hm).2) [] (fun a ha=>by simp at ha)
theorem FQ (ms:ML):(At ms).length<=ms.length:=by
 have h1:=NI (Do ms) []
 have h2:=Qb ms
 unfold At;simp at h1;omega
end
end Go.Proofs.YtadmomgdacfgpaaGreat
