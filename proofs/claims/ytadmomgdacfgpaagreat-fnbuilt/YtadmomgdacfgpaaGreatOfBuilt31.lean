/-
  What shrunk messages do, key by key; plain mathematics.
  Trees side by side: each is right in its place, and tells of each key of its place what it should; plain mathematics.
  Leaves, parents and what is given down, as trees side by side; plain mathematics.
-/
import Derived.Test.YtadmomgdacfgpaaGreatOfBuilt16
namespace Go.Proofs.YtadmomgdacfgpaaGreat
set_option maxRecDepth 100000
set_option maxHeartbeats 8000000
section
def Fc (k:Int) (s:Int × Bool) (m:Int × Int × Int):Int × Bool:=
 if m.2.1=k then (if m.1=1 then (m.2.2,true) else if m.1=2 then (0,false) else if m.1=3 then (Bj (s.1+m.2.2),true) else s) else s
theorem Fi {k:Int} {s:Int × Bool} {m:Int × Int × Int} (h:m.2.1≠k):Fc k s m=s:=by rw[Fc,if_neg h]
theorem Hg {k:Int} (l:ML) (h:∀m∈l,m.2.1≠k) (s:Int × Bool):l.foldl (Fc k) s=s:=by
 induction l generalizing s with
 |nil=>rfl
 |cons m l ih=>rw[List.foldl_cons,Fi (h m (by simp))];exact ih (fun q hq=>h q (by simp[hq])) s
theorem Pb {k:Int} (l:ML) (h:El l k=true) (s s' :Int × Bool):(BP l).foldl (Fc k) s=(BP l).foldl (Fc k) s' :=by
 induction l generalizing s s' with
 |nil=>simp[El] at h
 |cons m l ih=>
  rw[El,List.any_cons, ← El,Bool.or_eq_true] at h
  by_cases h1:okM m=true
  ·rw[BP,List.filter_cons_of_pos h1,List.foldl_cons,List.foldl_cons]
   rcases h with h|h
   ·simp only[h1,Bool.true_and,Bool.and_eq_true,beq_iff_eq,Gx,Bool.or_eq_true] at h
    have e:Fc k s m=Fc k s' m:=by
     unfold Fc;rw[if_pos h.1,if_pos h.1]
     rcases h.2 with h2|h2
     ·rw[if_pos h2,if_pos h2]
     ·have h3:m.1≠1:=by omega
      rw[if_neg h3,if_neg h3,if_pos h2,if_pos h2]
    rw[e]
   ·exact ih h _ _
  ·rw[BP,List.filter_cons_of_neg h1]
   rcases h with h|h
   ·simp[h1] at h
   ·exact ih h _ _
theorem VM (k:Int) (l:ML) (s:Int × Bool):(DF l).foldl (Fc k) s=(BP l).foldl (Fc k) s:=by
 induction l generalizing s with
 |nil=>rfl
 |cons m l ih=>
  rw[DF]
  by_cases h1:okM m=true
  ·have e:BP (m::l)=m::BP l:=by rw[BP,List.filter_cons_of_pos h1];rfl
   rw[e,List.foldl_cons]
   by_cases h2:m.1=4
   ·rw[if_neg (by simp[h2]),ih]
    have:Fc k s m=s:=by simp[Fc,h2]
    rw[this]
   ·cases hb:El l m.2.1
    ·rw[if_pos ⟨h1,h2,rfl⟩,List.foldl_cons,ih]
    ·rw[if_neg (by simp),ih]
     by_cases hk:m.2.1=k
     ·subst hk;exact Pb l hb _ _
     ·rw[Fi hk]
  ·have e:BP (m::l)=BP l:=by rw[BP,List.filter_cons_of_neg h1];rfl
   rw[if_neg (by simp[h1]),e,ih]

def Iq (A:ML):Prop:=A.Pairwise fun a b=>a.2.1=b.2.1->a.1≠1/\Gx b=false
theorem Mj {A:ML} {m:Int × Int × Int} (h:CQ A m=true):m.1=3/\∃n,AV A m.2.1=(n:Nat)/\n<A.length/\mK A n=m.2.1/\mO A n=1:=by
 simp only[CQ,Bool.and_eq_true,decide_eq_true_eq,beq_iff_eq] at h
 obtain⟨h0,h1,h3⟩:=h
 refine⟨h3, ?_⟩
 rcases Du A m.2.1 with⟨q,_⟩|⟨n,q1,q2,q3,q4⟩
 ·omega
 ·exact⟨n,q1,q2,q3,by rw[q1] at h1;simpa using h1⟩
theorem Iq.parts {X Y:ML} {p:Int × Int × Int} (h:Iq (X++p::Y)):Iq X/\(∀b∈Y,p.2.1=b.2.1->p.1≠1/\Gx b=false)/\Iq Y/\(∀a∈X,(a.2.1=p.2.1->a.1≠1/\Gx p=false)/\∀b∈Y,a.2.1=b.2.1->a.1≠1/\Gx b=false):=by
 obtain⟨h1,h2,h3⟩:=List.pairwise_append.1 h
 obtain⟨h4,h5⟩:=List.pairwise_cons.1 h2
 exact⟨h1,h4,h5,fun a ha=>⟨h3 a ha p (by simp),fun b hb=>h3 a ha b (by simp[hb])⟩⟩
theorem Iq.mk {X Y:ML} {p:Int × Int × Int} (h1:Iq X) (h4:∀b∈Y,p.2.1=b.2.1->p.1≠1/\Gx b=false) (h5:Iq Y) (h3:∀a∈X,(a.2.1=p.2.1->a.1≠1/\Gx p=false)/\∀b∈Y,a.2.1=b.2.1->a.1≠1/\Gx b=false):Iq (X++p::Y):=by
 refine List.pairwise_append.2 ⟨h1,List.pairwise_cons.2 ⟨h4,h5⟩,fun a ha b hb=> ?_⟩
 rcases List.mem_cons.1 hb with rfl|hb
 ·exact(h3 a ha).1
 ·exact(h3 a ha).2 b hb
theorem P9 (A:ML) {n:Nat} (h:n<A.length):A=A.take n++(mO A n,mK A n,mV A n)::A.drop (n+1):=by
 have e:=List.drop_eq_getElem_cons h
 rw[Ej A n h] at e
 rw[←e,List.take_append_drop]
theorem Qe {A:ML} {m:Int × Int × Int} {n:Nat} (hj:CQ A m=true) (hf:AV A m.2.1=(n:Nat)) (hn:n<A.length) (hk:mK A n=m.2.1) (ho:mO A n=1) :
  BG A m=A.take n++(1,m.2.1,Bj (mV A n+m.2.2))::A.drop (n+1):=by
 rw[BG,if_pos hj,hf,Int.toNat_natCast,ho,hk,List.set_eq_take_append_cons_drop,if_pos hn]
theorem S9 {A:ML} (hA:Iq A) {m:Int × Int × Int} (hm:okN m) (hr:Gx m=true->∀a∈A,a.2.1≠m.2.1):Iq (BG A m):=by
 cases hj:CQ A m
 ·have e:BG A m=A++[m]:=by rw[BG,hj];rfl
  rw[e]
  refine Iq.mk hA (fun b hb=>by simp at hb) List.Pairwise.nil (fun a ha=>⟨fun he=> ?_,fun b hb=>by simp at hb⟩)
  have hnr:Gx m=false:=by
   cases hb:Gx m
   ·rfl
   ·exact absurd he (hr hb a ha)
  refine⟨fun h1=> ?_,hnr⟩
  have h3:m.1=3:=by
   have:=(C5 hm.1).1
   have h4:=hm.2
   simp only[Gx,Bool.or_eq_false_iff,beq_eq_false_iff_ne] at hnr
   have:=hnr.1;have:=hnr.2
   omega
  rcases Du A m.2.1 with⟨_,q⟩|⟨n,q1,q2,q3,q4⟩
  ·exact q a ha he
  ·have ho:mO A n≠1:=fun ho=>by
    have:CQ A m=true:=by simp[CQ,q1,ho,h3]
    rw[hj] at this;cases this
   obtain⟨i,hi,rfl⟩:=List.getElem_of_mem ha
   rw[Ej A i hi] at he h1
   simp only at he h1
   have hin:i≠n:=fun e=>by subst e;exact ho h1
   have hlt:¬i<n:=fun hlt=>q4 i hlt he
   have:=List.pairwise_iff_getElem.1 hA n i q2 hi (by omega)
   rw[Ej A n q2,Ej A i hi] at this
   have:=(this (by simp only;omega)).2
   simp[Gx,h1] at this
 ·obtain⟨h3,n,q1,q2,q3,q4⟩:=Mj hj
  rw[Qe hj q1 q2 q3 q4]
  have hs:=P9 A q2
  rw[q3,q4] at hs
  rw[hs] at hA
  obtain⟨g1,g2,g3,g4⟩:=hA.parts
  exact Iq.mk g1 g2 g3 g4
theorem Vj {A:ML} (hA:Iq A) (m:Int × Int × Int) (k:Int) (s:Int × Bool):(BG A m).foldl (Fc k) s=Fc k (A.foldl (Fc k) s) m:=by
 cases hj:CQ A m
 ·have e:BG A m=A++[m]:=by rw[BG,hj];rfl
  rw[e,List.foldl_append];rfl
 ·obtain⟨h3,n,q1,q2,q3,q4⟩:=Mj hj
  rw[Qe hj q1 q2 q3 q4]
  have hs:=P9 A q2
  rw[q3,q4] at hs
  have hA' :=hA
  rw[hs] at hA'
  obtain⟨_,g2,_,_⟩:=hA'.parts
  have hY:∀b∈A.drop (n+1),b.2.1≠m.2.1:=fun b hb he=>(g2 b hb he.symm).1 rfl
  have hA2:A.foldl (Fc k) s=(A.drop (n+1)).foldl (Fc k) (Fc k ((A.take n).foldl (Fc k) s) (1,m.2.1,mV A n)):=by
   conv=>lhs;rw[hs]
   rw[List.foldl_append,List.foldl_cons]
  rw[hA2,List.foldl_append,List.foldl_cons]
  by_cases hk:m.2.1=k
  ·subst hk;rw[Hg _ hY,Hg _ hY]
   simp[Fc,h3]
  ·rw[Fi (m:=(1,m.2.1,Bj (mV A n+m.2.2))) hk,Fi (m:=(1,m.2.1,mV A n)) hk,Fi (m:=m) hk]
theorem US (l:ML) (hl:VY l) (ho:∀m∈l,okN m) (A:ML) (h:Iq A) (hA:∀m∈l,Gx m=true->∀a∈A,a.2.1≠m.2.1) (k:Int) (s:Int × Bool) :
  Iq (l.foldl BG A)/\(l.foldl BG A).foldl (Fc k) s=l.foldl (Fc k) (A.foldl (Fc k) s):=by
 induction l generalizing A with
 |nil=>exact⟨h,rfl⟩
 |cons m l ih=>
  obtain⟨hl1,hl2⟩:=List.pairwise_cons.1 hl
  rw[List.foldl_cons,List.foldl_cons, ← Vj h]
  refine ih hl2 (fun q hq=>ho q (by simp[hq])) (BG A m) (S9 h (ho m (by simp)) (hA m (by simp))) (fun q hq hr=> ?_)
  refine JM A m q.2.1 (hA q (by simp[hq]) hr) (fun he=> ?_)
  have:=hl1 q hq he
  rw[hr] at this;cases this
theorem QE (ms:ML) (k:Int) (s:Int × Bool):Iq (At ms)/\(At ms).foldl (Fc k) s=(BP ms).foldl (Fc k) s:=by
 have:=US (DF ms) (Mt ms) (fun m hm=>(I6 ms m hm).2) [] List.Pairwise.nil (fun m _ _ a ha=>by simp at ha) k s
 rw[←VM]
 exact this
theorem P6 (ms:ML):BP (At ms)=At ms:=List.filter_eq_self.2 (fun a ha=>(Mz ms a ha).1)
theorem Ss (k:Int) (ms:ML) (s:Int × Bool):(BP ms).foldl (Fc k) s=Fr s (ofK ms k):=by
 induction ms generalizing s with
 |nil=>rfl
 |cons m ms ih=>
  by_cases hk:m.2.1=k
  ·have e2:ofK (m::ms) k=m::ofK ms k:=by simp[ofK,hk]
   rw[e2]
   show _=Fr (UG s m) (ofK ms k)
   by_cases h1:okM m=true
   ·have e:BP (m::ms)=m::BP ms:=by rw[BP,List.filter_cons_of_pos h1];rfl
    rw[e,List.foldl_cons,ih]
    congr 1
    have h1' :AO m.1 m.2.1 m.2.2=true:=h1
    unfold Fc UG;rw[if_pos hk,if_pos h1']
   ·have e:BP (m::ms)=BP ms:=by rw[BP,List.filter_cons_of_neg h1];rfl
    have h1' :¬AO m.1 m.2.1 m.2.2=true:=h1
    rw[e,ih,UG,if_neg h1']
  ·have e2:ofK (m::ms) k=ofK ms k:=by simp[ofK,hk]
   rw[e2]
   by_cases h1:okM m=true
   ·have e:BP (m::ms)=m::BP ms:=by rw[BP,List.filter_cons_of_pos h1];rfl
    rw[e,List.foldl_cons,Fi hk,ih]
   ·have e:BP (m::ms)=BP ms:=by rw[BP,List.filter_cons_of_neg h1];rfl
    rw[e,ih]
theorem Rd (k:Int) (ms:ML) (s:Int × Bool):Fr s (ofK (At ms) k)=Fr s (ofK ms k):=by
 rw[←Ss, ← Ss,P6]
 exact(QE ms k s).2
theorem Lq (k:Int):∀(l A:ML),(∀m∈l,m.2.1≠k)->(∀a∈A,a.2.1≠k)->∀a∈l.foldl BG A,a.2.1≠k
 |[],_,_,hA=>hA
 |m::l,A,hl,hA=>Lq k l (BG A m) (fun q hq=>hl q (List.mem_cons_of_mem _ hq)) (JM A m k hA (hl m List.mem_cons_self))
theorem Qq {ms:ML} {a:Int × Int × Int} (h:a∈At ms):∃m∈ms,m.2.1=a.2.1:=by
 refine Classical.byContradiction fun hn=> ?_
 have h1:∀m∈DF ms,m.2.1≠a.2.1:=fun m hm he=>hn ⟨m,(I6 ms m hm).1,he⟩
 exact Lq a.2.1 (DF ms) [] h1 (fun x hx=>by simp at hx) a h rfl
end
section
def Rt (d:Nat) (f:Int->Int × Bool) (lo hi:Int) (t:Tr):Prop:=AK d t lo hi=d/\∀k,lo<=k->k<hi->Je d t k=f k
def Seg (d:Nat) (f:Int->Int × Bool):Int->Int->List Int->List Tr->Prop
 |lo,hi,[],[t]=>Rt d f lo hi t
 |lo,hi,c::cs,t::ts=>Rt d f lo c t/\lo<c/\c<hi/\Seg d f c hi cs ts
 |_,_,_,_=>False
def Ft (lo hi:Int) (ms:ML):Prop:=∀m∈ms,okN m/\lo<=m.2.1/\m.2.1<hi
def GS (lo hi:Int) (cs:List Int):Prop:=∀i,i<cs.length->frC cs lo i<iAt cs i/\iAt cs i<hi

variable {d:Nat} {f g h:Int->Int × Bool}

theorem Rt.congr {lo hi:Int} {t:Tr} (a:Rt d f lo hi t) (e:∀k,lo<=k->k<hi->f k=g k):Rt d g lo hi t:=⟨a.1,fun k h1 h2=>(a.2 k h1 h2).trans (e k h1 h2)⟩
theorem Seg.len:∀ {cs:List Int} {lo hi:Int} {ts:List Tr},Seg d f lo hi cs ts->cs.length+1=ts.length
 |[],_,_,[_],_=>rfl
 |[],_,_,[],a=>a.elim
 |[],_,_,_::_::_,a=>a.elim
 |_::_,_,_,[],a=>a.elim
 |_::cs,_,_,_::ts,⟨_,_,_,a⟩=>by have:=a.len;simp only[List.length_cons];omega
theorem Seg.congr:∀ {cs:List Int} {lo hi:Int} {ts:List Tr},Seg d f lo hi cs ts->(∀k,lo<=k->k<hi->f k=g k)->Seg d g lo hi cs ts
 |[],_,_,[_],a,e=>Rt.congr a e
 |[],_,_,[],a,_=>a.elim
 |[],_,_,_::_::_,a,_=>a.elim
 |_::_,_,_,[],a,_=>a.elim
 |_::_,_,_,_::_,⟨a,b,c,r⟩,e=>⟨a.congr fun k h1 h2=>e k h1 (by omega),b,c,r.congr fun k h1 h2=>e k (by omega) h2⟩
theorem Seg.append:∀ {cs1:List Int} {lo c hi:Int} {ts1:List Tr} {cs2:List Int} {ts2:List Tr},Seg d f lo c cs1 ts1->lo<c->c<hi->Seg d f c hi cs2 ts2->Seg d f lo hi (cs1++c::cs2) (ts1++ts2)
 |[],_,_,_,[_],_,_,a,h1,h2,r=>⟨a,h1,h2,r⟩
 |[],_,_,_,[],_,_,a,_,_,_=>a.elim
 |[],_,_,_,_::_::_,_,_,a,_,_,_=>a.elim
 |_::_,_,_,_,[],_,_,a,_,_,_=>a.elim
 |_::_,_,_,_,_::_,_,_,⟨a,b,c0,r0⟩,_,h2,r=>⟨a,b,by omega,r0.append c0 h2 r⟩
theorem Seg.drop:∀ {i:Nat} {cs:List Int} {lo hi:Int} {ts:List Tr},Seg d f lo hi cs ts->i<ts.length->Seg d f (frC cs lo i) hi (cs.drop i) (ts.drop i)
 |0,_,_,_,_,a,_=>a
 |i+1,[],_,_,ts,a,hi0=>by have:=a.len;simp at this;omega
 |_+1,_::_,_,_,[],a,_=>a.elim
 |i+1,c::cs,lo,hi,t::ts,⟨_,_,_,r⟩,hi0=>by
  have:=r.drop (i:=i) (by simpa using hi0)
  rw[List.drop_succ_cons,List.drop_succ_cons]
  cases i with
  |zero=>simpa[frC,iAt] using this
  |succ i=>simpa[frC,iAt] using this
theorem Seg.take:∀ {n:Nat} {cs:List Int} {lo hi:Int} {ts:List Tr},Seg d f lo hi cs ts->n<ts.length->Seg d f lo (toC cs hi n) (cs.take n) (ts.take (n+1))
 |0,[],_,_,[_],a,_=>a
 |_,[],_,_,[],a,_=>a.elim
 |_,[],_,_,_::_::_,a,_=>a.elim
 |_+1,[],_,_,[_],_,hn=>by simp at hn
 |_,_::_,_,_,[],a,_=>a.elim
 |0,_::_,_,_,_::_,⟨a,_,_,_⟩,_=>by simpa[toC,iAt,Seg] using a
 |n+1,c::cs,lo,hi,t::ts,⟨a,b,c0,r⟩,hn=>by
  have h1:=r.take (n:=n) (by simpa using hn)
  have e:toC (c::cs) hi (n+1)=toC cs hi n:=by simp[toC,iAt]
  rw[List.take_succ_cons,List.take_succ_cons,e]
  refine⟨a,b, ?_,h1⟩
  unfold toC;split
  ·rename_i hlt
   clear h1 e hn a b;induction cs generalizing c ts n with
   |nil=>simp at hlt
   |cons c1 cs ih=>
    cases ts with
    |nil=>exact r.elim
    |cons t1 ts=>
     obtain⟨_,r1,r2,r3⟩:=r
     cases n with
     |zero=>simpa[iAt] using r1
     |succ n=>
      have:=ih (c:=c1) (ts:=ts) r2 r3 (n:=n) (by simpa using hlt)
      simp only[iAt,List.getD_cons_succ] at this ⊢
      omega
  ·exact c0
theorem Seg.cuts:∀ {cs:List Int} {lo hi:Int} {ts:List Tr},Seg d f lo hi cs ts->GS lo hi cs
 |[],_,_,_,_=>fun i h=>by simp at h
 |_::_,_,_,[],a=>a.elim
 |c::cs,lo,hi,t::ts,⟨_,b,c0,r⟩=>fun i h=>by
  cases i with
  |zero=>simpa[frC,iAt] using⟨b,c0⟩
  |succ i=>
   have:=r.cuts i (by simpa using h)
   cases i with
   |zero=>simpa[frC,iAt] using this
   |succ i=>simpa[frC,iAt] using this
theorem Seg.at:∀ {cs:List Int} {lo hi:Int} {ts:List Tr},Seg d f lo hi cs ts->∀i,i<ts.length->Rt d f (frC cs lo i) (toC cs hi i) (ts.getD i An):=fun a i hi0=>by
 have h1:=a.drop hi0
 have h2:=h1.take (n:=0) (by rw[List.length_drop];omega)
 rename_i cs lo hi ts
 have e1:(ts.drop i).take (0+1)=[ts.getD i An]:=by
  rw[List.drop_eq_getElem_cons hi0,List.take_succ_cons,List.take_zero];simp[List.getD,hi0]
 have e2:toC (cs.drop i) hi 0=toC cs hi i:=by
  unfold toC;by_cases hc:i<cs.length
  ·rw[if_pos (by simp;omega),if_pos hc];simp[iAt,List.getD]
  ·rw[if_neg (by simp;omega),if_neg hc]
 rw[e1,e2,List.take_zero] at h2
 exact h2
theorem Seg.of:∀ {cs:List Int} {lo hi:Int} {ts:List Tr},cs.length+1=ts.length->GS lo hi cs->(∀i,i<ts.length->Rt d f (frC cs lo i) (toC cs hi i) (ts.getD i An))->Seg d f lo hi cs ts
 |[],lo,hi,[t],_,_,a=>by
  show Rt d f lo hi t
  simpa[frC,toC] using a 0 (by simp)
 |[],_,_,[],hl,_,_=>by simp at hl
 |[],_,_,_::_::_,hl,_,_=>by simp at hl
 |_::_,_,_,[],hl,_,_=>by simp at hl
 |c::cs,lo,hi,t::ts,hl,hc,a=>by
  have a0:=a 0 (by simp)
  have c0:=hc 0 (by simp)
  simp only[frC,toC,if_true,List.length_cons,Nat.zero_lt_succ,iAt,List.getD_cons_zero] at a0 c0
  refine⟨a0,c0.1,c0.2,Seg.of (by simpa using hl) (fun i hi0=> ?_) (fun i hi0=> ?_)⟩
  ·have:=hc (i+1) (by simpa using hi0)
   cases i with
   |zero=>simpa[frC,iAt] using this
   |succ i=>simpa[frC,iAt] using this
  ·have:=a (i+1) (by simpa using hi0)
   simp only[frC,toC,iAt,Nat.add_one_ne_zero,if_false,Nat.add_sub_cancel,List.getD_cons_succ,List.length_cons,Nat.add_lt_add_iff_right] at this ⊢
   cases i with
   |zero=>simpa using this
   |succ i=>simpa using this

theorem GS.tail {c lo hi:Int} {cs:List Int} (a:GS lo hi (c::cs)):lo<c/\c<hi/\GS c hi cs:=by
 have c0:=a 0 (by simp)
 simp only[frC,if_true,iAt,List.getD_cons_zero] at c0
 refine⟨c0.1,c0.2,fun i hi0=> ?_⟩
 have:=a (i+1) (by simpa using hi0)
 cases i with
 |zero=>simpa[frC,iAt] using this
 |succ i=>simpa[frC,iAt] using this
theorem GS.lo {lo hi:Int} {cs:List Int} (a:GS lo hi cs):∀i,i<cs.length->lo<iAt cs i:=by
 induction cs generalizing lo with
 |nil=>intro i h;simp at h
 |cons c cs ih=>
  obtain⟨h1,h2,h3⟩:=a.tail
  intro i hi0
  cases i with
  |zero=>simpa[iAt] using h1
  |succ i=>
   have:=ih h3 i (by simpa using hi0)
   simp only[iAt,List.getD_cons_succ] at this ⊢
   omega
theorem GS.asc {lo hi:Int} {cs:List Int} (a:GS lo hi cs):∀i j,i<j->j<cs.length->iAt cs i<iAt cs j:=by
 induction cs generalizing lo with
 |nil=>intro i j _ h;simp at h
 |cons c cs ih=>
  obtain⟨h1,h2,h3⟩:=a.tail
  intro i j hij hj
  cases j with
  |zero=>omega
  |succ j=>
   cases i with
   |zero=>
    have:=h3.lo j (by simpa using hj)
    simpa[iAt] using this
   |succ i=>
    have:=ih h3 i j (by omega) (by simpa using hj)
    simpa[iAt] using this
theorem GS.pref {lo hi:Int} {cs:List Int} (a:GS lo hi cs) {i:Nat} (hi0:i<=cs.length) {k:Int} (h1:frC cs lo i<=k) (h2:k<toC cs hi i):Ar cs k=i:=by
 refine Qo hi0 (fun j hj=> ?_) (fun hlt=> ?_)
 ·unfold frC at h1;rw[if_neg (by omega)] at h1
  by_cases e:j=i-1
  ·rw[e];exact h1
  ·have:=a.asc j (i-1) (by omega) (by omega)
   omega
 ·unfold toC at h2;rw[if_pos hlt] at h2
  omega
theorem GS.cnt {lo hi:Int} {cs:List Int} (a:GS lo hi cs) (k:Int):EP cs k cs.length=Ar cs k:=JH a.asc
theorem GS.mineK {lo hi:Int} {cs:List Int} (a:GS lo hi cs) (i:Nat) (b:ML):mineK cs i b=Am cs i b:=by
 unfold YtadmomgdacfgpaaGreat.mineK Am
 congr 1
 funext m
 rw[a.cnt]

theorem Seg.put:∀ {cs:List Int} {lo hi:Int} {ts:List Tr} {i:Nat} {x:TM},Seg d f lo hi cs ts->i<ts.length->Seg d h (frC cs lo i) (toC cs hi i) x.2 x.1->(∀k,lo<=k->k<hi->Ar cs k≠i->f k=h k)→
  Seg d h lo hi (cs.take i++x.2++cs.drop i) (ts.take i++x.1++ts.drop (i+1))
 |[],_,_,[],_,_,a,_,_,_=>a.elim
 |[],_,_,_::_::_,_,_,a,_,_,_=>a.elim
 |_::_,_,_,[],_,_,a,_,_,_=>a.elim
 |[],lo,hi,[t],i,x,_,hi0,b,_=>by
  have e:i=0:=by simp at hi0;omega
  subst e;simpa[frC,toC] using b
 |c::cs,lo,hi,t::ts,0,x,⟨a,a1,a2,r⟩,_,b,e=>by
  have b' :Seg d h lo c x.2 x.1:=by simpa[frC,toC,iAt] using b
  have r' :Seg d h c hi cs ts:=r.congr fun k h1 h2=>e k (by omega) h2 (by rw[E8 h1];omega)
  simpa using b'.append a1 a2 r'
 |c::cs,lo,hi,t::ts,i+1,x,⟨a,a1,a2,r⟩,hi0,b,e=>by
  have b' :Seg d h (frC cs c i) (toC cs hi i) x.2 x.1:=by
   have e1:frC (c::cs) lo (i+1)=frC cs c i:=by
    cases i with
    |zero=>simp[frC,iAt]
    |succ i=>simp[frC,iAt]
   have e2:toC (c::cs) hi (i+1)=toC cs hi i:=by simp[toC,iAt]
   rw[e1,e2] at b
   exact b
  have r' :=r.put (i:=i) (by simpa using hi0) b' (fun k h1 h2 h3=>e k (by omega) h2 (by rw[E8 h1];omega))
  rw[List.take_succ_cons,List.take_succ_cons,List.drop_succ_cons,List.drop_succ_cons]
  exact⟨a.congr fun k h1 h2=>e k h1 (by omega) (by rw[FV (by omega)];omega),a1,a2,r'⟩

theorem Seg.both {m:TM} {lo hi:Int} (F:Nat->TM) (hl:m.2.length+1=m.1.length) (hc:GS lo hi m.2) (a:∀i,i<m.1.length->Seg d h (frC m.2 lo i) (toC m.2 hi i) (F i).2 (F i).1):Seg d h lo hi (GI F m).2 (GI F m).1:=by
 have key:∀j,j<m.1.length->Seg d h lo (toC m.2 hi j) (Cu F m.2 (j+1)) (AR F (j+1)):=by
  intro j;induction j with
  |zero=>
   intro hj;have:=a 0 hj
   simpa[Cu,AR,frC] using this
  |succ j ih=>
   intro hj;have h1:=ih (by omega)
   have h2:=a (j+1) hj
   have e1:toC m.2 hi j=iAt m.2 j:=by rw[toC,if_pos (by omega)]
   have e2:frC m.2 lo (j+1)=iAt m.2 j:=by rw[frC,if_neg (by omega),Nat.add_sub_cancel]
   rw[e1] at h1
   rw[e2] at h2
   have h3:iAt m.2 j<toC m.2 hi (j+1):=by
    unfold toC;split
    ·have:=(hc (j+1) (by assumption)).1
     rw[e2] at this
     exact this
    ·exact(hc j (by omega)).2
   have:=h1.append (hc.lo j (by omega)) h3 h2
   have e3:Cu F m.2 (j+1+1)=Cu F m.2 (j+1)++iAt m.2 j::(F (j+1)).2:=by
    rw[Cu,if_pos (by omega),Nat.add_sub_cancel,List.append_assoc];rfl
   rw[e3,AR]
   exact this
 have:=key (m.1.length-1) (by omega)
 rw[show m.1.length-1+1=m.1.length by omega,toC,if_neg (by omega)] at this
 exact this
end
section
variable {d:Nat} {f g h:Int->Int × Bool}

theorem Un {l:PL} (a:CP l):Bh l=true:=(Ex _).2 a
theorem Rt.leaf {ps:PL} {lo hi:Int} (a:CP ps) (b:FQ lo hi ps) (hl:ps.length<=4):Rt 1 (Ay ps) lo hi (Dt ps):=by
 refine⟨?_,fun k _ _=>In rfl⟩
 rw[Da rfl,if_pos]
 simp only[Bw,Bool.and_eq_true,decide_eq_true_eq]
 refine⟨Un a,hl,rfl,DH fun i hi0=> ?_⟩
 have:=b ps[i] (List.getElem_mem hi0)
 refine Ep.2 ?_
 have e:kOf (Dt ps).pairs i=(ps[i]'hi0).1:=by
  show kOf ps i=_
  rw[kOf,List.getD,List.getElem?_eq_getElem (show i<ps.length from hi0)];rfl
 rw[e]
 omega
theorem Rt.fork {lo hi:Int} {cs:List Int} {ts:List Tr} {b:ML} (a:Seg d f lo hi cs ts) (hd:0<d) (h2:2<=ts.length) (h4:ts.length<=4) (hb:b.length<=6) (hm:Ft lo hi b) :
  Rt (d+1) (fun k=>Fr (f k) (ofK b k)) lo hi ⟨false,[],cs,ts,b⟩:=by
 have hl:=a.len
 have hc:=a.cuts
 have hf:BH ⟨false,[],cs,ts,b⟩ lo hi=true:=by
  simp only[BH,Ei,Bool.and_eq_true,decide_eq_true_eq]
  refine⟨⟨rfl,⟨h2,h4⟩,hl,hb⟩,DH fun i hi0=> ?_,DH fun i hi0=> ?_⟩
  ·obtain⟨⟨m1,m2⟩,m3,m4⟩:=hm b[i] (List.getElem_mem hi0)
   rw[Ej b i hi0] at m1 m2 m3 m4
   simp only[ES,Bool.and_eq_true]
   refine⟨m1,by simpa using m2,Ep.2 ⟨m3, ?_⟩⟩
   have:mK b i<hi:=m4
   show mK b i<=hi-1
   omega
  ·have:=hc i hi0
   refine Ep.2 ?_
   unfold frC at this;show Dl ⟨false,[],cs,ts,b⟩ lo i+1<=iAt cs i/\iAt cs i<=hi-1
   unfold Dl;show(if i=0 then lo else iAt cs (i-1))+1<=_/\_
   omega
 have hk:∀i,i<ts.length->Cw d ⟨false,[],cs,ts,b⟩ lo hi i=d:=fun i hi0=>(a.at i hi0).1
 refine⟨?_,fun k h1 h3=> ?_⟩
 ·rw[Dw rfl hf,FN]
  ·rw[hk 0 (by omega)]
  ·rw[hk 0 (by omega)];omega
  ·intro i hi0;rw[hk i hi0,hk 0 (by omega)]
 ·rw[Ik rfl]
  have hp:=GH cs k
  have hr:=Hn hp hc ⟨h1,h3⟩ rfl
  have:=(a.at (Ar cs k) (by omega)).2 k hr.1 hr.2
  show Fr (Je d (ts.getD (Ar cs k) An) k) (ofK b k)=_
  rw[this]
theorem Rt.fork0 {lo hi:Int} {cs:List Int} {ts:List Tr} (a:Seg d f lo hi cs ts) (hd:0<d) (h2:2<=ts.length) (h4:ts.length<=4):Rt (d+1) f lo hi ⟨false,[],cs,ts,[]⟩:=
 Rt.fork a hd h2 h4 (by simp) (fun m hm=>by simp at hm)
theorem Vc {e:Nat->Nat} {n r:Nat} (hr:Eh e n=r+1):∀i,i<n->e i=r:=by
 intro i hi0;unfold Eh at hr;split at hr
 ·rename_i hq
  simp only[Bool.and_eq_true] at hq
  have:=GX hq.2 hi0
  simp only[beq_iff_eq] at this
  omega
 ·omega
theorem Rt.kids {lo hi:Int} {T:Tr} (a:AK (d+1) T lo hi=d+1) (hl:T.leaf=false):BH T lo hi=true/\Seg d (fun k=>Je d (QA T k) k) lo hi T.cuts T.kids:=by
 have hf:=(A0 (m:=d) (T:=T) (lo:=lo) (hi:=hi) (by omega) hl).1
 refine⟨hf, ?_⟩
 obtain⟨q1,q2,q3,q4,q5,q6⟩:=Be hf
 have hc:GS lo hi T.cuts:=Ig q6
 rw[Dw hl hf] at a
 have hk:=Vc a
 refine Seg.of q3 hc fun i hi0=>⟨hk i hi0,fun k h1 h2=> ?_⟩
 have:=hc.pref (i:=i) (by omega) h1 h2
 show _=Je d (AQ T (Ar T.cuts k)) k
 rw[this];rfl

theorem Oq {l:PL} (a:Asc l) {i j:Nat} (hij:i<j) (hj:j<l.length):kOf l i<kOf l j:=by
 have h1:=List.pairwise_iff_getElem.1 a i j (by simpa[Bk] using(by omega:i<l.length)) (by simpa[Bk] using hj) hij
 have h2:i<l.length:=by omega
 simpa[Bk,kOf,List.getD,hj,h2] using h1
theorem Qg {l:PL} (a:CP l) (i n:Nat):CP ((l.drop i).take n):=
 ⟨List.Pairwise.sublist (List.Sublist.map Prod.fst ((List.take_sublist _ _).trans (List.drop_sublist _ _))) a.1,fun p hp=>a.2 p (List.mem_of_mem_drop (List.mem_of_mem_take hp))⟩
theorem QI {l:PL} {i n:Nat} {k:Int} (h1:∀j,j<i->j<l.length->kOf l j<k) (h2:∀j,i+n<=j->j<l.length->k<kOf l j):Ay ((l.drop i).take n) k=Ay l k:=by
 have e:l=l.take i++((l.drop i).take n++(l.drop i).drop n):=by rw[List.take_append_drop,List.take_append_drop]
 conv=>rhs;rw[e]
 rw[Gt (fun p hp=> ?_),Fd (fun p hp=> ?_)]
 ·rw[List.drop_drop] at hp
  obtain⟨j,hj,hk⟩:=List.getElem_of_mem hp
  rw[List.getElem_drop] at hk
  rw[List.length_drop] at hj
  have:=h2 (i+n+j) (by omega) (by omega)
  have e2:kOf l (i+n+j)=p.1:=by rw[←hk];simp[kOf,List.getD,show i+n+j<l.length by omega]
  omega
 ·obtain⟨j,hj,hk⟩:=List.getElem_of_mem hp
  rw[List.getElem_take] at hk
  rw[List.length_take] at hj
  have:=h1 j (by omega) (by omega)
  have e2:kOf l j=p.1:=by rw[←hk];simp[kOf,List.getD,show j<l.length by omega]
  omega
theorem Qd {l:PL} {i n:Nat} {p:Int × Int} (hp:p∈(l.drop i).take n):∃j,i<=j/\j<i+n/\j<l.length/\p.1=kOf l j:=by
 obtain⟨j,hj,hk⟩:=List.getElem_of_mem hp
 rw[List.getElem_take,List.getElem_drop] at hk
 rw[List.length_take,List.length_drop] at hj
 exact⟨i+j,by omega,by omega,by omega,by rw[←hk];simp[kOf,List.getD,show i+j<l.length by omega]⟩
theorem U8 {l:PL} (a:Asc l) {i j:Nat} (hij:i<=j) (hj:j<l.length):kOf l i<=kOf l j:=by
 rcases Nat.lt_or_ge i j with h|h
 ·exact Int.le_of_lt (Oq a h hj)
 ·have:i=j:=by omega
  subst this;exact Int.le_refl _

def loF (ps:PL) (lo:Int) (i:Nat):Int:=if i=0 then lo else kOf ps i
theorem Seg.leaves {ps:PL} {lo hi:Int} (a:CP ps) (b:FQ lo hi ps):∀n i,ps.length-i<=n->i<ps.length->2<=ps.length-i->Seg 1 (Ay ps) (loF ps lo i) hi (lfC ps (i+AM (ps.length-i))) (lfT ps i):=by
 intro n;induction n with
 |zero=>intro i h1 h2;omega
 |succ n ih=>
  intro i h1 h2 h3;have hm:=Bs (ps.length-i)
  rw[IY,if_pos h2]
  have h3' :ps.length-i=3->AM (ps.length-i)=3:=fun h=>by rw[h];rfl
  have hin:∀j,j<ps.length->lo<=kOf ps j/\kOf ps j<hi:=fun j hj=>by
   have:=b ps[j] (List.getElem_mem hj)
   simpa[kOf,List.getD,hj] using this
  have hlo:∀j,i<=j->j<ps.length->loF ps lo i<=kOf ps j:=fun j hij hj=>by
   unfold loF;split
   ·exact(hin j hj).1
   ·exact U8 a.1 hij hj
  have hbe:∀k,loF ps lo i<=k->∀j,j<i->j<ps.length->kOf ps j<k:=fun k hk j hji hj=>by
   unfold loF at hk;rw[if_neg (by omega)] at hk
   have:=Oq a.1 hji h2
   omega
  generalize hM:AM (ps.length-i)=M at *
  have hpl:((ps.drop i).take M).length<=4:=by rw[List.length_take];omega
  by_cases he:i+M<ps.length
  ·have h4:2<=ps.length-(i+M):=by omega
   have r:=ih (i+M) (by omega) he h4
   rw[Hp,if_pos he,if_pos (by omega),List.singleton_append]
   have e1:loF ps lo (i+M)=kOf ps (i+M):=by rw[loF,if_neg (by omega)]
   rw[e1] at r
   refine⟨(Rt.leaf (Qg a i M) (fun p hp=> ?_) hpl).congr fun k k1 k2=> ?_, ?_,(hin _ he).2,r⟩
   ·obtain⟨j,j1,j2,j3,j4⟩:=Qd hp
    rw[j4]
    exact⟨hlo j j1 j3,Oq a.1 j2 he⟩
   ·exact QI (hbe k k1) fun j j1 j2=>by have:=U8 a.1 j1 j2;omega
   ·have:=hlo i (Nat.le_refl _) h2
    have:=Oq a.1 (show i<i+M by omega) he
    omega
  ·have e1:lfT ps (i+M)=[]:=by rw[IY,if_neg he]
   have e2:lfC ps (i+M)=[]:=by rw[Hp,if_neg he]
   rw[e1,e2]
   refine(Rt.leaf (Qg a i M) (fun p hp=> ?_) hpl).congr fun k k1 k2=> ?_
   ·obtain⟨j,j1,j2,j3,j4⟩:=Qd hp
    rw[j4]
    exact⟨hlo j j1 j3,(hin j j3).2⟩
   ·exact QI (hbe k k1) fun j j1 j2=>by omega
theorem Seg.leafM {ps:PL} {lo hi:Int} (a:CP ps) (b:FQ lo hi ps):Seg 1 (Ay ps) lo hi (leafM ps).2 (leafM ps).1:=by
 unfold YtadmomgdacfgpaaGreat.leafM
 split
 ·exact Rt.leaf a b (by assumption)
 ·have:=Seg.leaves a b ps.length 0 (by omega) (by omega) (by omega)
  have e:lfC ps 0=lfC ps (0+AM (ps.length-0)):=by rw[Hp ps 0,if_pos (by omega),if_neg (by omega),List.nil_append]
  show Seg 1 (Ay ps) lo hi (lfC ps 0) (lfT ps 0)
  rw[e]
  exact this

theorem Seg.packs {m:TM} {lo hi:Int} (a:Seg d f lo hi m.2 m.1) (hd:0<d):∀n i,m.1.length-i<=n->i<m.1.length->2<=m.1.length-i->Seg (d+1) f (frC m.2 lo i) hi (pkC m (i+AM (m.1.length-i))) (pkT m i):=by
 intro n;induction n with
 |zero=>intro i h1 h2;omega
 |succ n ih=>
  intro i h1 h2 h3;have hl:=a.len
  have hm:=Bs (m.1.length-i)
  rw[Jy,if_pos h2,FD]
  have h3' :m.1.length-i=3->AM (m.1.length-i)=3:=fun h=>by rw[h];rfl
  generalize hM:AM (m.1.length-i)=M at *
  have s1:=(a.drop h2).take (n:=M-1) (by rw[List.length_drop];omega)
  have e1:toC (m.2.drop i) hi (M-1)=toC m.2 hi (i+(M-1)):=by
   unfold toC;by_cases hc:i+(M-1)<m.2.length
   ·rw[if_pos (by rw[List.length_drop];omega),if_pos hc];simp[iAt,List.getD]
   ·rw[if_neg (by rw[List.length_drop];omega),if_neg hc]
  rw[e1,show M-1+1=M by omega] at s1
  have s2:=Rt.fork0 s1 hd (by rw[List.length_take,List.length_drop];omega) (by rw[List.length_take];omega)
  by_cases he:i+M<m.1.length
  ·have r:=ih (i+M) (by omega) he (by omega)
   rw[IQ,if_pos he,if_pos (by omega),List.singleton_append]
   have e2:frC m.2 lo (i+M)=iAt m.2 (i+M-1):=by rw[frC,if_neg (by omega)]
   have e3:toC m.2 hi (i+(M-1))=iAt m.2 (i+M-1):=by rw[toC,if_pos (by omega),show i+(M-1)=i+M-1 by omega]
   rw[e2] at r
   rw[e3] at s2
   refine⟨s2, ?_,(a.cuts _ (by omega)).2,r⟩
   unfold frC;split
   ·exact a.cuts.lo _ (by omega)
   ·exact a.cuts.asc _ _ (by omega) (by omega)
  ·have e4:pkT m (i+M)=[]:=by rw[Jy,if_neg he]
   have e5:pkC m (i+M)=[]:=by rw[IQ,if_neg he]
   have e6:toC m.2 hi (i+(M-1))=hi:=by rw[toC,if_neg (by omega)]
   rw[e4,e5]
   rw[e6] at s2
   exact s2
theorem Seg.pack {m:TM} {lo hi:Int} (a:Seg d f lo hi m.2 m.1) (hd:0<d) (h2:2<=m.1.length):Seg (d+1) f lo hi (CJ m).2 (CJ m).1:=by
 have:=a.packs hd m.1.length 0 (by omega) (by omega) (by omega)
 have e:pkC m 0=pkC m (0+AM (m.1.length-0)):=by rw[IQ m 0,if_pos (by omega),if_neg (by omega),List.nil_append]
 show Seg (d+1) f lo hi (pkC m 0) (pkT m 0)
 rw[e]
 exact this

def SE (d:Nat) (g:Tr->ML->TM):Prop:=∀T ms lo hi,AK d T lo hi=d->Ft lo hi ms->Seg d (fun k=>Fr (Je d T k) (ofK ms k)) lo hi (g T ms).2 (g T ms).1
theorem Ft.mine {lo hi:Int} {cs:List Int} {b:ML} (a:Ft lo hi b) (hc:GS lo hi cs) {i:Nat} (hi0:i<=cs.length):Ft (frC cs lo i) (toC cs hi i) (Am cs i b):=fun m hm=>by
 obtain⟨h1,h2⟩:=List.mem_filter.1 hm
 obtain⟨h3,h4⟩:=a m h1
 exact⟨h3,Hn hi0 hc h4 (by simpa using h2)⟩
theorem Ft.rest {lo hi:Int} {cs:List Int} {b:ML} (a:Ft lo hi b) (i:Nat):Ft lo hi (Ba cs i b):=fun m hm=>a m (List.mem_filter.1 hm).1
theorem Mc {cs:List Int} {k:Int} {i:Nat} (b:ML) (e:Ar cs k=i):ofK (Am cs i b) k=ofK b k/\ofK (Ba cs i b) k=[]:=by
 constructor
 ·unfold ofK Am;rw[List.filter_filter]
  refine List.filter_congr fun m _=> ?_
  by_cases hm:m.2.1=k<;>simp[hm,e]
 ·refine List.filter_eq_nil_iff.2 fun m hm=> ?_
  have:=(List.mem_filter.1 hm).2
  intro h1;simp at h1
  rw[h1,e] at this
  simp at this
theorem Va {cs:List Int} {k:Int} {i:Nat} (b:ML) (e:Ar cs k≠i):ofK (Ba cs i b) k=ofK b k/\ofK (Am cs i b) k=[]:=by
 constructor
 ·unfold ofK Ba;rw[List.filter_filter]
  refine List.filter_congr fun m _=> ?_
  by_cases hm:m.2.1=k<;>simp[hm,e]
 ·refine List.filter_eq_nil_iff.2 fun m hm=> ?_
  have:=(List.mem_filter.1 hm).2
  intro h1;simp at h1
  rw[h1] at this
  simp[e] at this
theorem Seg.kid {G:Tr->ML->TM} (hg:SE d G) {m:TM} {lo hi:Int} {b:ML} (a:Seg d f lo hi m.2 m.1) (hb:Ft lo hi b) {i:Nat} (hi0:i<m.1.length):Seg d (fun k=>Fr (f k) (ofK b k)) (frC m.2 lo i) (toC m.2 hi i) (G (m.1.getD i An) (Am m.2 i b)).2 (G (m.1.getD i An) (Am m.2 i b)).1:=by
 have hl:=a.len
 have hr:=a.at i hi0
 refine(hg _ _ _ _ hr.1 (hb.mine a.cuts (by omega))).congr fun k h1 h2=> ?_
 rw[hr.2 k h1 h2,(Mc b (a.cuts.pref (by omega) h1 h2)).1]
theorem Seg.down {G:Tr->ML->TM} (hg:SE d G) {m:TM} {lo hi:Int} {b:ML} (a:Seg d f lo hi m.2 m.1) (hb:Ft lo hi b):Seg d (fun k=>Fr (f k) (ofK b k)) lo hi (CM G m b).2 (CM G m b).1:=by
 rw[Lu]
 have hl:=a.len
 refine Seg.both _ hl a.cuts fun i hi0=> ?_
 unfold Ct;split
 ·exact a.kid hg hb hi0
 ·rename_i hz
  have hz' :Am m.2 i b=[]:=List.length_eq_zero_iff.1 (by omega)
  refine(a.at i hi0).congr fun k h1 h2=> ?_
  rw[←(Mc b (a.cuts.pref (by omega) h1 h2)).1,hz'];rfl
theorem Seg.loop {G:Tr->ML->TM} (hg:SE d G) {lo hi:Int}:∀n (m:TM) (b:ML) (f:Int->Int × Bool),Seg d f lo hi m.2 m.1->Ft lo hi b→
  ∃f',Seg d f' lo hi (Br G n m b).1.2 (Br G n m b).1.1/\Ft lo hi (Br G n m b).2/\∀k,lo<=k->k<hi->Fr (f' k) (ofK (Br G n m b).2 k)=Fr (f k) (ofK b k)
 |0,m,b,f,a,hb=>⟨f,a,hb,fun _ _ _=>rfl⟩
 |n+1,m,b,f,a,hb=>by
  rw[Br]
  split
  ·have hl:=a.len
   have hat:=(Dm m.2 b m.1.length (by omega)).1
   generalize (Ag m.2 b m.1.length).1=i at *
   let hh:Int->Int × Bool:=fun k=>if Ar m.2 k=i then Fr (f k) (ofK b k) else f k
   have p1:Seg d hh (frC m.2 lo i) (toC m.2 hi i) (G (m.1.getD i An) (Am m.2 i b)).2 (G (m.1.getD i An) (Am m.2 i b)).1:=
    (a.kid hg hb hat).congr fun k h1 h2=>by
     show _=if _ then _ else _
     rw[if_pos (a.cuts.pref (by omega) h1 h2)]
   have p2:Seg d hh lo hi (BD m i (G (m.1.getD i An) (Am m.2 i b))).2 (BD m i (G (m.1.getD i An) (Am m.2 i b))).1:=
    a.put hat p1 fun k _ _ h3=>by
     show _=if _ then _ else _
     rw[if_neg h3]
   obtain⟨f',q1,q2,q3⟩:=Seg.loop hg n _ (Ba m.2 i b) hh p2 (hb.rest i)
   refine⟨f',q1,q2,fun k h1 h2=>(q3 k h1 h2).trans ?_⟩
   show Fr (if Ar m.2 k=i then Fr (f k) (ofK b k) else f k) _=_
   by_cases e:Ar m.2 k=i
   ·rw[if_pos e,(Mc b e).2];rfl
   ·rw[if_neg e,(Va b e).1]
  ·exact⟨f,a,hb,fun _ _ _=>rfl⟩
theorem Ft.shrink {lo hi:Int} {b:ML} (a:∀m∈b,lo<=m.2.1/\m.2.1<hi):Ft lo hi (At b):=fun m hm=>by
 obtain⟨x,hx,he⟩:=Qq hm
 exact⟨Mz b m hm,by rw[←he];exact a x hx⟩
theorem TB:∀d,SE (d+1) (Ae (d+1)):=by
 intro d;induction d with
 |zero=>
  intro T ms lo hi hT hms
  cases hl:T.leaf
  ·have hk:=(A0 (m:=0) (T:=T) (lo:=lo) (hi:=hi) (by omega) hl)
   have:=hk.2 0 (by have:=(Be hk.1).2.1.1;omega)
   exact absurd rfl this
  ·obtain⟨q1,q2,q3,q4,q5,q6⟩:=Cb (Bf (m:=0) (T:=T) (lo:=lo) (hi:=hi) (by omega) hl)
   rw[Ae,if_pos hl]
   refine(Seg.leafM (JV q1 ms) (JA q6 fun m hm=>(hms m hm).2)).congr fun k _ _=> ?_
   rw[Im q1,In hl]
 |succ d ih=>
  intro T ms lo hi hT hms
  cases hl:T.leaf
  ·obtain⟨hf,hs⟩:=Rt.kids hT hl
   obtain⟨q1,q2,q3,q4,q5,q6⟩:=Be hf
   have hb:=Gm q5
   rw[Ae,if_neg (by rw[hl];simp)]
   have hB:Ft lo hi (At (T.buf++ms)):=Ft.shrink fun m hm=>(List.mem_append.1 hm).elim (fun h1=>(hb m h1).2) (fun h1=>(hms m h1).2)
   obtain⟨f',r1,r2,r3⟩:=Seg.loop ih (At (T.buf++ms)).length (T.kids,T.cuts) (At (T.buf++ms)) _ hs hB
   have hsh:=(LK (Ca (d+1)) (At (T.buf++ms)).length (T.kids,T.cuts) (At (T.buf++ms)) ⟨q3,fun t ht=>by
    obtain⟨i,hi0,rfl⟩:=List.getElem_of_mem ht
    have e:=(hs.at i hi0).1
    have e2:T.kids.getD i An=T.kids[i]:=by simp[List.getD,hi0]
    rw[e2] at e
    have:=Gp (m:=d+1) (T:=T.kids[i]) (lo:=frC T.cuts lo i) (up:=toC T.cuts hi i) (by omega)
    rw[e] at this
    exact this⟩ (Nat.le_refl _))
   have hval:∀k,lo<=k->k<hi->Fr (f' k) (ofK (Br (Ae (d+1)) (At (T.buf++ms)).length (T.kids,T.cuts) (At (T.buf++ms))).2 k)=Fr (Je (d+1+1) T k) (ofK ms k):=fun k h1 h2=>by
    rw[r3 k h1 h2,Rd,IL,Hj,Ik hl]
   generalize Br (Ae (d+1)) (At (T.buf++ms)).length (T.kids,T.cuts) (At (T.buf++ms))=r at *
   unfold Ip;split
   ·have hd:=Seg.down ih r1 r2
    exact((hd.pack (by omega) (by have:=(Hz (Ca (d+1)) hsh.1 r.2).2.2;omega))).congr hval
   ·exact(Rt.fork r1 (by omega) (by have:=hsh.2.2.1;simp only at this;omega) (by omega) hsh.2.2.2 r2).congr hval
  ·have:=Da (m:=d+1) (T:=T) (lo:=lo) (hi:=hi) hl
   rw[hT] at this
   split at this<;>omega
end
end Go.Proofs.YtadmomgdacfgpaaGreat
